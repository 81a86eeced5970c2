/- What number tells of a line: tellNumbered. -/
import Derived.Test.YtmdmcmdchjlmiaaDoorForm
import Derived.Test.YtmdmcmdchjlmiaaDoorNumberPlain
import Derived.Test.YtmdmcmdchjlmiaaDoorItell
import Derived.Test.YtmdmcmdchjlmiaaDoorIfeedb
namespace Go.Proofs.YtmdmcmdchjlmiaaDoor
open Go.RowKit

def numberBase : Nat := 1 + 1
def numberM : LM Int where
  T := 85
  F := 29
  piece _ := .nilFunc
  ext g u X rest w := rest = [.int .i64 (wrap64 u)] ∧ (∀ k, ¬ X k) ∧ TenAt w ∧ numberBase ≤ g
  tell := numberT
  good _ := True
  quiet := false
  base := numberBase
  extKeep _ _ _ _ _ _ _ h hf hp := ⟨h.1, h.2.1, h.2.2.1.frame hf (hp _ (.inr (by decide))), h.2.2.2⟩
  extBase _ _ _ _ _ h := h.2.2.2
  extOld _ _ _ _ _ h k hk := absurd hk (h.2.1 k)
theorem number_enters : Enters numberM.F := enters_of Tryd.func29 (by kernel_rfl) (by kernel_rfl)
def numberRow (nd : Int) (f : Bool) (b : List UInt8) (g : Nat) (u : Int) : Array Value := rowA [.int .i64 nd, .nilFunc] f b [numberM.each g, .nilFunc, .int .i64 (wrap64 u)]
section
variable {g : Nat} {nd : Int} {f : Bool} {b : List UInt8} {u : Int} {X : Nat → Prop} {w : World}
theorem number_heap (h : numberM.RepN g nd f b u X w) : w.heap[g]? = some (.cells (numberRow nd f b g u) 85 (0, 0)) ∧ (∀ k, ¬ X k) ∧ TenAt w ∧ numberBase ≤ g ∧ b.length ≤ 64 ∧ (f = true → b = []) := by
  obtain ⟨rest, h, rfl, hX, hm, hg⟩ := h
  exact ⟨h.heap, hX, hm, hg, h.le, h.fail⟩
theorem number_of (h : w.heap[g]? = some (.cells (numberRow nd f b g u) 85 (0, 0))) (hb : b.length ≤ 64) (hf : f = true → b = []) (hm : TenAt w) (hg : numberBase ≤ g) (hX : ∀ k, ¬ X k) : numberM.RepN g nd f b u X w :=
  ⟨_, ⟨h, rfl, hb, hf⟩, rfl, hX, hm, hg⟩
theorem number_c70 (h : numberM.RepN g nd f b u X w) : w.cell? ⟨g, 70, none⟩ = some (.int .i64 (wrap64 u)) := by
  obtain ⟨h, -, -, -, hb, -⟩ := number_heap h
  rw [cell_of_row _ _ _ _ _ _ h]
  simp only [numberRow, rowA, List.getElem?_toArray]
  rw [List.getElem?_append_right (by simp [length_splL hb])]
  simp [length_splL hb]
/-- The next line's number is put anew. -/
theorem number_put (h : numberM.RepN g nd f b u X w) (n : Int) : numberM.RepN g nd f b n X (w.setCell ⟨g, 70, none⟩ (.int .i64 (wrap64 n))) := by
  obtain ⟨h, hX, hm, hg, hb, hf⟩ := number_heap h
  refine number_of ?_ hb hf (hm.frame (Frame.cell w ⟨g, 70, none⟩ _) (fun e => by have e' : 1 = g := e; unfold numberBase at hg; omega)) hg hX
  rw [setCell_row h]
  simp only [numberRow, rowA, List.setIfInBounds_toArray]
  rw [List.set_append_right _ _ (by simp [length_splL hb])]
  simp [length_splL hb]
end

set_option maxRecDepth 100000 in
set_option maxHeartbeats 4000000 in
theorem numbered_any (g : Nat) (nd : Int) (f : Bool) (b : List UInt8) (u : Int) (X : Nat → Prop) (x : List UInt8) (w : World) (h : numberM.RepN g nd f b u X w) (hx : x.length ≤ 64) :
    Calls Tryd.prog 29 #[.pointer (some ⟨g, 0, none⟩), strV x] w fun e w' => ∃ v, e = .returned v ∧ OwnOuts w.heap.size w' v (numberT u x).2.1 ∧ numberM.RepN g nd f b (u + 1) X w' ∧ Frame (· = g) w w' := by
  have H := Lib.hid h
  have c70 := number_c70 h
  have hm := (number_heap h).2.2.1
  clear h
  obtain ⟨t, ht⟩ : ∃ t, t = Lib.itoa (wrap64 u) ++ 32 :: x := ⟨_, rfl⟩
  rw [show (numberT u x).2.1 = [(0, t ++ [10])] by rw [ht]; rfl]
  have hput := fun (W : World) (hr : numberM.RepN g nd f b u X W) => number_put hr (u + 1)
  rw [← num_wrap_up] at hput
  obtain ⟨n, hn⟩ : ∃ n, n = wrap64 u := ⟨_, rfl⟩
  have hn0 := (num_wrap u).1
  have hn1 := (num_wrap u).2
  rw [← hn] at c70 ht hn0 hn1 hput
  have hil := Lib.itoa_length_le n hn0 hn1
  have hform := fun (W : World) (hW : TenAt W) => format_any n hn0 hn1 W hW
  obtain ⟨d, hd⟩ : ∃ d, d = Lib.itoa n := ⟨_, rfl⟩
  rw [← hd] at hform hil ht
  obtain ⟨Sx, hSx⟩ : ∃ S : ByteArray, strV x = .string S := ⟨_, rfl⟩
  obtain ⟨Sd, hSd⟩ : ∃ S : ByteArray, strV d = .string S := ⟨_, rfl⟩
  have zx := strV_size hSx
  have zd := strV_size hSd
  have hS1 := strV_add hSd (show strV [32] = .string { data := #[32] } from rfl)
  have hS2 := strV_add hS1 hSx
  have z1 := strV_size hS1
  rw [List.append_assoc, List.singleton_append, ← ht] at hS2
  rw [List.length_append] at z1
  have a1 : (9223372036854775807 < Sd.size + 1) = False := by simp; omega
  have a2 : (9223372036854775807 < Sd.size + 1 + Sx.size) = False := by simp; omega
  have hxt : t.length ≤ 1000 := by rw [ht]; simp; omega
  rw [hSx]
  rw [hSd] at hform
  obtain ⟨S, hS⟩ : ∃ S : ByteArray, S = Sd ++ { data := #[32] } ++ Sx := ⟨_, rfl⟩
  have HS := Lib.hid hS
  rw [← hS] at hS2
  have HS2 := Lib.hid hS2
  have HX := Lib.hid hxt
  have HF := Lib.hid hform
  have HTen := Lib.hid hm
  have HPut := Lib.hid hput
  have HC := Lib.hid c70
  clear hd hSx hSd zx zd hS1 hS2 hS ht hx hxt hform hm hil z1 hput hn hn0 hn1
  go_enter Tryd.func29, Tryd.ntmps29
  go_wp2_with fail
  refine (HF.out _ HTen.out).mono ?_
  rintro e w6 ⟨rfl, hb1⟩
  have hr6 := H.out.frame (Below.toFrame hb1 fun _ => False) (fun _ _ h => h)
  have c70 := Pm.Below.cell hb1 HC.out
  have z70 := hr6.froz 70
  have HB6 := Lib.hid hb1
  have H6 := Lib.hid hr6
  have hsz6 := hb1.size
  clear hb1 hr6
  go_upto_region 3 with fail
  rw [← HS.out]
  have hr7 := HPut.out w6 H6.out
  have hf7 : Frame (· = g) w6 (w6.setCell ⟨g, 70, none⟩ (.int .i64 (wrap64 (n + 1)))) := Frame.cell w6 ⟨g, 70, none⟩ _
  generalize w6.setCell ⟨g, 70, none⟩ (.int .i64 (wrap64 (n + 1))) = w7 at hr7 hf7 ⊢
  have hsz7 := hf7.size
  have H7 := Lib.hid hr7
  have HF7 := Lib.hid hf7
  clear hr7 hf7 c70 z70
  go_wp2_with fail
  refine (tellOut_wide 0 _ t _ (text_new w7 t S HS2.out (0, 0)) HX.out).mono ?_
  rintro e w8 ⟨v, rfl, ho, hb⟩
  have HO := Lib.hid ho
  have HB := Lib.hid hb
  clear ho hb
  go_wp2_with fail
  go_ret
  have hb8 : Below w7.heap.size w7 w8 := ((Below.refl w7.heap.size w7).alloc (Nat.le_refl _) _).trans (HB.out.mono (by simp))
  refine ⟨v, rfl, HO.out.mono (by simp; omega), H7.out.frame (Below.toFrame hb8 fun _ => False) (fun _ _ h => h), ?_⟩
  exact ((Below.toFrame HB6.out _).trans HF7.out).trans (Below.toFrame hb8 _)

theorem number_own (g : Nat) (X : Nat → Prop) {w w' : World} (h : Frame (· = g) w w') : Frame (numberM.own g X) w w' := h.mono (fun _ _ e => .inl e)
theorem number_tells (g : Nat) : numberM.Tells g := by
  intro s X x w h hl hb hx
  obtain ⟨hf, -⟩ := h.live hl
  have hn : needOf s = 0 := by rw [needOf, if_pos hl]
  have hR := h.repN
  rw [hn, hf, hb] at hR
  rw [hf, hb]
  refine (numbered_any g 0 false [] s.u X x w hR hx).mono ?_
  rintro e w' ⟨v, rfl, ho, hr, hfr⟩
  exact ⟨v, X, rfl, ho, ⟨hr, fun _ => ⟨rfl, trivial⟩⟩, fun _ h => h, fun _ h => .inl h, number_own _ _ hfr⟩

end Go.Proofs.YtmdmcmdchjlmiaaDoor
