/- What tail's own calls do: takeFirst, keep, tellFirst. -/
import Derived.Test.YtdpjopemdhbgpaaDoorTkept
import Derived.Test.YtdpjopemdhbgpaaDoorItell
import Derived.Test.YtdpjopemdhbgpaaDoorIfeedb
import Derived.Outline
import Derived.Deep.RegionWith
namespace Go.Proofs.YtdpjopemdhbgpaaDoor
open Go.RowKit

/-- Tail: what is its own. -/
def tailT (N : Nat) : Teller Lines := fun u x => (if N < (u ++ [x]).length then (u ++ [x]).drop 1 else u ++ [x], [], false)
def tailM (N : Nat) : LM Lines where
  T := 86
  F := 30
  piece g := .func (.func 31) #[.pointer (some ⟨g, 0, none⟩)] #[]
  ext g u X rest w := ∃ kv, rest = [.int .i64 N, kv] ∧ KeptIn w kv X u ∧ ¬ X g
  tell := tailT N
  good u := u.length ≤ N ∧ N ≤ 1000
  quiet := true
  base := 0
  extBase _ _ _ _ _ _ := Nat.zero_le _
  extKeep g u X rest w w' p h hf hp := by
    obtain ⟨kv, e, hk, hg⟩ := h
    exact ⟨kv, e, hk.frame hf (fun k hk => hp k (.inl hk)), hg⟩
  extOld g u X rest w h k hk := by
    obtain ⟨kv, e, hk2, hg⟩ := h
    exact ⟨hk2.old k hk, fun e => hg (e ▸ hk)⟩
theorem tail_enters (N : Nat) : Enters (tailM N).F := enters_of Tryd.func30 (by kernel_rfl) (by kernel_rfl)
def tailRow (N : Nat) (nd : Int) (f : Bool) (b : List UInt8) (g : Nat) (kv : Value) : Array Value := rowA [.int .i64 nd, (tailM N).piece g] f b [(tailM N).each g, .nilFunc, .int .i64 N, kv]
section
variable {N g : Nat} {nd : Int} {f : Bool} {b : List UInt8} {u : Lines} {X : Nat → Prop} {w : World} {kv : Value}
theorem tail_row (h : (tailM N).RepN g nd f b u X w) : ∃ kv, w.heap[g]? = some (.cells (tailRow N nd f b g kv) 86 (0, 0)) ∧ KeptIn w kv X u ∧ ¬ X g ∧ b.length ≤ 64 ∧ (f = true → b = []) := by
  obtain ⟨rest, h, kv, rfl, hk, hg⟩ := h
  exact ⟨kv, h.heap, hk, hg, h.le, h.fail⟩
theorem tail_of (h : w.heap[g]? = some (.cells (tailRow N nd f b g kv) 86 (0, 0))) (hk : KeptIn w kv X u) (hg : ¬ X g) (hb : b.length ≤ 64) (hf : f = true → b = []) : (tailM N).RepN g nd f b u X w :=
  ⟨_, ⟨h, rfl, hb, hf⟩, kv, rfl, hk, hg⟩
theorem tailRow_len (hb : b.length ≤ 64) : (tailRow N nd f b g kv).size = 72 := by simp [tailRow, rowA, length_splL hb]
theorem tail_c70 (h : w.heap[g]? = some (.cells (tailRow N nd f b g kv) 86 (0, 0))) (hb : b.length ≤ 64) : w.cell? ⟨g, 70, none⟩ = some (.int .i64 N) := by
  rw [cell_of_row _ _ _ _ _ _ h]
  simp only [tailRow, rowA, List.getElem?_toArray]
  rw [List.getElem?_append_right (by simp [length_splL hb])]
  simp [length_splL hb]
theorem tail_c71 (h : w.heap[g]? = some (.cells (tailRow N nd f b g kv) 86 (0, 0))) (hb : b.length ≤ 64) : w.cell? ⟨g, 71, none⟩ = some kv := by
  rw [cell_of_row _ _ _ _ _ _ h]
  simp only [tailRow, rowA, List.getElem?_toArray]
  rw [List.getElem?_append_right (by simp [length_splL hb])]
  simp [length_splL hb]
theorem tail_put (h : w.heap[g]? = some (.cells (tailRow N nd f b g kv) 86 (0, 0))) (hb : b.length ≤ 64) (kv' : Value) : (w.setCell ⟨g, 71, none⟩ kv').heap[g]? = some (.cells (tailRow N nd f b g kv') 86 (0, 0)) := by
  rw [setCell_row h]
  simp only [tailRow, rowA, List.setIfInBounds_toArray]
  rw [List.set_append_right _ _ (by simp [length_splL hb])]
  simp [length_splL hb]
end

set_option maxRecDepth 100000 in
set_option maxHeartbeats 2000000 in
theorem takeFirst_any (N g : Nat) (nd : Int) (f : Bool) (b : List UInt8) (l : List UInt8) (r : Lines) (X : Nat → Prop) (w : World) (h : (tailM N).RepN g nd f b (l :: r) X w) (hr : r.length ≤ 2000) :
    Calls Tryd.prog 43 #[.pointer (some ⟨g, 0, none⟩)] w fun e w' => e = .returned (strV l) ∧ (tailM N).RepN g nd f b r X w' ∧ Frame ((tailM N).own g X) w w' := by
  obtain ⟨kv, hh, hk, hg, hb, hf⟩ := tail_row h
  obtain ⟨kb, off, cap, rfl, hcap, hX, hc, hz, hnext⟩ := hk.head
  have c71 := tail_c71 hh hb
  have hne : kb ≠ g := fun e => hg (e ▸ hX)
  have hlt := (Array.getElem?_eq_some_iff.1 hh).1
  have h1 : (w.setCell ⟨kb, off, none⟩ (.string ByteArray.empty)).heap[g]? = some (.cells (tailRow N nd f b g (.slice (some ⟨kb, off, none⟩) (r.length + 1) cap)) 86 (0, 0)) := (Frame.cell w ⟨kb, off, none⟩ _).heap hh (fun e => hne e.symm)
  have HH1 := Lib.hid h1
  have HNext := Lib.hid hnext
  obtain ⟨S, hS⟩ : ∃ S : ByteArray, strV l = .string S := ⟨_, rfl⟩
  rw [hS] at hc ⊢
  have HB := Lib.hid hb
  have HF := Lib.hid hf
  have HG := Lib.hid hg
  have HX := Lib.hid hX
  have q1 : (0 : Int) < ((r.length + 1 : Nat) : Int) := by omega
  have q2 : (1 : Int) ≤ ((r.length + 1 : Nat) : Int) := by omega
  have q3 : ((r.length + 1 : Nat) : Int) ≤ (cap : Int) := by omega
  have q4 : (1 : Int) ≤ (cap : Int) := by omega
  obtain ⟨n, hn⟩ : ∃ n, n = r.length + 1 := ⟨_, rfl⟩
  rw [← hn] at c71 h1 q1 q2 q3
  have HN := Lib.hid hn
  have hz71 : w.frozen? ⟨g, 71, none⟩ = false := h.froz 71
  clear h hh hk hnext hS hb hf hg hX h1 hcap hn
  have hc71 : ∀ v, (w.setCell ⟨kb, off, none⟩ v).cell? ⟨g, 71, none⟩ = some (.slice (some ⟨kb, off, none⟩) n cap) := fun v => (Frame.cell w ⟨kb, off, none⟩ v).cell? c71 (fun e => hne (by simpa using e.symm))
  go_enter Tryd.func43, Tryd.ntmps43
  go_wp2_with fail
  all_goals
    have hn1 : n - 1 = r.length := by have := HN.out; omega
    have hf1 := Frame.cell w ⟨kb, off, none⟩ (.string ByteArray.empty)
    have hk := HNext.out _ ((Frame.cell (w.setCell ⟨kb, off, none⟩ (.string ByteArray.empty)) ⟨g, 71, none⟩ (.slice (if cap = 1 then some ⟨kb, off, none⟩ else some ⟨kb, off + 1, none⟩) (n - 1) (cap - 1))).mono (fun k _ e e2 => hne (by rw [← e2]; exact e)))
    go_ret
    refine ⟨rfl, tail_of (tail_put HH1.out HB.out _) ?_ HG.out HB.out HF.out, ((hf1.mono (fun k _ e => by subst e; exact .inr HX.out)).trans ((Frame.cell _ ⟨g, 71, none⟩ _).mono (fun k _ e => .inl e)))⟩
    rw [← hn1] at hk
    simp_all only [if_true, if_false]
    exact hk

def TailTold (N g : Nat) (X : Nat → Prop) (w : World) (L : Lines) (e : Ending) (w' : World) : Prop :=
  ∃ v X', e = .returned v ∧ OwnOuts w.heap.size w' v [] ∧ (tailM N).Rep g ⟨true, false, [], L⟩ X' w' ∧ (v = .slice none 0 0 ∧ ([] : Outs) = []) ∧ (∀ k, X' k → X k ∨ w.heap.size ≤ k) ∧ Frame ((tailM N).own g X) w w'

set_option maxRecDepth 100000 in
set_option maxHeartbeats 4000000 in
theorem tail_tells (N g : Nat) : (tailM N).Tells g := by
  intro s X x w h hl hb hx
  obtain ⟨hf, hg1, hg2⟩ := h.live hl
  obtain ⟨live, fail, b, u⟩ := s
  simp only at hl hb hf hg1
  subst hl hb hf
  have hrep : (tailM N).RepN g 0 false [] u X w := h.repN
  obtain ⟨L, hL⟩ : ∃ L, L = (if N < (u ++ [x]).length then (u ++ [x]).drop 1 else u ++ [x]) := ⟨_, rfl⟩
  have htell : (tailM N).tell u x = (L, [], false) := by rw [hL]; rfl
  show Calls Tryd.prog 30 #[.pointer (some ⟨g, 0, none⟩), strV x] w fun e w' => ∃ v X', e = .returned v ∧ OwnOuts w.heap.size w' v ((tailM N).tell u x).2.1 ∧ (tailM N).Rep g ⟨!((tailM N).tell u x).2.2, false, [], ((tailM N).tell u x).1⟩ X' w' ∧ (v = .slice none 0 0 ∧ ((tailM N).tell u x).2.1 = []) ∧ (∀ k, X' k → X k ∨ w.heap.size ≤ k) ∧ Frame ((tailM N).own g X) w w'
  rw [htell]
  show Calls Tryd.prog 30 #[.pointer (some ⟨g, 0, none⟩), strV x] w (TailTold N g X w L)
  have hgood : L.length ≤ N := by
    rw [hL]
    split
    · simp at *; omega
    · simp at *; omega
  have HGood := Lib.hid hgood
  have hLL := Lib.hid hL
  clear h htell hL hgood
  obtain ⟨kv, hh, hk, hg, hb, hf⟩ := tail_row hrep
  have c71 := tail_c71 hh hb
  have c70 := tail_c70 hh hb
  have hlt := (Array.getElem?_eq_some_iff.1 hh).1
  have hz71 : w.frozen? ⟨g, 71, none⟩ = false := hrep.froz 71
  obtain ⟨ka, kc, rfl⟩ := hk.slice
  obtain ⟨S, hS⟩ : ∃ S : ByteArray, strV x = .string S := ⟨_, rfl⟩
  rw [hS]
  have HS := Lib.hid hS
  have HH := Lib.hid hh
  have HK := Lib.hid hk
  have HG := Lib.hid hg
  have hal : Below w.heap.size w (w.alloc (.cells #[.string S] 9)) := (Below.refl _ _).alloc (Nat.le_refl _) _
  have hkal := hk.frame (Below.toFrame hal fun _ => False) (fun _ _ h => h)
  have HKal := Lib.hid hkal
  have hcn : (w.alloc (.cells #[.string S] 9)).cell? ⟨w.heap.size, 0, none⟩ = some (strV x) := by rw [hS, cell_of_row _ _ _ _ _ _ (heap_alloc_last w _)]; rfl
  have HCN := Lib.hid hcn
  have HXo := Lib.hid hk.old
  clear hrep hh hk hg hS hkal hcn hal
  have hu : u.length ≤ 1000 := by omega
  go_enter Tryd.func30, Tryd.ntmps30
  have hold1 : ∀ w1, Frame X (w.alloc (.cells #[.string S] 9)) w1 → Frame X w w1 ∧ w1.heap[g]? = some (.cells (tailRow N 0 false [] g (.slice ka u.length kc)) 86 (0, 0)) ∧ w1.frozen? ⟨g, 71, none⟩ = false ∧ w1.cell? ⟨g, 71, none⟩ = some (.slice ka u.length kc) := by
    intro w1 hf1
    have hh1 := ((Frame.refl X w).alloc (.cells #[.string S] 9)).then hf1 (fun _ _ e => e)
    have hh2 := hh1.heap HH.out HG.out
    exact ⟨hh1, hh2, by simp [World.frozen?, hh2], tail_c71 hh2 (by simp)⟩
  have HOld1 := Lib.hid hold1
  clear hold1
  go_upto_region 2 with (at_builtin; refine wpList_append_kept rfl (.tmp 9) (.tmp 11) rfl (.slice ka u.length kc) X u rfl HKal.out ⟨w.heap.size, 0, none⟩ x rfl HCN.out (by omega) ?_; intro v1 w1 X1 hk1 hf1 hx1; obtain ⟨a1, c1, rfl⟩ := hk1.slice; obtain ⟨-, -, z71, k71⟩ := HOld1.out w1 hf1; have HK1 := Lib.hid hk1; have HF1 := Lib.hid hf1; have HX1 := Lib.hid hx1; clear hk1 hf1 hx1)
  obtain ⟨hF, hrow, -, -⟩ := HOld1.out w1 HF1.out
  have hX1g : ¬ X1 g := fun e => by
    rcases HX1.out g e with h | h
    · exact HG.out h
    · simp at h
      omega
  have hx1 : ∀ k, X1 k → X k ∨ w.heap.size ≤ k := fun k hk => by
    rcases HX1.out k hk with h | h
    · exact .inl h
    · simp at h
      exact .inr (by omega)
  have hrow2 := tail_put hrow (by simp) (.slice a1 (u.length + 1) c1)
  have hk2 := HK1.out.frame (Frame.cell w1 ⟨g, 71, none⟩ (.slice a1 (u.length + 1) c1)) (fun k hk e => hX1g (by have e' : k = g := e; exact e' ▸ hk))
  have hrep2 : (tailM N).RepN g 0 false [] (u ++ [x]) X1 (w1.setCell ⟨g, 71, none⟩ (.slice a1 (u.length + 1) c1)) := tail_of hrow2 (by simpa using hk2) hX1g (by simp) (fun h => by cases h)
  have hf2 : Frame ((tailM N).own g X) w (w1.setCell ⟨g, 71, none⟩ (.slice a1 (u.length + 1) c1)) := (hF.mono (fun _ _ h => .inr h)).trans ((Frame.cell _ ⟨g, 71, none⟩ _).mono (fun _ _ h => .inl h))
  generalize w1.setCell ⟨g, 71, none⟩ (.slice a1 (u.length + 1) c1) = W2 at hrow2 hrep2 hf2 ⊢
  have k71 := tail_c71 hrow2 (by simp)
  have k70 := tail_c70 hrow2 (by simp)
  have HRep := Lib.hid (hrep2.frame ((Frame.refl (fun _ => False) W2).drew) (fun _ _ h => h))
  have HF2 := Lib.hid hf2.drew
  have HX2 := Lib.hid hx1
  clear hF hrow hX1g hx1 hrow2 hk2 hrep2 hf2 z71 HK1 HF1 HX1 HOld1 c71 c70 HKal HCN
  by_cases hN : N < u.length + 1
  · obtain ⟨l, r, hlr⟩ : ∃ l r, u ++ [x] = l :: r := by
      cases hq : u ++ [x] with
      | nil => simp at hq
      | cons l r => exact ⟨l, r, rfl⟩
    have hlen : r.length + 1 = u.length + 1 := by have := congrArg List.length hlr; simpa using this.symm
    have hLr : L = r := by rw [hLL.out, if_pos (by simpa using hN), hlr]; rfl
    have hrep3 := HRep.out
    rw [hlr] at hrep3
    have HRep3 := Lib.hid hrep3
    have q1 : (N : Int) < ((u.length + 1 : Nat) : Int) := by omega
    have q2 : (N : Int) < (u.length : Int) + 1 := by omega
    have HLr := Lib.hid hLr
    clear hrep3 hlr hLr
    go_region
    go_wp2_with fail
    refine (takeFirst_any N g 0 false [] l r X1 W2.drew HRep3.out (by omega)).mono ?_
    rintro e w3 ⟨rfl, hrep3, hf3⟩
    have HRep4 := Lib.hid hrep3
    have HF3 := Lib.hid hf3
    clear hrep3 hf3
    go_wp2_with fail
    go_ret
    have hgd := HGood.out
    rw [HLr.out] at hgd ⊢
    refine ⟨_, X1, rfl, OwnOuts.nil _ _, ⟨HRep4.out, fun _ => ⟨rfl, hgd, hg2⟩⟩, ⟨rfl, rfl⟩, HX2.out, HF2.out.then HF3.out (own_here HX2.out)⟩
  · have q1 : ¬ (N : Int) < ((u.length + 1 : Nat) : Int) := by omega
    have q2 : ¬ (N : Int) < (u.length : Int) + 1 := by omega
    have hLr : L = u ++ [x] := by rw [hLL.out, if_neg (by simpa using hN)]
    have HLr := Lib.hid hLr
    clear hLr hN
    go_region
    go_wp2_with fail
    go_ret
    have hgd := HGood.out
    rw [HLr.out] at hgd ⊢
    refine ⟨_, X1, rfl, OwnOuts.nil _ _, ⟨HRep.out, fun _ => ⟨rfl, hgd, hg2⟩⟩, ⟨rfl, rfl⟩, HX2.out, HF2.out⟩

end Go.Proofs.YtdpjopemdhbgpaaDoor
