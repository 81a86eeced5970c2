/- What split tells of a line: tellByTurns. -/
import Derived.Test.YtbblkgknnolkmaaDoorSplitPlain
import Derived.Test.YtbblkgknnolkmaaDoorItell
import Derived.Test.YtbblkgknnolkmaaDoorIfeedb
namespace Go.Proofs.YtbblkgknnolkmaaDoor
open Go.RowKit

def splitM (M : Nat) : LM Nat where
  T := 85
  F := 29
  piece _ := .nilFunc
  ext _ u X rest _ := rest = [.int .i64 (M : Int), .int .i64 ((u % M : Nat) : Int)] ∧ ∀ k, ¬ X k
  tell := splitT M
  good _ := True
  quiet := false
  base := 0
  extKeep _ _ _ _ _ _ _ h _ _ := h
  extBase _ _ _ _ _ _ := Nat.zero_le _
  extOld _ _ _ _ _ h k hk := absurd hk (h.2 k)
theorem split_enters (M : Nat) : Enters (splitM M).F := enters_of Tryd.func29 (by kernel_rfl) (by kernel_rfl)
def splitRow (M : Nat) (nd : Int) (f : Bool) (b : List UInt8) (g : Nat) (t : Nat) : Array Value := rowA [.int .i64 nd, .nilFunc] f b [(splitM M).each g, .nilFunc, .int .i64 (M : Int), .int .i64 (t : Int)]
section
variable {M g : Nat} {nd : Int} {f : Bool} {b : List UInt8} {u : Nat} {X : Nat → Prop} {w : World}
theorem split_heap (h : (splitM M).RepN g nd f b u X w) : w.heap[g]? = some (.cells (splitRow M nd f b g (u % M)) 85 (0, 0)) ∧ (∀ k, ¬ X k) ∧ b.length ≤ 64 ∧ (f = true → b = []) := by
  obtain ⟨rest, h, rfl, hX⟩ := h
  exact ⟨h.heap, hX, h.le, h.fail⟩
theorem split_of (h : w.heap[g]? = some (.cells (splitRow M nd f b g (u % M)) 85 (0, 0))) (hb : b.length ≤ 64) (hf : f = true → b = []) (hX : ∀ k, ¬ X k) : (splitM M).RepN g nd f b u X w :=
  ⟨_, ⟨h, rfl, hb, hf⟩, rfl, hX⟩
theorem split_c70 (h : (splitM M).RepN g nd f b u X w) : w.cell? ⟨g, 70, none⟩ = some (.int .i64 (M : Int)) := by
  obtain ⟨h, -, hb, -⟩ := split_heap h
  rw [cell_of_row _ _ _ _ _ _ h]
  simp only [splitRow, rowA, List.getElem?_toArray]
  rw [List.getElem?_append_right (by simp [length_splL hb])]
  simp [length_splL hb]
theorem split_c71 (h : (splitM M).RepN g nd f b u X w) : w.cell? ⟨g, 71, none⟩ = some (.int .i64 ((u % M : Nat) : Int)) := by
  obtain ⟨h, -, hb, -⟩ := split_heap h
  rw [cell_of_row _ _ _ _ _ _ h]
  simp only [splitRow, rowA, List.getElem?_toArray]
  rw [List.getElem?_append_right (by simp [length_splL hb])]
  simp [length_splL hb]
/-- The next one's turn is put. -/
theorem split_put (h : (splitM M).RepN g nd f b u X w) (n : Nat) : (splitM M).RepN g nd f b n X (w.setCell ⟨g, 71, none⟩ (.int .i64 ((n % M : Nat) : Int))) := by
  obtain ⟨h, hX, hb, hf⟩ := split_heap h
  refine split_of ?_ hb hf hX
  rw [setCell_row h]
  simp only [splitRow, rowA, List.setIfInBounds_toArray]
  rw [List.set_append_right _ _ (by simp [length_splL hb])]
  simp [length_splL hb]
end
theorem turn_next {M u t : Nat} (ht : t = u % M) : ((t : Int) + 1).tmod (M : Int) = (((u + 1) % M : Nat) : Int) := by
  subst ht
  rw [Int.tmod_eq_emod_of_nonneg (by omega), ← Int.natCast_one, ← Int.natCast_add, ← Int.natCast_emod]
  congr 1
  rw [Nat.mod_add_mod]

set_option maxRecDepth 100000 in
set_option maxHeartbeats 4000000 in
theorem turns_any (M : Nat) (h1 : 1 ≤ M) (h4 : M ≤ 4) (g : Nat) (nd : Int) (f : Bool) (b : List UInt8) (u : Nat) (X : Nat → Prop) (x : List UInt8) (w : World) (h : (splitM M).RepN g nd f b u X w) (hx : x.length ≤ 64) :
    Calls Tryd.prog 29 #[.pointer (some ⟨g, 0, none⟩), strV x] w fun e w' => ∃ v, e = .returned v ∧ OwnOuts w.heap.size w' v (splitT M u x).2.1 ∧ (splitM M).RepN g nd f b (u + 1) X w' ∧ Frame (· = g) w w' := by
  have H := Lib.hid h
  have c71 := split_c71 h
  clear h
  have hput := fun (W : World) (hr : (splitM M).RepN g nd f b u X W) => split_put hr (u + 1)
  have hlt := Nat.mod_lt u (show 0 < M by omega)
  obtain ⟨t, ht⟩ : ∃ t, t = u % M := ⟨_, rfl⟩
  obtain ⟨t2, ht2⟩ : ∃ t2, t2 = (u + 1) % M := ⟨_, rfl⟩
  have hlt2 := Nat.mod_lt (u + 1) (show 0 < M by omega)
  have hrem := turn_next ht
  rw [show (splitT M u x).2.1 = [(t, x ++ [10])] by rw [ht]; rfl]
  rw [← ht] at c71 hlt
  rw [← ht2] at hput hrem hlt2
  obtain ⟨Sx, hSx⟩ : ∃ S : ByteArray, strV x = .string S := ⟨_, rfl⟩
  rw [hSx]
  have HSX := Lib.hid hSx
  have HX := Lib.hid hx
  have HPut := Lib.hid hput
  have HC := Lib.hid c71
  have q0 : (0 : Int) ≤ (t : Int) := by omega
  have q1 : (t : Int) < 4 := by omega
  have q2 : ((M : Int) == 0) = false := by simp; omega
  have q3 : ¬ (M : Int) = 0 := by omega
  have HT := Lib.hid ht
  clear ht ht2 hSx hx hput
  go_enter Tryd.func29, Tryd.ntmps29
  go_wp2_with fail
  refine (tellOut_wide t _ x _ (text_new w x Sx HSX.out (0, 0)) (by have := HX.out; omega)).mono ?_
  rintro e w8 ⟨v, rfl, ho, hb⟩
  have hb8 : Below w.heap.size w w8 := ((Below.refl w.heap.size w).alloc (Nat.le_refl _) _).trans (hb.mono (by simp))
  have hr8 := H.out.frame (Below.toFrame hb8 fun _ => False) (fun _ _ h => h)
  have c71 := split_c71 hr8
  rw [← HT.out] at c71
  have c70 := split_c70 hr8
  have z71 := hr8.froz 71
  have HO := Lib.hid ho
  have HB := Lib.hid hb8
  have HR := Lib.hid hr8
  clear ho hb hb8 hr8
  go_wp2_with fail
  go_region
  have hr9 := (HPut.out _ HR.out).frame (Below.toFrame (Below.refl (w8.setCell ⟨g, 71, none⟩ (.int .i64 (t2 : Int))).heap.size (w8.setCell ⟨g, 71, none⟩ (.int .i64 (t2 : Int)))).drew fun _ => False) (fun _ _ h => h)
  have hf9 : Frame (· = g) w8 (w8.setCell ⟨g, 71, none⟩ (.int .i64 (t2 : Int))).drew := (Frame.cell w8 ⟨g, 71, none⟩ _).drew
  have ho9 : OwnOuts w.heap.size (w8.setCell ⟨g, 71, none⟩ (.int .i64 (t2 : Int))).drew v [(t, x ++ [10])] := (HO.out.mono (by simp)).frame hf9 (fun k hk _ e => by have := H.out.lt; have e' : k = g := e; omega)
  generalize (w8.setCell ⟨g, 71, none⟩ (.int .i64 (t2 : Int))).drew = w9 at hr9 hf9 ho9 ⊢
  have HR9 := Lib.hid hr9
  have HF9 := Lib.hid hf9
  have HO9 := Lib.hid ho9
  clear hr9 hf9 ho9 c71 c70 z71
  go_wp2_with fail
  go_ret
  exact ⟨v, rfl, HO9.out, HR9.out, (Below.toFrame HB.out _).trans HF9.out⟩

theorem split_own (M g : Nat) (X : Nat → Prop) {w w' : World} (h : Frame (· = g) w w') : Frame ((splitM M).own g X) w w' := h.mono (fun _ _ e => .inl e)
theorem split_tells (M : Nat) (h1 : 1 ≤ M) (h4 : M ≤ 4) (g : Nat) : (splitM M).Tells g := by
  intro s X x w h hl hb hx
  obtain ⟨hf, -⟩ := h.live hl
  have hn : needOf s = 0 := by rw [needOf, if_pos hl]
  have hR := h.repN
  rw [hn, hf, hb] at hR
  rw [hf, hb]
  refine (turns_any M h1 h4 g 0 false [] s.u X x w hR hx).mono ?_
  rintro e w' ⟨v, rfl, ho, hr, hfr⟩
  exact ⟨v, X, rfl, ho, ⟨hr, fun _ => ⟨rfl, trivial⟩⟩, fun _ h => h, fun _ h => .inl h, split_own M _ _ hfr⟩

end Go.Proofs.YtbblkgknnolkmaaDoor
