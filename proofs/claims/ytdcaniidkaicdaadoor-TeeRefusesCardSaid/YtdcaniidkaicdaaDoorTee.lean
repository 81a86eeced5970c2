/- Tee is a machine that Drive may drive. -/
import Derived.Test.YtdcaniidkaicdaaDoorTeeTell
import Derived.Test.YtdcaniidkaicdaaDoorBytesin
import Derived.Test.YtdcaniidkaicdaaDoorRC
namespace Go.Proofs.YtdcaniidkaicdaaDoor
open Go.RowKit

def teeRep (N : Nat) (g : Nat) (s : Bool) (own : Nat → Prop) (w : World) : Prop := TeeAt N (if s then 0 else -1) g w ∧ own = (· = g)
section
variable {N : Nat} {nd : Int} {g : Nat} {w : World}
theorem TeeAt.need (h : TeeAt N nd g w) : w.cell? ⟨g, 0, none⟩ = some (.int .i64 nd) := by rw [cell_of_row _ _ _ _ _ _ h]; rfl
theorem TeeAt.each (h : TeeAt N nd g w) : w.cell? ⟨g, 2, none⟩ = some (.func (.func 28) #[.pointer (some ⟨g, 0, none⟩)] #[]) := by rw [cell_of_row _ _ _ _ _ _ h]; rfl
theorem TeeAt.froz (h : TeeAt N nd g w) (o : Nat) : w.frozen? ⟨g, o, none⟩ = false := by simp [World.frozen?, show w.heap[g]? = _ from h]
theorem TeeAt.lt (h : TeeAt N nd g w) : g < w.heap.size := (Array.getElem?_eq_some_iff.1 h).1
theorem TeeAt.put (h : TeeAt N nd g w) (n : Int) : TeeAt N n g (w.setCell ⟨g, 0, none⟩ (.int .i64 n)) := by
  unfold TeeAt
  rw [setCell_row h]
  rfl
end
theorem tellEach_enters : Enters 28 := fun args w => by
  simp [callFunc, go_sem, Tryd.func28]
  rfl

set_option maxRecDepth 100000 in
set_option maxHeartbeats 2000000 in
theorem teeFeed_yes (N : Nat) (hN : N ≤ 4) (g : Nat) (v : Value) (x : List UInt8) {p : Nat → Prop} (w : World) (h : TeeAt N 0 g w) (hX : IsBytes p w v x) (h1 : 1 ≤ x.length) (h32 : x.length ≤ 32) :
    Calls Tryd.prog 67 #[.pointer (some ⟨g, 0, none⟩), .int .i64 0, v] w fun e w' => ∃ v', e = .returned (.tuple #[v', .int .i64 0]) ∧ OwnOuts w.heap.size w' v' (teeO N x) ∧ Below w.heap.size w w' := by
  have hc := h.each
  have HN := Lib.hid h.need
  have HT := Lib.hid (tellEach_any N 0 g v x w h hX h32 hN)
  obtain ⟨ax, cx, rfl, -, -⟩ := hX
  have HE := Lib.hid (show feedE 0 0 x.length = 0 by unfold feedE; rw [show endE 0 0 = 0 by simp [endE], if_neg (by simp), if_neg (by omega)])
  have hent := tellEach_enters
  unfold Enters at hent
  clear h
  go_enter Tryd.func67, Tryd.ntmps67
  go_wp2_with fail
  refine (mayFeed_any 0 ax x.length cx HN.out).mono ?_
  rintro e w' ⟨rfl, rfl⟩
  rw [HE.out]
  go_wp2_with fail
  refine HT.out.mono ?_
  rintro e w1 ⟨v1, rfl, ho, hb⟩
  have HO := Lib.hid ho
  have HB := Lib.hid hb
  clear ho hb hc hent
  go_wp2_with fail
  go_ret2
  exact ⟨v1, rfl, HO.out, HB.out⟩

theorem tee_goes (g : Nat) (w : World) :
    (method 225 70 (.pointer (some ⟨g, 0, none⟩)) "Need").run Tryd.prog w = .ok (70, .pointer (some ⟨g, 0, none⟩)) w ∧
    (method 225 70 (.pointer (some ⟨g, 0, none⟩)) "Held").run Tryd.prog w = .ok (68, .pointer (some ⟨g, 0, none⟩)) w ∧
    (method 225 70 (.pointer (some ⟨g, 0, none⟩)) "Feed").run Tryd.prog w = .ok (67, .pointer (some ⟨g, 0, none⟩)) w ∧
    (method 225 70 (.pointer (some ⟨g, 0, none⟩)) "End").run Tryd.prog w = .ok (66, .pointer (some ⟨g, 0, none⟩)) w ∧
    (method 225 70 (.pointer (some ⟨g, 0, none⟩)) "More").run Tryd.prog w = .ok (69, .pointer (some ⟨g, 0, none⟩)) w :=
  ⟨by kernel_rfl, by kernel_rfl, by kernel_rfl, by kernel_rfl, by kernel_rfl⟩

theorem teeNeed_cases (s : Bool) (h : 0 ≤ (if s then 0 else -1 : Int)) : s = true := by cases s <;> simp at h ⊢
theorem tee_driven (N : Nat) (hN : N ≤ 4) (g : Nat) : Driven (teeMach N) 0 (teeRep N g) 70 (.pointer (some ⟨g, 0, none⟩)) 70 68 67 66 69
    (.pointer (some ⟨g, 0, none⟩)) (.pointer (some ⟨g, 0, none⟩)) (.pointer (some ⟨g, 0, none⟩)) (.pointer (some ⟨g, 0, none⟩)) (.pointer (some ⟨g, 0, none⟩)) where
  goN w := (tee_goes g w).1
  goH w := (tee_goes g w).2.1
  goF w := (tee_goes g w).2.2.1
  goE w := (tee_goes g w).2.2.2.1
  goM w := (tee_goes g w).2.2.2.2
  inN := enters_of Tryd.func70 (by kernel_rfl) (by kernel_rfl)
  inH := enters_of Tryd.func68 (by kernel_rfl) (by kernel_rfl)
  inF := enters_of Tryd.func67 (by kernel_rfl) (by kernel_rfl)
  inE := enters_of Tryd.func66 (by kernel_rfl) (by kernel_rfl)
  inM := enters_of Tryd.func69 (by kernel_rfl) (by kernel_rfl)
  keep s own w w' p h hf hp := by
    obtain ⟨h, rfl⟩ := h
    exact ⟨hf.heap h (hp g (.inl rfl)), rfl⟩
  old s own w h := by
    obtain ⟨h, rfl⟩ := h
    rintro k rfl
    exact h.lt
  need s own w h := need_any h.1.need
  held s own w h := (inHeld_any _ w).mono fun _ _ h => h.quiet
  feed s own w v x h hn hB h1 h32 := by
    obtain ⟨h, rfl⟩ := h
    obtain rfl := teeNeed_cases s hn
    refine (teeFeed_yes N hN g v x w h hB h1 h32).mono ?_
    rintro e w' ⟨v', rfl, ho, hb⟩
    obtain ⟨k1, k2⟩ := teeO_ok (x := x) hN h32
    exact ⟨v', rfl, ho.is, ⟨_, ⟨h.below hb, rfl⟩, fun k hk => .inl hk⟩, Below.toFrame hb _, k1, k2⟩
  fin s own w h hn := by
    obtain ⟨h, rfl⟩ := h
    obtain rfl := teeNeed_cases s hn
    refine (inEnd_yes g 0 w h.need (h.froz 0) (Int.le_refl 0)).mono ?_
    rintro e w' ⟨rfl, rfl⟩
    exact ⟨_, rfl, (OwnOuts.nil w.heap.size _).is, ⟨_, ⟨h.put (-1), rfl⟩, fun k hk => .inl hk⟩, Frame.cell w ⟨g, 0, none⟩ _, bytesO_ok (y := []) (Nat.zero_le 3) (Nat.zero_le _), Nat.zero_le _⟩
  more s own w h hn := by
    have hn : (if s then 0 else -1 : Int) = -2 := hn
    cases s <;> simp at hn
  heldB s own w h := ⟨Int.le_refl 0, by show (0 : Int) ≤ 1000000; omega⟩
theorem tee_refusing (N : Nat) (g : Nat) : Refusing (teeMach N) (teeRep N g) 67 66 69 (.pointer (some ⟨g, 0, none⟩)) (.pointer (some ⟨g, 0, none⟩)) (.pointer (some ⟨g, 0, none⟩)) where
  feed s own w port a l c h hr := by
    have he : feedE (if s then 0 else -1) port l = errN (if s then 0 else -1) := feedE_err hr
    have := inFeed_no g _ port a l c w h.1.need (by rw [he]; exact (errN_ne _).1)
    rw [he] at this
    exact this
  fin s own w port h hr := by
    have he : endE (if s then 0 else -1) port = errN (if s then 0 else -1) := endE_err hr
    have := inEnd_no g _ port w h.1.need (by rw [he]; exact (errN_ne _).1)
    rw [he] at this
    exact this
  more s own w h hr := more_any h.1.need hr

end Go.Proofs.YtdcaniidkaicdaaDoor
