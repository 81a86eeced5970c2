/- Turn is a machine that Drive may drive. -/
import Derived.Test.YtacmbjamnmpmoaaDoorTurnPlain
import Derived.Test.YtacmbjamnmpmoaaDoorRC
namespace Go.Proofs.YtacmbjamnmpmoaaDoor
open Go.RowKit

def turnRep (A B : List UInt8) (g : Nat) (s : Bool) (own : Nat → Prop) (w : World) : Prop := TurnAt A B (if s then 0 else -1) g w ∧ own = (· = g)
section
variable {A B : List UInt8} {nd : Int} {g : Nat} {w : World}
theorem TurnAt.need (h : TurnAt A B nd g w) : w.cell? ⟨g, 0, none⟩ = some (.int .i64 nd) := by rw [cell_of_row _ _ _ _ _ _ h]; rfl
theorem TurnAt.each (h : TurnAt A B nd g w) : w.cell? ⟨g, 2, none⟩ = some (.func (.func 28) #[.pointer (some ⟨g, 0, none⟩)] #[]) := by rw [cell_of_row _ _ _ _ _ _ h]; rfl
theorem TurnAt.froz (h : TurnAt A B nd g w) (o : Nat) : w.frozen? ⟨g, o, none⟩ = false := by simp [World.frozen?, show w.heap[g]? = _ from h]
theorem TurnAt.lt (h : TurnAt A B nd g w) : g < w.heap.size := (Array.getElem?_eq_some_iff.1 h).1
theorem TurnAt.put (h : TurnAt A B nd g w) (n : Int) : TurnAt A B n g (w.setCell ⟨g, 0, none⟩ (.int .i64 n)) := by
  unfold TurnAt
  rw [setCell_row h]
  rfl
end
theorem turn_enters : Enters 28 := fun args w => by
  simp [callFunc, go_sem, Tryd.func28]
  rfl

set_option maxRecDepth 100000 in
set_option maxHeartbeats 2000000 in
theorem turnFeed_yes (A B : List UInt8) (g : Nat) (v : Value) (x : List UInt8) {p : Nat → Prop} (w : World) (h : TurnAt A B 0 g w) (hX : IsBytes p w v x) (h1 : 1 ≤ x.length) (h32 : x.length ≤ 32) :
    Calls Tryd.prog 70 #[.pointer (some ⟨g, 0, none⟩), .int .i64 0, v] w fun e w' => ∃ v', e = .returned (.tuple #[v', .int .i64 0]) ∧ OwnOuts w.heap.size w' v' (turnO A B x) ∧ Below w.heap.size w w' := by
  have hc := h.each
  have HN := Lib.hid h.need
  have HT := Lib.hid (turn_any A B 0 g v x w h hX h32)
  obtain ⟨ax, cx, rfl, -, -⟩ := hX
  have HE := Lib.hid (show feedE 0 0 x.length = 0 by unfold feedE; rw [show endE 0 0 = 0 by simp [endE], if_neg (by simp), if_neg (by omega)])
  have hent := turn_enters
  unfold Enters at hent
  clear h
  go_enter Tryd.func70, Tryd.ntmps70
  go_wp2_with fail
  refine (mayFeed_any 0 ax x.length cx HN.out).mono ?_
  rintro e w' ⟨rfl, rfl⟩
  rw [HE.out]
  go_wp2_with fail
  refine HT.out.mono ?_
  rintro e w1 ⟨v1, rfl, ho, hb⟩
  have HO := Lib.hid ho
  have HB := Lib.hid hb
  clear ho hb hc hent
  go_wp2_with fail
  go_ret2
  exact ⟨v1, rfl, HO.out, HB.out⟩

set_option maxRecDepth 100000 in
set_option maxHeartbeats 1000000 in
theorem turnFeed_no (g : Nat) (n : Int) (port : Int) (a : Option Addr) (l c : Nat) (w : World) (hn : w.cell? ⟨g, 0, none⟩ = some (.int .i64 n)) (hE : feedE n port l ≠ 0) :
    Calls Tryd.prog 70 #[.pointer (some ⟨g, 0, none⟩), .int .i64 port, .slice a l c] w (Says w (.tuple #[.slice none 0 0, .int .i64 (feedE n port l)])) := by
  have HN := Lib.hid hn
  obtain ⟨E, hE2⟩ : ∃ E, E = feedE n port l := ⟨_, rfl⟩
  rw [← hE2] at hE ⊢
  have HE := Lib.hid hE2
  have g1 : (E != 0) = true := by simpa using hE
  clear hn hE hE2
  go_enter Tryd.func70, Tryd.ntmps70
  go_wp2_with fail
  refine (mayFeed_any port a l c HN.out).mono ?_
  rintro e w' ⟨rfl, rfl⟩
  rw [← HE.out]
  go_wp2
  go_ret2
  exact ⟨rfl, rfl⟩

set_option maxRecDepth 100000 in
set_option maxHeartbeats 1000000 in
theorem turnEnd_no (g : Nat) (n : Int) (port : Int) (w : World) (hn : w.cell? ⟨g, 0, none⟩ = some (.int .i64 n)) (hE : endE n port ≠ 0) :
    Calls Tryd.prog 69 #[.pointer (some ⟨g, 0, none⟩), .int .i64 port] w (Says w (.tuple #[.slice none 0 0, .int .i64 (endE n port)])) := by
  have HN := Lib.hid hn
  obtain ⟨E, hE2⟩ : ∃ E, E = endE n port := ⟨_, rfl⟩
  rw [← hE2] at hE ⊢
  have HE := Lib.hid hE2
  have g1 : (E != 0) = true := by simpa using hE
  clear hn hE hE2
  go_enter Tryd.func69, Tryd.ntmps69
  go_wp2_with fail
  refine (mayEnd_any port HN.out).mono ?_
  rintro e w' ⟨rfl, rfl⟩
  rw [← HE.out]
  go_wp2
  go_ret2
  exact ⟨rfl, rfl⟩

set_option maxRecDepth 100000 in
set_option maxHeartbeats 1000000 in
theorem turnEnd_yes (A B : List UInt8) (g : Nat) (w : World) (h : TurnAt A B 0 g w) :
    Calls Tryd.prog 69 #[.pointer (some ⟨g, 0, none⟩), .int .i64 0] w fun e w' => e = .returned (.tuple #[.slice none 0 0, .int .i64 0]) ∧ TurnAt A B (-1) g w' ∧ Frame (· = g) w w' := by
  have HN := Lib.hid h.need
  have HF := Lib.hid (h.froz 0)
  have HP := Lib.hid (h.put (-1))
  have HC := Lib.hid (Frame.cell w ⟨g, 0, none⟩ (.int .i64 (-1)))
  have HE := Lib.hid (show endE 0 0 = 0 by simp [endE])
  clear h
  go_enter Tryd.func69, Tryd.ntmps69
  go_wp2_with fail
  refine (mayEnd_any 0 HN.out).mono ?_
  rintro e w' ⟨rfl, rfl⟩
  rw [HE.out]
  go_wp2_with fail
  refine (stop_any HN.out HF.out).mono ?_
  rintro e w2 ⟨rfl, rfl⟩
  go_wp2_with fail
  go_ret2
  exact ⟨rfl, HP.out, HC.out⟩

set_option maxRecDepth 100000 in
set_option maxHeartbeats 1000000 in
theorem bytesHeld_any (r : Value) (w : World) : Calls Tryd.prog 71 #[r] w (Says w (.int .i64 0)) := by
  go_enter Tryd.func71, Tryd.ntmps71
  go_wp2
  go_ret
  exact ⟨rfl, rfl⟩

theorem turn_goes (g : Nat) (w : World) :
    (method 226 70 (.pointer (some ⟨g, 0, none⟩)) "Need").run Tryd.prog w = .ok (73, .pointer (some ⟨g, 0, none⟩)) w ∧
    (method 226 70 (.pointer (some ⟨g, 0, none⟩)) "Held").run Tryd.prog w = .ok (71, .pointer (some ⟨g, 0, none⟩)) w ∧
    (method 226 70 (.pointer (some ⟨g, 0, none⟩)) "Feed").run Tryd.prog w = .ok (70, .pointer (some ⟨g, 0, none⟩)) w ∧
    (method 226 70 (.pointer (some ⟨g, 0, none⟩)) "End").run Tryd.prog w = .ok (69, .pointer (some ⟨g, 0, none⟩)) w ∧
    (method 226 70 (.pointer (some ⟨g, 0, none⟩)) "More").run Tryd.prog w = .ok (72, .pointer (some ⟨g, 0, none⟩)) w :=
  ⟨by kernel_rfl, by kernel_rfl, by kernel_rfl, by kernel_rfl, by kernel_rfl⟩

theorem turnNeed_cases (s : Bool) (h : 0 ≤ (if s then 0 else -1 : Int)) : s = true := by cases s <;> simp at h ⊢
theorem turn_driven (A B : List UInt8) (g : Nat) : Driven (turnMach A B) 0 (turnRep A B g) 70 (.pointer (some ⟨g, 0, none⟩)) 73 71 70 69 72
    (.pointer (some ⟨g, 0, none⟩)) (.pointer (some ⟨g, 0, none⟩)) (.pointer (some ⟨g, 0, none⟩)) (.pointer (some ⟨g, 0, none⟩)) (.pointer (some ⟨g, 0, none⟩)) where
  goN w := (turn_goes g w).1
  goH w := (turn_goes g w).2.1
  goF w := (turn_goes g w).2.2.1
  goE w := (turn_goes g w).2.2.2.1
  goM w := (turn_goes g w).2.2.2.2
  inN := enters_of Tryd.func73 (by kernel_rfl) (by kernel_rfl)
  inH := enters_of Tryd.func71 (by kernel_rfl) (by kernel_rfl)
  inF := enters_of Tryd.func70 (by kernel_rfl) (by kernel_rfl)
  inE := enters_of Tryd.func69 (by kernel_rfl) (by kernel_rfl)
  inM := enters_of Tryd.func72 (by kernel_rfl) (by kernel_rfl)
  keep s own w w' p h hf hp := by
    obtain ⟨h, rfl⟩ := h
    exact ⟨hf.heap h (hp g (.inl rfl)), rfl⟩
  old s own w h := by
    obtain ⟨h, rfl⟩ := h
    rintro k rfl
    exact h.lt
  need s own w h := need_any h.1.need
  held s own w h := (bytesHeld_any _ w).mono fun _ _ h => h.quiet
  feed s own w v x h hn hB h1 h32 := by
    obtain ⟨h, rfl⟩ := h
    obtain rfl := turnNeed_cases s hn
    have hle := turnL_le A B x
    refine (turnFeed_yes A B g v x w h hB h1 h32).mono ?_
    rintro e w' ⟨v', rfl, ho, hb⟩
    refine ⟨v', rfl, ho.is, ⟨_, ⟨h.below hb, rfl⟩, fun k hk => .inl hk⟩, Below.toFrame hb _, bytesO_ok (Nat.zero_le _) (by omega), ?_⟩
    show (bytesO 0 (turnL A B x)).length ≤ 1000000
    unfold bytesO
    split <;> simp
  fin s own w h hn := by
    obtain ⟨h, rfl⟩ := h
    obtain rfl := turnNeed_cases s hn
    refine (turnEnd_yes A B g w h).mono ?_
    rintro e w' ⟨rfl, h', hf⟩
    exact ⟨_, rfl, (OwnOuts.nil w.heap.size w').is, ⟨_, ⟨h', rfl⟩, fun k hk => .inl hk⟩, hf, bytesO_ok (y := []) (Nat.zero_le 3) (Nat.zero_le _), Nat.zero_le _⟩
  more s own w h hn := by
    have hn : (if s then 0 else -1 : Int) = -2 := hn
    cases s <;> simp at hn
  heldB s own w h := ⟨Int.le_refl 0, by show (0 : Int) ≤ 1000000; omega⟩
theorem turn_refusing (A B : List UInt8) (g : Nat) : Refusing (turnMach A B) (turnRep A B g) 70 69 72 (.pointer (some ⟨g, 0, none⟩)) (.pointer (some ⟨g, 0, none⟩)) (.pointer (some ⟨g, 0, none⟩)) where
  feed s own w port a l c h hr := by
    have he : feedE (if s then 0 else -1) port l = errN (if s then 0 else -1) := feedE_err hr
    have := turnFeed_no g _ port a l c w h.1.need (by rw [he]; exact (errN_ne _).1)
    rw [he] at this
    exact this
  fin s own w port h hr := by
    have he : endE (if s then 0 else -1) port = errN (if s then 0 else -1) := endE_err hr
    have := turnEnd_no g _ port w h.1.need (by rw [he]; exact (errN_ne _).1)
    rw [he] at this
    exact this
  more s own w h hr := more_any h.1.need hr

end Go.Proofs.YtacmbjamnmpmoaaDoor
