/- What Feed and End of a machine of lines do. -/
import Derived.Test.YtfdgkjmdbcehiaaDoorDplain
import Derived.Deep.RegionHeld3
namespace Go.Proofs.YtfdgkjmdbcehiaaDoor
open Go.RowKit

/-- A function that has a body. -/
def Enters (F : FuncId) : Prop := ∀ (args : Array Value) (w : World), (callFunc F args).run Tryd.prog w = .ok (.enter F args) w
/-- A machine of lines, in one block: what is its own. -/
structure LM (U : Type) where
  T : TypeId
  F : FuncId
  rest : U → List Value
  tell : Teller U
  good : U → Prop
section
variable {U : Type} (M : LM U) (g : Nat)
def LM.post (u : U) : List Value := .func (.func M.F) #[.pointer (some ⟨g, 0, none⟩)] #[] :: M.rest u
/-- The machine lies in block g. -/
structure LM.Rep (s : LS U) (w : World) : Prop where
  spl : Spl g 1 M.T [.int .i64 (needOf s)] (M.post g s.u) s.fail s.b w
  live : s.live = true → s.fail = false ∧ M.good s.u
/-- The call answers these; the machine is as told; nothing else has turned. -/
def LM.Gives (w : World) (o : Outs) (err : Int) (s : LS U) (e : Ending) (w' : World) : Prop :=
  ∃ v, e = .returned (.tuple #[v, .int .i64 err]) ∧ OwnOuts w.heap.size w' v o ∧ M.Rep g s w' ∧ Frame (· = g) w w'
/-- What comes of a line. -/
def LM.Tells : Prop := ∀ (s : LS U) (x : List UInt8) (w : World), M.Rep g s w → s.live = true → s.b = [] → x.length ≤ 64 →
  Calls Tryd.prog M.F #[.pointer (some ⟨g, 0, none⟩), strV x] w fun e w' => ∃ v, e = .returned v ∧ OwnOuts w.heap.size w' v (M.tell s.u x).2.1 ∧ M.Rep g ⟨!(M.tell s.u x).2.2, s.fail, s.b, (M.tell s.u x).1⟩ w' ∧ Frame (· = g) w w'
end

section
variable {U : Type} {M : LM U} {g : Nat} {s : LS U} {w w' : World}
theorem LM.Rep.need (h : M.Rep g s w) : w.cell? ⟨g, 0, none⟩ = some (.int .i64 (needOf s)) := by rw [cell_of_row _ _ _ _ _ _ h.spl.heap]; rfl
theorem LM.Rep.froz (h : M.Rep g s w) : w.frozen? ⟨g, 0, none⟩ = false := by simp [World.frozen?, h.spl.heap]
theorem LM.Rep.each (h : M.Rep g s w) : w.cell? ⟨g, 67, none⟩ = some (.func (.func M.F) #[.pointer (some ⟨g, 0, none⟩)] #[]) := by
  rw [cell_of_row _ _ _ _ _ _ h.spl.heap]
  simp only [rowA, List.getElem?_toArray]
  rw [List.getElem?_append_right (by simp [length_splL h.spl.le])]
  simp [length_splL h.spl.le, LM.post]
theorem LM.Rep.frame {p : Nat → Prop} (h : M.Rep g s w) (hf : Frame p w w') (hp : ¬ p g) : M.Rep g s w' := ⟨h.spl.frame hf hp, h.live⟩
theorem rowA_need (n m : Value) (f : Bool) (b : List UInt8) (post : List Value) : (rowA [n] f b post).setIfInBounds 0 m = rowA [m] f b post := by simp [rowA]
theorem LM.Rep.stop (h : M.Rep g s w) : M.Rep g ⟨false, s.fail, s.b, s.u⟩ (w.setCell ⟨g, 0, none⟩ (.int .i64 (-1))) := by
  refine ⟨⟨?_, rfl, h.spl.le, h.spl.fail⟩, fun h => by cases h⟩
  rw [setCell_row h.spl.heap, rowA_need]
  rfl
theorem LM.Rep.with (h : M.Rep g s w) {f : Bool} {b : List UInt8} (hs : Spl g 1 M.T [.int .i64 (needOf s)] (M.post g s.u) f b w') (hl : s.live = true → f = false) : M.Rep g ⟨s.live, f, b, s.u⟩ w' := ⟨hs, fun h1 => ⟨hl h1, (h.live h1).2⟩⟩
end

/-- Bytes without the first n. -/
theorem bytes_drop {p : Nat → Prop} {w : World} {a : Option Addr} {cap n : Nat} {bs : List UInt8} (h : IsBytes p w (.slice a bs.length cap) bs) (hn : n ≤ bs.length) {A : Option Addr}
    (hA : A = if cap = n then a else a.map fun x => x.add n) : IsBytes p w (.slice A (bs.length - n) (cap - n)) (bs.drop n) := by
  obtain ⟨_, _, e, hle, hc⟩ := h
  cases e
  refine ⟨A, cap - n, by simp, by simp; omega, fun j c hj => ?_⟩
  rw [List.getElem?_drop] at hj
  obtain ⟨gb, off, rfl, hp, hx⟩ := hc _ _ hj
  have hlt : n + j < bs.length := (List.getElem?_eq_some_iff.1 hj).1
  rw [if_neg (by omega)] at hA
  refine ⟨gb, off + n, by rw [hA, Option.map_some, Addr.add_mid], hp, ?_⟩
  rw [Nat.add_assoc]
  exact hx
theorem bytes_take {p : Nat → Prop} {w : World} {a : Option Addr} {cap n : Nat} {bs : List UInt8} (h : IsBytes p w (.slice a bs.length cap) bs) (hn : n ≤ bs.length) : IsBytes p w (.slice a n cap) (bs.take n) := by
  obtain ⟨_, _, e, hle, hc⟩ := h
  cases e
  have hl : (bs.take n).length = n := by simp; omega
  refine ⟨a, cap, by rw [hl], by omega, fun j c hj => ?_⟩
  rw [List.getElem?_take] at hj
  split at hj
  · exact hc _ _ hj
  · cases hj

theorem bytes_part {p : Nat → Prop} {w : World} {a : Option Addr} {cap n q : Nat} {bs : List UInt8} (h : IsBytes p w (.slice a bs.length cap) bs) (hn : n ≤ q) (hq : q ≤ bs.length) {A : Option Addr}
    (hA : A = if cap = n then a else a.map fun x => x.add n) : IsBytes p w (.slice A (q - n) (cap - n)) ((bs.take q).drop n) := by
  have h1 := bytes_take h hq
  have hl : (bs.take q).length = q := by simp; omega
  generalize bs.take q = y at h1 hl ⊢
  subst hl
  exact bytes_drop h1 hn hA

set_option maxRecDepth 100000 in
set_option maxHeartbeats 1000000 in
theorem feed_no {U : Type} (M : LM U) (g : Nat) (s : LS U) (port : Int) (a : Option Addr) (l c : Nat) (w : World) (h : M.Rep g s w) (hE : feedE (needOf s) port l ≠ 0) :
    Calls Tryd.prog 68 #[.pointer (some ⟨g, 0, none⟩), .int .i64 port, .slice a l c] w (Says w (.tuple #[.slice none 0 0, .int .i64 (feedE (needOf s) port l)])) := by
  have hn := h.need
  have HN := Lib.hid hn
  obtain ⟨E, hE2⟩ : ∃ E, E = feedE (needOf s) port l := ⟨_, rfl⟩
  rw [← hE2] at hE ⊢
  have HE := Lib.hid hE2
  have g1 : (E != 0) = true := by simpa using hE
  clear h hn hE hE2
  go_enter Tryd.func68, Tryd.ntmps68
  go_wp2_with fail
  refine (mayFeed_any port a l c HN.out).mono ?_
  rintro e w' ⟨rfl, rfl⟩
  rw [← HE.out]
  go_wp2
  go_ret2
  exact ⟨rfl, rfl⟩

set_option maxRecDepth 100000 in
set_option maxHeartbeats 1000000 in
theorem end_no {U : Type} (M : LM U) (g : Nat) (s : LS U) (port : Int) (w : World) (h : M.Rep g s w) (hE : endE (needOf s) port ≠ 0) :
    Calls Tryd.prog 67 #[.pointer (some ⟨g, 0, none⟩), .int .i64 port] w (Says w (.tuple #[.slice none 0 0, .int .i64 (endE (needOf s) port)])) := by
  have hn := h.need
  have HN := Lib.hid hn
  obtain ⟨E, hE2⟩ : ∃ E, E = endE (needOf s) port := ⟨_, rfl⟩
  rw [← hE2] at hE ⊢
  have HE := Lib.hid hE2
  have g1 : (E != 0) = true := by simpa using hE
  clear h hn hE hE2
  go_enter Tryd.func67, Tryd.ntmps67
  go_wp2_with fail
  refine (mayEnd_any port HN.out).mono ?_
  rintro e w' ⟨rfl, rfl⟩
  rw [← HE.out]
  go_wp2
  go_ret2
  exact ⟨rfl, rfl⟩

set_option maxRecDepth 100000 in
set_option maxHeartbeats 2000000 in
theorem end_yes {U : Type} (M : LM U) (g : Nat) (s : LS U) (w : World) (h : M.Rep g s w) (hT : M.Tells g) (hF : Enters M.F) (hl : s.live = true) :
    Calls Tryd.prog 67 #[.pointer (some ⟨g, 0, none⟩), .int .i64 0] w (M.Gives g w (endB M.tell s).2.1 (endB M.tell s).2.2 (endB M.tell s).1) := by
  have hn := h.need
  have HN := Lib.hid hn
  have HT := Lib.hid hT
  have HR := Lib.hid h
  have HE := Lib.hid (show endE (needOf s) 0 = 0 by simp [endE, needOf, hl])
  have HL := Lib.hid hl
  clear h hn hT hl
  by_cases hb : s.b = []
  · have HB := Lib.hid (show (!s.b.isEmpty) = false by simp [hb])
    have HX := Lib.hid (show endB M.tell s = (⟨false, s.fail, [], s.u⟩, [], 0) by rw [endB, if_pos hb])
    clear hb
    go_enter Tryd.func67, Tryd.ntmps67
    go_wp2_with fail
    refine (mayEnd_any 0 HN.out).mono ?_
    rintro e w' ⟨rfl, rfl⟩
    rw [HE.out]
    go_wp2_with fail
    refine (rest_any HR.out.spl).mono ?_
    rintro e w1 ⟨rfl, hs, hf⟩
    rw [HB.out]
    have hR1 := HR.out.with hs (fun hl => (HR.out.live hl).1)
    have HR1 := Lib.hid hR1
    have HF := Lib.hid hf
    clear hR1 hs hf
    go_wp2_with fail
    refine (stop_any HR1.out.need HR1.out.froz).mono ?_
    rintro e w2 ⟨rfl, rfl⟩
    have hR2 := HR1.out.stop
    have HR2 := Lib.hid hR2
    clear hR2
    go_wp2_with fail
    go_ret2
    rw [HX.out]
    exact ⟨_, rfl, OwnOuts.nil _ _, HR2.out, HF.out.trans (Frame.cell _ ⟨g, 0, none⟩ _)⟩
  · have HB := Lib.hid (show (!s.b.isEmpty) = true by cases hq : s.b <;> simp_all)
    have HX := Lib.hid (show endB M.tell s = (⟨false, s.fail, [], (M.tell s.u s.b).1⟩, (M.tell s.u s.b).2.1, 0) by rw [endB, if_neg hb])
    clear hb
    go_enter Tryd.func67, Tryd.ntmps67
    go_wp2_with fail
    refine (mayEnd_any 0 HN.out).mono ?_
    rintro e w' ⟨rfl, rfl⟩
    rw [HE.out]
    go_wp2_with fail
    refine (rest_any HR.out.spl).mono ?_
    rintro e w1 ⟨rfl, hs, hf⟩
    rw [HB.out]
    have hR1 := HR.out.with hs (fun hl => (HR.out.live hl).1)
    have he := hR1.each
    have HR1 := Lib.hid hR1
    have HF := Lib.hid hf
    have hent := hF
    unfold Enters at hent
    clear hR1 hs hf
    go_wp2_with fail
    clear hent
    refine (HT.out _ s.b w1 HR1.out HL.out rfl HR.out.spl.le).mono ?_
    rintro e w2 ⟨v, rfl, ho, hR2, hf2⟩
    have HR2 := Lib.hid hR2
    have HO := Lib.hid ho
    have HF2 := Lib.hid hf2
    clear hR2 ho hf2 he
    go_wp2_with fail
    refine (stop_any HR2.out.need HR2.out.froz).mono ?_
    rintro e w3 ⟨rfl, rfl⟩
    have hR3 := HR2.out.stop
    have HR3 := Lib.hid hR3
    clear hR3
    go_wp2_with fail
    go_ret2
    rw [HX.out]
    exact ⟨v, rfl, (HO.out.mono HF.out.size).frame (Frame.cell _ ⟨g, 0, none⟩ _) (fun k hk _ => by have := HR.out.spl.lt; simp; omega), HR3.out, (HF.out.trans HF2.out).trans (Frame.cell _ ⟨g, 0, none⟩ _)⟩

end Go.Proofs.YtfdgkjmdbcehiaaDoor
