/- What Feed and End of a machine of lines do. -/
import Derived.Test.YtmmhpjhmobhdiaaDoorDA
import Derived.Test.YtmmhpjhmobhdiaaDoorIA
import Derived.Deep.RegionHeld3
namespace Go.Proofs.YtmmhpjhmobhdiaaDoor
open Go.RowKit

/-- Is there a function? -/
theorem neq_nilFunc (w : World) : (binOp .neq 81 .nilFunc .nilFunc).run Tryd.prog w = .ok (.bool false) w := by
  have h : ∀ d : Nat, (Op.equalIn (d + 1) 81 .nilFunc .nilFunc).run Tryd.prog w = .ok true w := fun d => by
    simp [Op.equalIn, run_underlying Tryd.underlying81]
  simp only [binOp]
  simp [Op.equal, Op.maxDepth, h 9999]
theorem neq_func (w : World) (f : Fn) (bs fs : Array Value) : (binOp .neq 81 (.func f bs fs) .nilFunc).run Tryd.prog w = .ok (.bool true) w := by
  have h : ∀ d : Nat, (Op.equalIn (d + 1) 81 (.func f bs fs) .nilFunc).run Tryd.prog w = .ok false w := fun d => by
    simp [Op.equalIn, run_underlying Tryd.underlying81]
  simp only [binOp]
  simp [Op.equal, Op.maxDepth, h 9999]
/-- A machine of lines: what is its own, beside the reader and the splitter. -/
structure LM (U : Type) where
  T : TypeId
  F : FuncId
  /-- What is told at the end: nothing, or a method's answer. -/
  last : Option FuncId := none
  piece : Nat → Value
  /-- Of the machine in block g: the cells behind Each and Last, and the other blocks that are its own. -/
  ext : Nat → U → (Nat → Prop) → List Value → World → Prop
  tell : Teller U
  good : U → Prop
  /-- By a line it tells nothing at all; or it keeps no new block. -/
  quiet : Bool
  /-- What is not its own, and is kept. -/
  base : Nat
  extKeep : ∀ g u X rest w w' p, ext g u X rest w → Frame p w w' → (∀ k, X k ∨ k < base → ¬ p k) → ext g u X rest w'
  extBase : ∀ g u X rest w, ext g u X rest w → base ≤ g
  extOld : ∀ g u X rest w, ext g u X rest w → ∀ k, X k → k < w.heap.size ∧ k ≠ g
theorem LM.keepG {U : Type} {M : LM U} {g : Nat} {u : U} {X : Nat → Prop} {rest : List Value} {w w' : World} (he : M.ext g u X rest w) (hf : Frame (· = g) w w') : M.ext g u X rest w' :=
  M.extKeep _ _ _ _ _ _ _ he hf (fun k hk e => by
    have e' : k = g := e
    rcases hk with hk | hk
    · exact (M.extOld _ _ _ _ _ he k hk).2 e'
    · have := M.extBase _ _ _ _ _ he
      omega)
def LM.own {U : Type} (_ : LM U) (g : Nat) (X : Nat → Prop) : Nat → Prop := fun k => k = g ∨ X k
section
variable {U : Type} (M : LM U) (g : Nat)
def LM.each : Value := .func (.func M.F) #[.pointer (some ⟨g, 0, none⟩)] #[]
def lastV (o : Option FuncId) (g : Nat) : Value := match o with
  | none => .nilFunc
  | some f => .func (.func f) #[.pointer (some ⟨g, 0, none⟩)] #[]
/-- The machine lies in block g, and in those of X; nd: what it needs. -/
def LM.RepN (nd : Int) (f : Bool) (b : List UInt8) (u : U) (X : Nat → Prop) (w : World) : Prop :=
  ∃ rest, Spl g 2 M.T [.int .i64 nd, M.piece g] (M.each g :: lastV M.last g :: rest) f b w ∧ M.ext g u X rest w
structure LM.Rep (s : LS U) (X : Nat → Prop) (w : World) : Prop where
  repN : M.RepN g (needOf s) s.fail s.b s.u X w
  live : s.live = true → s.fail = false ∧ M.good s.u
/-- The call answers these; the machine is as told; nothing else has turned. -/
def LM.Gives (w : World) (o : Outs) (err : Int) (s : LS U) (X : Nat → Prop) (e : Ending) (w' : World) : Prop :=
  ∃ v X', e = .returned (.tuple #[v, .int .i64 err]) ∧ OwnOuts w.heap.size w' v o ∧ M.Rep g s X' w' ∧ (∀ k, X' k → X k ∨ w.heap.size ≤ k) ∧ Frame (M.own g X) w w'
/-- What comes of a line. -/
def LM.Tells : Prop := ∀ (s : LS U) (X : Nat → Prop) (x : List UInt8) (w : World), M.Rep g s X w → s.live = true → s.b = [] → x.length ≤ 64 →
  Calls Tryd.prog M.F #[.pointer (some ⟨g, 0, none⟩), strV x] w fun e w' => ∃ v X', e = .returned v ∧ OwnOuts w.heap.size w' v (M.tell s.u x).2.1 ∧ M.Rep g ⟨!(M.tell s.u x).2.2, s.fail, s.b, (M.tell s.u x).1⟩ X' w' ∧
    (if M.quiet = true then v = .slice none 0 0 ∧ (M.tell s.u x).2.1 = [] else ∀ k, X' k → X k) ∧ (∀ k, X' k → X k ∨ w.heap.size ≤ k) ∧ Frame (M.own g X) w w'
end

section
variable {U : Type} {M : LM U} {g : Nat} {s : LS U} {X : Nat → Prop} {w w' : World} {nd : Int} {f : Bool} {b : List UInt8} {u : U}
theorem LM.RepN.spl (h : M.RepN g nd f b u X w) : ∃ post, Spl g 2 M.T [.int .i64 nd, M.piece g] post f b w := by
  obtain ⟨rest, h, -⟩ := h
  exact ⟨_, h⟩
theorem LM.RepN.lt (h : M.RepN g nd f b u X w) : g < w.heap.size := by
  obtain ⟨rest, h, -⟩ := h
  exact h.lt
theorem LM.RepN.le (h : M.RepN g nd f b u X w) : b.length ≤ 64 := by
  obtain ⟨rest, h, -⟩ := h
  exact h.le
theorem LM.RepN.old (h : M.RepN g nd f b u X w) : ∀ k, M.own g X k → k < w.heap.size := by
  intro k hk
  rcases hk with rfl | hk
  · exact h.lt
  · obtain ⟨rest, -, he⟩ := h
    exact (M.extOld _ _ _ _ _ he k hk).1
theorem LM.RepN.need (h : M.RepN g nd f b u X w) : w.cell? ⟨g, 0, none⟩ = some (.int .i64 nd) := by
  obtain ⟨rest, h, -⟩ := h
  rw [cell_of_row _ _ _ _ _ _ h.heap]; rfl
theorem LM.RepN.pieceC (h : M.RepN g nd f b u X w) : w.cell? ⟨g, 1, none⟩ = some (M.piece g) := by
  obtain ⟨rest, h, -⟩ := h
  rw [cell_of_row _ _ _ _ _ _ h.heap]; rfl
theorem LM.RepN.froz (h : M.RepN g nd f b u X w) (o : Nat) : w.frozen? ⟨g, o, none⟩ = false := by
  obtain ⟨rest, h, -⟩ := h
  simp [World.frozen?, h.heap]
theorem LM.RepN.eachC (h : M.RepN g nd f b u X w) : w.cell? ⟨g, 68, none⟩ = some (M.each g) := by
  obtain ⟨rest, h, -⟩ := h
  rw [cell_of_row _ _ _ _ _ _ h.heap]
  simp only [rowA, List.getElem?_toArray]
  rw [List.getElem?_append_right (by simp [length_splL h.le])]
  simp [length_splL h.le]
theorem LM.RepN.lastC (h : M.RepN g nd f b u X w) : w.cell? ⟨g, 69, none⟩ = some (lastV M.last g) := by
  obtain ⟨rest, h, -⟩ := h
  rw [cell_of_row _ _ _ _ _ _ h.heap]
  simp only [rowA, List.getElem?_toArray]
  rw [List.getElem?_append_right (by simp [length_splL h.le])]
  simp [length_splL h.le]
theorem LM.RepN.base (h : M.RepN g nd f b u X w) : M.base ≤ g := by
  obtain ⟨rest, -, he⟩ := h
  exact M.extBase _ _ _ _ _ he
theorem LM.RepN.frame {p : Nat → Prop} (h : M.RepN g nd f b u X w) (hf : Frame p w w') (hp : ∀ k, M.own g X k ∨ k < M.base → ¬ p k) : M.RepN g nd f b u X w' := by
  obtain ⟨rest, h, he⟩ := h
  exact ⟨rest, h.frame hf (hp g (.inl (.inl rfl))), M.extKeep _ _ _ _ _ _ p he hf (fun k hk => hp k (hk.imp .inr id))⟩
theorem rowA_need (n m a : Value) (f : Bool) (b : List UInt8) (post : List Value) : (rowA [n, a] f b post).setIfInBounds 0 m = rowA [m, a] f b post := by simp [rowA]
theorem LM.RepN.setNeed (h : M.RepN g nd f b u X w) (nd' : Int) : M.RepN g nd' f b u X (w.setCell ⟨g, 0, none⟩ (.int .i64 nd')) := by
  obtain ⟨rest, h, he⟩ := h
  refine ⟨rest, ⟨?_, rfl, h.le, h.fail⟩, LM.keepG he (Frame.cell w ⟨g, 0, none⟩ _)⟩
  rw [setCell_row h.heap, rowA_need]
theorem LM.Rep.need (h : M.Rep g s X w) : w.cell? ⟨g, 0, none⟩ = some (.int .i64 (needOf s)) := h.repN.need
theorem LM.Rep.froz (h : M.Rep g s X w) : w.frozen? ⟨g, 0, none⟩ = false := h.repN.froz 0
theorem LM.Rep.frame {p : Nat → Prop} (h : M.Rep g s X w) (hf : Frame p w w') (hp : ∀ k, M.own g X k ∨ k < M.base → ¬ p k) : M.Rep g s X w' := ⟨h.repN.frame hf hp, h.live⟩
theorem LM.Rep.stop (h : M.Rep g s X w) : M.Rep g ⟨false, s.fail, s.b, s.u⟩ X (w.setCell ⟨g, 0, none⟩ (.int .i64 (-1))) := ⟨h.repN.setNeed (-1), fun h => by cases h⟩
/-- What the splitter's calls do to a machine. -/
theorem LM.Rep.with (h : M.Rep g s X w) {rest : List Value} (he : M.ext g s.u X rest w) (hf : Frame (· = g) w w') {f : Bool} {b : List UInt8} (hs : Spl g 2 M.T [.int .i64 (needOf s), M.piece g] (M.each g :: lastV M.last g :: rest) f b w') (hl : s.live = true → f = false) : M.Rep g ⟨s.live, f, b, s.u⟩ X w' :=
  ⟨⟨rest, hs, LM.keepG he hf⟩, fun h3 => ⟨hl h3, (h.live h3).2⟩⟩
end

set_option maxRecDepth 100000 in
set_option maxHeartbeats 1000000 in
theorem feed_no (g : Nat) (n : Int) (port : Int) (a : Option Addr) (l c : Nat) (w : World) (hn : w.cell? ⟨g, 0, none⟩ = some (.int .i64 n)) (hE : feedE n port l ≠ 0) :
    Calls Tryd.prog 97 #[.pointer (some ⟨g, 0, none⟩), .int .i64 port, .slice a l c] w (Says w (.tuple #[.slice none 0 0, .int .i64 (feedE n port l)])) := by
  have HN := Lib.hid hn
  obtain ⟨E, hE2⟩ : ∃ E, E = feedE n port l := ⟨_, rfl⟩
  rw [← hE2] at hE ⊢
  have HE := Lib.hid hE2
  have g1 : (E != 0) = true := by simpa using hE
  clear hn hE hE2
  go_enter Tryd.func97, Tryd.ntmps97
  go_wp2_with fail
  refine (mayFeed_any port a l c HN.out).mono ?_
  rintro e w' ⟨rfl, rfl⟩
  rw [← HE.out]
  go_wp2
  go_ret2
  exact ⟨rfl, rfl⟩

set_option maxRecDepth 100000 in
set_option maxHeartbeats 1000000 in
theorem end_no (g : Nat) (n : Int) (port : Int) (w : World) (hn : w.cell? ⟨g, 0, none⟩ = some (.int .i64 n)) (hE : endE n port ≠ 0) :
    Calls Tryd.prog 89 #[.pointer (some ⟨g, 0, none⟩), .int .i64 port] w (Says w (.tuple #[.slice none 0 0, .int .i64 (endE n port)])) := by
  have HN := Lib.hid hn
  obtain ⟨E, hE2⟩ : ∃ E, E = endE n port := ⟨_, rfl⟩
  rw [← hE2] at hE ⊢
  have HE := Lib.hid hE2
  have g1 : (E != 0) = true := by simpa using hE
  clear hn hE hE2
  go_enter Tryd.func89, Tryd.ntmps89
  go_wp2_with fail
  refine (mayEnd_any port HN.out).mono ?_
  rintro e w' ⟨rfl, rfl⟩
  rw [← HE.out]
  go_wp2
  go_ret2
  exact ⟨rfl, rfl⟩

set_option maxRecDepth 100000 in
set_option maxHeartbeats 2000000 in
theorem end_yes {U : Type} (M : LM U) (g : Nat) (s : LS U) (X : Nat → Prop) (w : World) (h : M.Rep g s X w) (hT : M.Tells g) (hF : Enters M.F) (hl : s.live = true) (hN : M.last = none) :
    Calls Tryd.prog 89 #[.pointer (some ⟨g, 0, none⟩), .int .i64 0] w (M.Gives g w (endB M.tell s).2.1 (endB M.tell s).2.2 (endB M.tell s).1 X) := by
  have hn := h.need
  have HN := Lib.hid hn
  have HT := Lib.hid hT
  have HR := Lib.hid h
  have HE := Lib.hid (show endE (needOf s) 0 = 0 by simp [endE, needOf, hl])
  have HL := Lib.hid hl
  obtain ⟨rest, hspl, hext⟩ := h.repN
  have HS := Lib.hid hspl
  have HEX := Lib.hid hext
  have HNone := Lib.hid (show lastV M.last g = .nilFunc by rw [hN]; rfl)
  clear h hn hT hl hspl hext hN
  by_cases hb : s.b = []
  · have HB := Lib.hid (show (!s.b.isEmpty) = false by simp [hb])
    have HX := Lib.hid (show endB M.tell s = (⟨false, s.fail, [], s.u⟩, [], 0) by rw [endB, if_pos hb])
    clear hb
    go_enter Tryd.func89, Tryd.ntmps89
    go_wp2_with fail
    refine (mayEnd_any 0 HN.out).mono ?_
    rintro e w' ⟨rfl, rfl⟩
    rw [HE.out]
    go_wp2_with fail
    refine (rest_any HS.out).mono ?_
    rintro e w1 ⟨rfl, hs, hf⟩
    rw [HB.out]
    have hR1 := HR.out.with HEX.out hf hs (fun hl => (HR.out.live hl).1)
    have k69 := hR1.repN.lastC
    rw [HNone.out] at k69
    have qn := neq_nilFunc
    have HR1 := Lib.hid hR1
    have HF := Lib.hid hf
    clear hR1 hs hf
    go_wp2_with fail
    refine (stop_any HR1.out.need HR1.out.froz).mono ?_
    rintro e w2 ⟨rfl, rfl⟩
    have hR2 := HR1.out.stop
    have HR2 := Lib.hid hR2
    clear hR2
    go_wp2_with fail
    go_ret2
    rw [HX.out]
    exact ⟨_, X, rfl, OwnOuts.nil _ _, HR2.out, fun _ h => .inl h, (HF.out.trans (Frame.cell _ ⟨g, 0, none⟩ _)).mono (fun _ _ h => .inl h)⟩
  · have HB := Lib.hid (show (!s.b.isEmpty) = true by cases hq : s.b <;> simp_all)
    have HX := Lib.hid (show endB M.tell s = (⟨false, s.fail, [], (M.tell s.u s.b).1⟩, (M.tell s.u s.b).2.1, 0) by rw [endB, if_neg hb])
    clear hb
    go_enter Tryd.func89, Tryd.ntmps89
    go_wp2_with fail
    refine (mayEnd_any 0 HN.out).mono ?_
    rintro e w' ⟨rfl, rfl⟩
    rw [HE.out]
    go_wp2_with fail
    refine (rest_any HS.out).mono ?_
    rintro e w1 ⟨rfl, hs, hf⟩
    rw [HB.out]
    have hR1 := HR.out.with HEX.out hf hs (fun hl => (HR.out.live hl).1)
    have he := hR1.repN.eachC
    unfold LM.each at he
    have HR1 := Lib.hid hR1
    have HF := Lib.hid hf
    have hent := hF
    unfold Enters at hent
    clear hR1 hs hf
    go_wp2_with fail
    clear hent
    refine (HT.out _ _ s.b w1 HR1.out HL.out rfl HS.out.le).mono ?_
    rintro e w2 ⟨v, X', rfl, ho, hR2, -, hX, hf2⟩
    have HR2 := Lib.hid hR2
    have HO := Lib.hid ho
    have HF2 := Lib.hid hf2
    have HXX := Lib.hid hX
    have k69 := hR2.repN.lastC
    rw [HNone.out] at k69
    have qn := neq_nilFunc
    clear hR2 ho hf2 he hX
    go_wp2_with fail
    refine (stop_any HR2.out.need HR2.out.froz).mono ?_
    rintro e w3 ⟨rfl, rfl⟩
    have hR3 := HR2.out.stop
    have HR3 := Lib.hid hR3
    clear hR3
    go_wp2_with fail
    go_ret2
    rw [HX.out]
    have hlt := HS.out.lt
    have hsz := HF.out.size
    refine ⟨v, X', rfl, (HO.out.mono hsz).frame (Frame.cell _ ⟨g, 0, none⟩ _) (fun k hk _ => by simp; omega), HR3.out, fun k hk => ?_, (((HF.out.mono (fun _ _ h => .inl h)).trans HF2.out).trans ((Frame.cell _ ⟨g, 0, none⟩ _).mono (fun _ _ h => .inl h)))⟩
    rcases HXX.out k hk with h | h
    · exact .inl h
    · exact .inr (by omega)

end Go.Proofs.YtmmhpjhmobhdiaaDoor
