/- What join.New does. -/
import Derived.Test.YtchepmikbnnnhaaDoorJnB
import Derived.Test.YtchepmikbnnnhaaDoorIcheck
import Derived.Test.YtchepmikbnnnhaaDoorPB
import Derived.Test.YtchepmikbnnnhaaDoorRA
import Derived.Test.YtchepmikbnnnhaaDoorGlaws
import Derived.Test.YtchepmikbnnnhaaDoorGrowm
import Derived.Test.YtchepmikbnnnhaaDoorRC
namespace Go.Proofs.YtchepmikbnnnhaaDoor
open Go.RowKit

def newRow (S : ByteArray) (n : Nat) : Array Value := (([.int .i64 0, .nilFunc, .nilFunc, .nilFunc, .nilFunc, .string S, .int .i64 n] : List Value) ++ (zeroSide ++ (zeroSide ++ [Value.int .i64 0]))).toArray
theorem Tryd.built_join (S : ByteArray) (n : Nat) : Tryd.prog.built 92 [(1, .string S), (2, .int .i64 n)] = some (newRow S n) := by kernel_rfl
theorem newRow_set (S : ByteArray) (n : Nat) (p q r s : Value) : ((((newRow S n).setIfInBounds 2 p).setIfInBounds 3 q).setIfInBounds 1 r).setIfInBounds 4 s = (([.int .i64 0, r, p, q, s, .string S, .int .i64 n] : List Value) ++ (zeroSide ++ (zeroSide ++ [Value.int .i64 0]))).toArray := by
  unfold newRow
  simp only [List.setIfInBounds_toArray, List.cons_append, List.set_cons_succ, List.set_cons_zero]

/-- The call answers a machine of its own. -/
def JoinMade (w : World) (N : Nat) (a : UInt8) (e : Ending) (w' : World) : Prop :=
  ∃ g own, e = .returned (.tuple #[.iface 76 (.pointer (some ⟨g, 0, none⟩)), .int .i64 0]) ∧ joinRep N a g freshJ own w' ∧ (∀ k, own k → w.heap.size ≤ k) ∧ Below w.heap.size w w'

set_option maxRecDepth 100000 in
set_option maxHeartbeats 1000000 in
theorem joinNew_no (k n : Int) (va vb : Value) (A B : List UInt8) (w : World) (hT : Pm.Tab w) (hA : Pm.IsBytes w va A) (hB : Pm.IsBytes w vb B) (hE : takeE 14 k n A B ≠ 0) :
    Calls Tryd.prog 14 #[Pm.parV k n va vb] w (Pm.Gives w (.tuple #[.nilIface, .int .i64 (takeE 14 k n A B)])) := by
  have HT := Lib.hid (show ∀ o1, Pm.Tab (w.alloc o1) from fun o1 => hT.below ((Below.refl _ _).alloc (Nat.le_refl _) _))
  have HA := Lib.hid (show ∀ o1, Pm.IsBytes (w.alloc o1) va A from fun o1 => hA.below ((Below.refl _ _).alloc (Nat.le_refl _) _))
  have HB := Lib.hid (show ∀ o1, Pm.IsBytes (w.alloc o1) vb B from fun o1 => hB.below ((Below.refl _ _).alloc (Nat.le_refl _) _))
  have HB0 := Lib.hid (show ∀ o1, Below w.heap.size w (w.alloc o1) from fun o1 => (Below.refl _ _).alloc (Nat.le_refl _) _)
  obtain ⟨E, hE2⟩ : ∃ E : Int, E = takeE 14 k n A B := ⟨_, rfl⟩
  have HE := Lib.hid hE2
  rw [← hE2] at hE ⊢
  have g1 : (E != 0) = true := by simpa using hE
  clear hT hA hB hE hE2
  unfold Pm.parV
  go_enter Tryd.func14, Tryd.ntmps14
  go_wp2_with fail
  refine (intakeCheck_any 14 k n va vb A B _ (HT.out _) (HA.out _) (HB.out _)).mono ?_
  rintro e w1 ⟨rfl, hb⟩
  rw [← HE.out]
  have HW := Lib.hid ((HB0.out _).trans (hb.mono (HB0.out _).size))
  clear hb
  go_wp2_with fail
  go_ret2
  exact ⟨rfl, HW.out⟩

set_option maxRecDepth 100000 in
set_option maxHeartbeats 4000000 in
theorem joinNew_yes (k : Int) (N : Nat) (va vb : Value) (a : UInt8) (B : List UInt8) (w : World) (hT : MaxTab w) (hA : Pm.IsBytes w va [a]) (hB : Pm.IsBytes w vb B) (hE : takeE 14 k N [a] B = 0) :
    Calls Tryd.prog 14 #[Pm.parV k N va vb] w (JoinMade w N a) := by
  have HT := Lib.hid (show ∀ o1, Pm.Tab (w.alloc o1) from fun o1 => hT.1.below ((Below.refl _ _).alloc (Nat.le_refl _) _))
  have HM := Lib.hid (show ∀ W, Below w.heap.size w W → MaxAt W from fun W hb => (hT.below hb).2)
  have HA := Lib.hid (show ∀ W, Below w.heap.size w W → Pm.IsBytes W va [a] from fun W hb => hA.below hb)
  have HB := Lib.hid (show ∀ o1, Pm.IsBytes (w.alloc o1) vb B from fun o1 => hB.below ((Below.refl _ _).alloc (Nat.le_refl _) _))
  have HB0 := Lib.hid (show ∀ o1, Below w.heap.size w (w.alloc o1) from fun o1 => (Below.refl _ _).alloc (Nat.le_refl _) _)
  have HE := Lib.hid hE
  have hlt := hT.2.lt
  clear hT hA hB hE
  unfold Pm.parV
  go_enter Tryd.func14, Tryd.ntmps14
  go_wp2_with fail
  refine (intakeCheck_any 14 k N va vb [a] B _ (HT.out _) (HA.out _ (HB0.out _)) (HB.out _)).mono ?_
  rintro e w1 ⟨rfl, hb⟩
  rw [HE.out]
  have q0 : w1.cell? ⟨w.heap.size, 1, none⟩ = some (.int .i64 N) := Pm.Below.cell hb (by simp)
  have q1 : w1.cell? ⟨w.heap.size, 2, none⟩ = some va := Pm.Below.cell hb (by simp)
  have hbw := (HB0.out _).trans (hb.mono (HB0.out _).size)
  have kc := Pm.conv_any (HA.out _ hbw)
  have HW := Lib.hid hbw
  obtain ⟨SA, hSA⟩ : ∃ S : ByteArray, Pm.strV [a] = .string S := ⟨_, rfl⟩
  rw [hSA] at kc
  have HSA := Lib.hid hSA
  clear hb hbw hSA
  obtain ⟨R, hR⟩ : ∃ R, R = newRow SA N := ⟨_, rfl⟩
  have hbuilt : Tryd.prog.built 92 [(1, .string SA), (2, .int .i64 N)] = some R := by rw [hR]; exact Tryd.built_join _ _
  have HRow := Lib.hid hR
  clear hR
  go_upto_region 5 with (with_reducible refine wpList_build2 rfl 92 1 2 (.tmp 13) (.tmp 15) rfl (.string SA) (.int .i64 N) rfl rfl R hbuilt ?_)
  have hh := heap_alloc_last w1 (.cells R 92)
  have hb2 : Below w.heap.size w (w1.alloc (.cells R 92)) := HW.out.alloc HW.out.size _
  have hge := HW.out.size
  generalize w1.alloc (.cells R 92) = W1 at hh hb2 ⊢
  generalize w1.heap.size = G at hh hge ⊢
  have hz : ∀ o, W1.frozen? ⟨G, o, none⟩ = false := fun o => by simp [World.frozen?, hh]
  have hz1 := hz 1
  have hz2 := hz 2
  have hz3 := hz 3
  have hz4 := hz 4
  have hc : ∀ i, 1 ≤ i → i ≤ 4 → W1.cell? ⟨G, i, none⟩ = some .nilFunc := fun i h1 h4 => by
    rw [cell_of_row _ _ _ _ _ _ hh, HRow.out]
    unfold newRow
    rw [List.getElem?_toArray]
    obtain rfl | rfl | rfl | rfl : i = 1 ∨ i = 2 ∨ i = 3 ∨ i = 4 := by omega
    all_goals rfl
  have hc1 := hc 1 (by decide) (by decide)
  have hc2 := hc 2 (by decide) (by decide)
  have hc3 := hc 3 (by decide) (by decide)
  have hc4 := hc 4 (by decide) (by decide)
  have HH := Lib.hid hh
  have HB2 := Lib.hid hb2
  have HGE := Lib.hid hge
  clear hh hb2 hge q0 q1 HW kc hz hc hbuilt
  go_wp2_with fail
  go_ret2
  have hf := ((Frame.cell W1 ⟨G, 2, none⟩ (.func (.func 31) #[.pointer (some ⟨G, 0, none⟩)] #[])).trans (Frame.cell _ ⟨G, 3, none⟩ (.func (.func 32) #[.pointer (some ⟨G, 0, none⟩)] #[]))).trans ((Frame.cell _ ⟨G, 1, none⟩ (.func (.func 33) #[.pointer (some ⟨G, 0, none⟩)] #[])).trans (Frame.cell _ ⟨G, 4, none⟩ (.func (.func 34) #[.pointer (some ⟨G, 0, none⟩)] #[])))
  have hb3 := hf.below (n := w.heap.size) (by exact HB2.out.size) (fun k e => by have e' : k = G := e; have := HGE.out; omega)
  have hb4 := HB2.out.trans hb3
  have hg : G ≠ 1 := by have := HGE.out; omega
  refine ⟨G, _, rfl, ⟨fun _ _ => False, fun _ _ => False, fun _ => .slice none 0 0, fun _ => .slice none 0 0, ⟨?_, fun _ _ => Nat.zero_le _, (fun _ _ h => by cases h), fun _ _ => .nil _ (fun _ h => h), fun _ _ => .nil _ (fun _ h => h), (fun _ _ _ h => by rcases h with h | h <;> exact h.elim), (fun _ h => by rcases h.1 with h | h <;> exact h.elim), fun _ _ _ h => h.elim, HM.out _ hb4, hg⟩, JInv.fresh, rfl⟩, fun k hk => ?_, hb4⟩
  · rw [setCell_row (setCell_row (setCell_row (setCell_row HH.out _ _) _ _) _ _) _ _, HRow.out, newRow_set]
    have : strV [a] = .string SA := HSA.out
    unfold jRow headV
    rw [this, zeroSide_is a]
    rfl
  · rcases ownJ_cases hk with rfl | ⟨j, -, e⟩
    · exact HGE.out
    · rcases e with e | e <;> exact e.elim

end Go.Proofs.YtchepmikbnnnhaaDoor

namespace Go.Proofs.YtchepmikbnnnhaaDoor
open Go.RowKit

def joinBase : Nat := 1 + 1
theorem join_tab {w : World} (hL : laidMetH Tryd.prog [("penstock/params.rows", Rows.laid_penstock_params_rows)] w) (hS : w.ShapedOpen Tryd.prog) : MaxTab w := maxTab_of hL hS
theorem join_base {w : World} (h : MaxTab w) : joinBase ≤ w.heap.size := h.2.lt
/-- How many inputs it has. -/
def joinIns (_ : Nat) : Nat := 2
abbrev joinOk (N : Nat) (A _ : List UInt8) : Prop := (1 ≤ N ∧ N ≤ 14) ∧ A.length = 1
theorem oneJ_of {A : List UInt8} (h : A.length = 1) : ∃ a, A = [a] := by
  match A, h with
  | [a], _ => exact ⟨a, rfl⟩
def joinI (_ : Nat) (_ _ : List UInt8) : JS := freshJ
def joinF (N : Nat) (A _ : List UInt8) : Mach JS := joinMach N (A.headD 0)
def joinR (N : Nat) (A _ : List UInt8) (g : Nat) : JS → (Nat → Prop) → World → Prop := joinRep N (A.headD 0) g
theorem join_baseR {N : Nat} {A B : List UInt8} {g : Nat} {s : JS} {own : Nat → Prop} {w : World} (h : joinR N A B g s own w) : joinBase ≤ w.heap.size := by
  obtain ⟨X, Y, val, gval, h, -⟩ := h
  exact h.max.lt
theorem join_drives (N : Nat) (A B : List UInt8) (g : Nat) (hok : joinOk N A B) : ∃ fN fH fF fE fM rN rH rF rE rM, Driven (joinF N A B) joinBase (joinR N A B g) 76 (.pointer (some ⟨g, 0, none⟩)) fN fH fF fE fM rN rH rF rE rM :=
  ⟨_, _, _, _, _, _, _, _, _, _, join_driven N _ hok.1.1 hok.1.2 g⟩
theorem join_needs (N : Nat) (A B : List UInt8) (s : JS) (_ : joinOk N A B) {g : Nat} {own : Nat → Prop} {w : World} (h : joinR N A B g s own w) : (joinF N A B).need s = -1 ∨ (joinF N A B).need s = -2 ∨ (0 ≤ (joinF N A B).need s ∧ (joinF N A B).need s ≤ 3 ∧ (joinF N A B).need s < (joinIns N : Nat)) := by
  obtain ⟨X, Y, val, gval, -, hi, -⟩ := h
  show s.need = -1 ∨ s.need = -2 ∨ (0 ≤ s.need ∧ s.need ≤ 3 ∧ s.need < ((2 : Nat) : Int))
  cases hi.waits with
  | dead k => exact .inl k
  | reads p hp k hw ho ht => exact .inr (.inr (by omega))
  | tells k hk ht => exact .inr (.inl k)
theorem join_no (k n : Int) (va vb : Value) (A B : List UInt8) (w : World) (hT : MaxTab w) (hA : Pm.IsBytes w va A) (hB : Pm.IsBytes w vb B) (hE : takeE 14 k n A B ≠ 0) :
    Calls Tryd.prog 14 #[Pm.parV k n va vb] w (Pm.Gives w (.tuple #[.nilIface, .int .i64 (takeE 14 k n A B)])) := joinNew_no k n va vb A B w hT.1 hA hB hE
theorem join_yes (k : Int) (n : Nat) (va vb : Value) (A B : List UInt8) (w : World) (hT : MaxTab w) (hA : Pm.IsBytes w va A) (hB : Pm.IsBytes w vb B) (hE : takeE 14 k n A B = 0) (hok : joinOk n A B) :
    Calls Tryd.prog 14 #[Pm.parV k n va vb] w (MadeOf 76 (joinR n A B) (joinI n A B) w) := by
  obtain ⟨a, rfl⟩ := oneJ_of hok.2
  exact (joinNew_yes k n va vb a B w hT hA hB hE).mono fun _ _ ⟨g, own, he, hR, hg, hb⟩ => ⟨g, own, he, hR, hg, hb⟩
def joinBound (N : Nat) (_ _ : List UInt8) : Nat := 128 * N + 192
theorem join_fit {k n : Int} {A B : List UInt8} (h1 : Pm.checkE k n A B = 0) (hk : k = 14) : 0 ≤ n ∧ joinOk n.toNat A B ∧ takeE 14 k n A B = 0 ∧ Pm.insE k n A B = joinIns n.toNat ∧ Pm.boundE k n A B = joinBound n.toNat A B := by
  subst hk
  have hf : Pm.fits (Pm.kindOf 14) n A B = true := by
    have h1 := h1
    unfold Pm.checkE at h1
    rw [if_neg (by omega)] at h1
    by_cases hf : Pm.fits (Pm.kindOf 14) n A B = false
    · rw [show (14 : Int).toNat = 14 from rfl, if_pos hf] at h1
      cases h1
    · simpa using hf
  have hm : Pm.tooMuch (Pm.kindOf 14) n = false := by
    have h1 := h1
    unfold Pm.checkE at h1
    rw [if_neg (by omega), show (14 : Int).toNat = 14 from rfl, if_neg (by rw [hf]; decide)] at h1
    by_cases hm : Pm.tooMuch (Pm.kindOf 14) n = true
    · rw [if_pos hm] at h1; cases h1
    · simpa using hm
  have hb : Pm.boundE 14 n A B = 192 + 128 * n := by rw [Pm.boundE, if_pos h1]; simp [Pm.kindOf, Pm.kinds]
  have hi : Pm.insE 14 n A B = 2 := by rw [Pm.insE, if_pos h1]; simp [Pm.kindOf, Pm.kinds, Pm.portsE]
  simp [Pm.fits, Pm.kindOf, Pm.kinds, Pm.mayBe] at hf
  simp [Pm.tooMuch, Pm.kindOf, Pm.kinds] at hm
  have hn : 1 ≤ n ∧ n ≤ 14 := by omega
  have hA : A.length = 1 := by omega
  refine ⟨by omega, ⟨⟨by omega, by omega⟩, hA⟩, by rw [takeE, if_neg (by rw [h1]; simp), if_neg (by simp)], by rw [hi]; rfl, ?_⟩
  rw [hb]
  show 192 + 128 * n = ((128 * n.toNat + 192 : Nat) : Int)
  omega

/-! What comes of inputs, whatever the chunks. -/
def joinFin (N : Nat) (A _ : List UInt8) (ins : List Strm) : Fin := joinFinF N (A.headD 0) (insF ins)
theorem join_drive (N : Nat) (A B : List UInt8) (ins : List Strm) (cuts : List Int) (hok : joinOk N A B) (hlen : ins.length = joinIns N) (hl : ∀ t ∈ ins, t.bytes.length ≤ 4000) :
    (drive (joinF N A B) ins cuts 100000 0 (start (joinF N A B) (joinI N A B))).got.outs = (joinFin N A B ins).outs ∧ (drive (joinF N A B) ins cuts 100000 0 (start (joinF N A B) (joinI N A B))).got.need = (joinFin N A B ins).need ∧
    (drive (joinF N A B) ins cuts 100000 0 (start (joinF N A B) (joinI N A B))).got.err = (joinFin N A B ins).err := join_driven_to cuts hok.1.1 hok.1.2 hlen hl
def exJ : List Strm := [⟨[97, 58, 49, 10, 98, 58, 50, 10, 98, 58, 51, 10, 100], true, 0, 0, 0⟩, ⟨[98, 58, 120, 10, 99, 10, 100, 58, 121], true, 0, 0, 0⟩]
theorem join_ex : (joinFin 3 [58] [] exJ).outs 0 = [98, 58, 50, 58, 120, 10, 98, 58, 51, 58, 120, 10, 100, 58, 58, 121, 10] ∧ (joinFin 3 [58] [] exJ).outs 1 = [] ∧ (joinFin 3 [58] [] exJ).outs 2 = [] ∧ (joinFin 3 [58] [] exJ).outs 3 = [] ∧ (joinFin 3 [58] [] exJ).need = -1 ∧ (joinFin 3 [58] [] exJ).err = 0 := ⟨by kernel_rfl, by kernel_rfl, by kernel_rfl, by kernel_rfl, by kernel_rfl, by kernel_rfl⟩
theorem join_held (N : Nat) (A B : List UInt8) (ins : List Strm) (cuts : List Int) (hok : joinOk N A B) : (drive (joinF N A B) ins cuts 100000 0 (start (joinF N A B) (joinI N A B))).got.held ≤ joinBound N A B := join_kept hok.1.1 ins cuts

end Go.Proofs.YtchepmikbnnnhaaDoor

namespace Go.Proofs.YtchepmikbnnnhaaDoor

theorem join_some (N : Nat) (A B : List UInt8) (_ : joinOk N A B) : 0 < joinIns N := by show 0 < 2; decide
theorem insF_longer {ins ins' : List Strm} (h : LongerAll ins ins') (j : Nat) : RdMore (insF ins j) (insF ins' j) := by
  obtain ⟨hl, hj⟩ := h
  cases hi : ins[j]? with
  | none =>
    have h1 := List.getElem?_eq_none_iff.1 hi
    have : ins'[j]? = none := List.getElem?_eq_none (by omega)
    unfold insF
    rw [List.getD_eq_getElem?_getD, List.getD_eq_getElem?_getD, hi, this]
    exact RdMore.refl _
  | some i =>
    have h1 := (List.getElem?_eq_some_iff.1 hi).1
    have hi' : ins'[j]? = some (ins'[j]'(by omega)) := List.getElem?_eq_getElem (by omega)
    rw [insF_at hi, insF_at hi']
    exact RdMore.longer (hj j i _ hi hi')
theorem join_grows (N : Nat) (A B : List UInt8) (ins ins' : List Strm) (h : LongerAll ins ins') : GrowsTo (joinFin N A B ins) (joinFin N A B ins') := joinFinF_grows (insF_longer h)

end Go.Proofs.YtchepmikbnnnhaaDoor

namespace Go.Proofs.YtchepmikbnnnhaaDoor
open Go.RowKit

theorem join_pokes (N : Nat) (A B : List UInt8) (g : Nat) (hok : joinOk N A B) : ∃ fN fH fF fE fM rN rH rF rE rM, Driven (joinF N A B) joinBase (joinR N A B g) 76 (.pointer (some ⟨g, 0, none⟩)) fN fH fF fE fM rN rH rF rE rM ∧ Refusing (joinF N A B) (joinR N A B g) fF fE fM rF rE rM :=
  ⟨_, _, _, _, _, _, _, _, _, _, join_driven N _ hok.1.1 hok.1.2 g, join_refusing N _ g⟩

end Go.Proofs.YtchepmikbnnnhaaDoor
