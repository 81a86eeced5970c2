/- What paste.New does. -/
import Derived.Test.YteghdepedlaneaaDoorPsB
import Derived.Test.YteghdepedlaneaaDoorIcheck
import Derived.Test.YteghdepedlaneaaDoorPB
import Derived.Test.YteghdepedlaneaaDoorRA
import Derived.Test.YteghdepedlaneaaDoorGlaws
import Derived.Test.YteghdepedlaneaaDoorGrowm
import Derived.Test.YteghdepedlaneaaDoorRC
namespace Go.Proofs.YteghdepedlaneaaDoor
open Go.RowKit

theorem Tryd.built_paste (S : ByteArray) (q n : Nat) : Tryd.prog.built 83 [(1, .string S), (2, .slice (some ⟨q, 0, none⟩) n n)] = some #[.int .i64 0, .nilFunc, .nilFunc, .nilFunc, .nilFunc, .string S, .slice (some ⟨q, 0, none⟩) n n, .slice none 0 0, .bool false] := by kernel_rfl
theorem Tryd.info_queue : (Tryd.prog.info? 107).map (fun i => (i.zero, i.size, i.bytes)) = some (some (.agg Tryd.zeroCells107), 68, 112) := by kernel_rfl

/-- The call answers a machine of its own. -/
def PasteMade (w : World) (N : Nat) (a : UInt8) (e : Ending) (w' : World) : Prop :=
  ∃ g own, e = .returned (.tuple #[.iface 74 (.pointer (some ⟨g, 0, none⟩)), .int .i64 0]) ∧ pasteRep N [a] g freshP own w' ∧ (∀ k, own k → w.heap.size ≤ k) ∧ Below w.heap.size w w'

set_option maxRecDepth 100000 in
set_option maxHeartbeats 1000000 in
theorem pasteNew_no (k n : Int) (va vb : Value) (A B : List UInt8) (w : World) (hT : Pm.Tab w) (hA : Pm.IsBytes w va A) (hB : Pm.IsBytes w vb B) (hE : takeE 13 k n A B ≠ 0) :
    Calls Tryd.prog 14 #[Pm.parV k n va vb] w (Pm.Gives w (.tuple #[.nilIface, .int .i64 (takeE 13 k n A B)])) := by
  have HT := Lib.hid (show ∀ o1, Pm.Tab (w.alloc o1) from fun o1 => hT.below ((Below.refl _ _).alloc (Nat.le_refl _) _))
  have HA := Lib.hid (show ∀ o1, Pm.IsBytes (w.alloc o1) va A from fun o1 => hA.below ((Below.refl _ _).alloc (Nat.le_refl _) _))
  have HB := Lib.hid (show ∀ o1, Pm.IsBytes (w.alloc o1) vb B from fun o1 => hB.below ((Below.refl _ _).alloc (Nat.le_refl _) _))
  have HB0 := Lib.hid (show ∀ o1, Below w.heap.size w (w.alloc o1) from fun o1 => (Below.refl _ _).alloc (Nat.le_refl _) _)
  obtain ⟨E, hE2⟩ : ∃ E : Int, E = takeE 13 k n A B := ⟨_, rfl⟩
  have HE := Lib.hid hE2
  rw [← hE2] at hE ⊢
  have g1 : (E != 0) = true := by simpa using hE
  clear hT hA hB hE hE2
  unfold Pm.parV
  go_enter Tryd.func14, Tryd.ntmps14
  go_wp2_with fail
  refine (intakeCheck_any 13 k n va vb A B _ (HT.out _) (HA.out _) (HB.out _)).mono ?_
  rintro e w1 ⟨rfl, hb⟩
  rw [← HE.out]
  have HW := Lib.hid ((HB0.out _).trans (hb.mono (HB0.out _).size))
  clear hb
  go_wp2_with fail
  go_ret2
  exact ⟨rfl, HW.out⟩

/-- The queues of a new machine. -/
theorem qs_made (W W' : World) (N : Nat) (h : W' = W.alloc (.cells (madeCells Tryd.zeroCells107 (N * 68)) 107)) : Qs N W.heap.size (fun _ => false) (fun _ => []) (fun _ => .slice none 0 0) (fun _ => false) W' := by
  subst h
  refine ⟨⟨_, heap_alloc_last W _, size_madeCells _ _, fun j hj i hi => ?_⟩, fun _ _ => Nat.zero_le _, fun _ _ h => by cases h⟩
  have hz : Tryd.zeroCells107.size = 68 := by rw [qZero, List.size_toArray]; exact length_qL (by decide)
  have hlt : j * 68 + i < N * 68 := by omega
  simp only [madeCells, Array.getElem?_map, hz]
  rw [Array.getElem?_range, if_pos hlt]
  simp only [Option.map_some]
  rw [show (j * 68 + i) % 68 = i by omega, qZero]
  have hl68 : (qL false [] (.slice none 0 0) false).length = 68 := length_qL (by decide)
  rw [List.getElem?_eq_getElem (by rw [hl68]; exact hi)]
  simp [hl68, hi]

set_option maxRecDepth 100000 in
set_option maxHeartbeats 4000000 in
theorem pasteNew_yes (k : Int) (N : Nat) (h1 : 1 ≤ N) (h4 : N ≤ 4) (va vb : Value) (a : UInt8) (B : List UInt8) (w : World) (hT : Pm.Tab w) (hA : Pm.IsBytes w va [a]) (hB : Pm.IsBytes w vb B) (hE : takeE 13 k N [a] B = 0) :
    Calls Tryd.prog 14 #[Pm.parV k N va vb] w (PasteMade w N a) := by
  have HT := Lib.hid (show ∀ o1, Pm.Tab (w.alloc o1) from fun o1 => hT.below ((Below.refl _ _).alloc (Nat.le_refl _) _))
  have HA := Lib.hid (show ∀ W, Below w.heap.size w W → Pm.IsBytes W va [a] from fun W hb => hA.below hb)
  have HB := Lib.hid (show ∀ o1, Pm.IsBytes (w.alloc o1) vb B from fun o1 => hB.below ((Below.refl _ _).alloc (Nat.le_refl _) _))
  have HB0 := Lib.hid (show ∀ o1, Below w.heap.size w (w.alloc o1) from fun o1 => (Below.refl _ _).alloc (Nat.le_refl _) _)
  have HE := Lib.hid hE
  clear hT hA hB hE
  unfold Pm.parV
  go_enter Tryd.func14, Tryd.ntmps14
  go_wp2_with fail
  refine (intakeCheck_any 13 k N va vb [a] B _ (HT.out _) (HA.out _ (HB0.out _)) (HB.out _)).mono ?_
  rintro e w1 ⟨rfl, hb⟩
  rw [HE.out]
  have hcell : ∀ W, Below w1.heap.size w1 W → W.cell? ⟨w.heap.size, 1, none⟩ = some (.int .i64 N) ∧ W.cell? ⟨w.heap.size, 2, none⟩ = some va ∧ Pm.IsBytes W va [a] := fun W hw => by
    have hbw := (HB0.out (.cells #[.int .i64 k, .int .i64 N, va, vb] 24)).trans (hb.mono (HB0.out _).size)
    refine ⟨Pm.Below.cell (hb.trans (hw.mono hb.size)) (by simp), Pm.Below.cell (hb.trans (hw.mono hb.size)) (by simp), HA.out W (hbw.trans (hw.mono hbw.size))⟩
  have hbw := (HB0.out (.cells #[.int .i64 k, .int .i64 N, va, vb] 24)).trans (hb.mono (HB0.out _).size)
  have HW := Lib.hid hbw
  have HCell := Lib.hid hcell
  obtain ⟨SA, hSA⟩ : ∃ S : ByteArray, Pm.strV [a] = .string S := ⟨_, rfl⟩
  have hconv : ∀ W, Pm.IsBytes W va [a] → (convert 22 9 va).run Tryd.prog W = .ok (.string SA) W := fun W h => by rw [← hSA]; exact Pm.conv_any h
  have HConv := Lib.hid hconv
  have HSA := Lib.hid hSA
  obtain ⟨ti, hti, hz0, hz1, hz2⟩ := info_parts Tryd.info_queue
  clear hb hbw hSA hcell hconv
  go_upto_region 4 with fail
  refine anyG_start (S := fun W => W.cell? ⟨w.heap.size, 1, none⟩ = some (.int .i64 N) ∧ W.cell? ⟨w.heap.size, 2, none⟩ = some va ∧ Pm.IsBytes W va [a]) (by kernel_rfl) ?_
  have hS1 := HCell.out w1.drew ((Below.refl _ _).drew)
  refine anyG_take (i := 0) 11 (.pointer (some ⟨w.heap.size, 2, none⟩)) rfl rfl (by kernel_rfl) (by kernel_rfl) (by kernel_rfl) rfl (fun _ _ => by go_simp) hS1 ?_
  try simp only [Act.put, List.setIfInBounds_toArray, List.set_cons_succ, List.set_cons_zero]
  refine anyG_take (i := 1) 12 va rfl rfl (by kernel_rfl) (by kernel_rfl) (by kernel_rfl) rfl (fun W hW => by have c2 := hW.2.1; go_simp) hS1 ?_
  try simp only [Act.put, List.setIfInBounds_toArray, List.set_cons_succ, List.set_cons_zero]
  refine anyG_take (i := 2) 13 (.string SA) rfl rfl (by kernel_rfl) (by kernel_rfl) (by kernel_rfl) rfl (fun W hW => by have c2 := HConv.out W hW.2.2; go_simp) hS1 ?_
  try simp only [Act.put, List.setIfInBounds_toArray, List.set_cons_succ, List.set_cons_zero]
  refine anyG_take (i := 3) 14 (.pointer (some ⟨w.heap.size, 1, none⟩)) rfl rfl (by kernel_rfl) (by kernel_rfl) (by kernel_rfl) rfl (fun _ _ => by go_simp) hS1 ?_
  try simp only [Act.put, List.setIfInBounds_toArray, List.set_cons_succ, List.set_cons_zero]
  refine anyG_take (i := 4) 15 (.int .i64 N) rfl rfl (by kernel_rfl) (by kernel_rfl) (by kernel_rfl) rfl (fun W hW => by have c1 := hW.1; go_simp) hS1 ?_
  try simp only [Act.put, List.setIfInBounds_toArray, List.set_cons_succ, List.set_cons_zero]
  have hmk : (Instr.makeSlice 75 (.int .i64 N) (.int .i64 N)).run Tryd.prog w1.drew = .ok (.slice (some ⟨w1.heap.size, 0, none⟩) N N) (w1.drew.alloc (.cells (madeCells Tryd.zeroCells107 (N * 68)) 107)) := by
    have := run_make (P := Tryd.prog) w1.drew 75 107 ti _ Tryd.underlying75 hti hz0 .i64 .i64 (N : Int) (N : Int) (by omega) (Int.le_refl _) (by rw [hz2]; omega) (by omega)
    rw [hz1, Int.toNat_natCast] at this
    exact this
  refine anyG_step (i := 5) rfl (by kernel_rfl) rfl (fun K hK => ?_)
  go_simp
  have hq2 := (qs_made w1 _ N rfl).frame ((Frame.refl (fun _ => False) _).drew) (fun h => h)
  have hb2 : Below w1.heap.size w1 (w1.alloc (.cells (madeCells Tryd.zeroCells107 (N * 68)) 107)).drew := ((Below.refl w1.heap.size w1).alloc (Nat.le_refl _) _).drew
  have hsz2 : (w1.alloc (.cells (madeCells Tryd.zeroCells107 (N * 68)) 107)).drew.heap.size = w1.heap.size + 1 := by simp
  have hS2 := HCell.out _ hb2
  refine hK.out _ _ hS2 ?_
  clear hK K hmk
  generalize (w1.alloc (.cells (madeCells Tryd.zeroCells107 (N * 68)) 107)).drew = W2 at hq2 hb2 hS2 hsz2 ⊢
  have HQ2 := Lib.hid (show Qs N w1.heap.size (fun _ => false) (fun _ => []) (fun _ => .slice none 0 0) (fun _ => false) W2 from hq2)
  have hge := HW.out.size
  have HBB := Lib.hid (HW.out.trans (hb2.mono hge))
  have HB2 := Lib.hid hb2
  clear hq2 hb2
  obtain ⟨Q, hQ⟩ : ∃ Q, Q = w1.heap.size := ⟨_, rfl⟩
  rw [← hQ] at HQ2 hsz2 hge ⊢
  have HQe := Lib.hid hQ
  clear hQ
  try simp only [Act.put, List.setIfInBounds_toArray, List.set_cons_succ, List.set_cons_zero]
  have hbuilt := Tryd.built_paste SA Q N
  refine anyG_take (i := 6) 17 (.agg #[.int .i64 0, .nilFunc, .nilFunc, .nilFunc, .nilFunc, .string SA, .slice (some ⟨Q, 0, none⟩) N N, .slice none 0 0, .bool false]) rfl rfl (by kernel_rfl) (by kernel_rfl) (by kernel_rfl) rfl (fun W hW => by go_simp) hS2 ?_
  try simp only [Act.put, List.setIfInBounds_toArray, List.set_cons_succ, List.set_cons_zero]
  refine anyG_step (i := 7) rfl (by kernel_rfl) rfl (fun K hK => ?_)
  go_simp
  have hh := heap_alloc_last W2 (.cells #[.int .i64 0, .nilFunc, .nilFunc, .nilFunc, .nilFunc, .string SA, .slice (some ⟨Q, 0, none⟩) N N, .slice none 0 0, .bool false] 83)
  have hb3 : Below W2.heap.size W2 (W2.alloc (.cells #[.int .i64 0, .nilFunc, .nilFunc, .nilFunc, .nilFunc, .string SA, .slice (some ⟨Q, 0, none⟩) N N, .slice none 0 0, .bool false] 83)) := (Below.refl _ _).alloc (Nat.le_refl _) _
  have hS3 := HCell.out _ (HB2.out.trans (hb3.mono HB2.out.size))
  have hbw3 := HBB.out.trans (hb3.mono HBB.out.size)
  have hq3 := HQ2.out.frame (Below.toFrame hb3 fun _ => False) (fun h => h)
  rw [hsz2] at hh
  refine hK.out _ _ hS3 ?_
  clear hK K hbuilt hb3 hS2
  generalize W2.alloc (.cells #[.int .i64 0, .nilFunc, .nilFunc, .nilFunc, .nilFunc, .string SA, .slice (some ⟨Q, 0, none⟩) N N, .slice none 0 0, .bool false] 83) = W3 at hh hS3 hbw3 hq3 ⊢
  try simp only [Act.put, List.setIfInBounds_toArray, List.set_cons_succ, List.set_cons_zero]
  refine anyG_take (i := 8) 5 (.pointer (some ⟨Q + 1, 0, none⟩)) rfl rfl (by kernel_rfl) (by kernel_rfl) (by kernel_rfl) rfl (fun _ _ => by go_simp) hS3 ?_
  try simp only [Act.put, List.setIfInBounds_toArray, List.set_cons_succ, List.set_cons_zero]
  refine anyG_done (by kernel_rfl) ?_
  have z2 : W3.frozen? ⟨Q + 1, 2, none⟩ = false := by simp [World.frozen?, hh]
  have z3 : W3.frozen? ⟨Q + 1, 3, none⟩ = false := by simp [World.frozen?, hh]
  have z4 : W3.frozen? ⟨Q + 1, 4, none⟩ = false := by simp [World.frozen?, hh]
  have c2 : W3.cell? ⟨Q + 1, 2, none⟩ = some .nilFunc := by rw [cell_of_row _ _ _ _ _ _ hh]; rfl
  have c3 : W3.cell? ⟨Q + 1, 3, none⟩ = some .nilFunc := by rw [cell_of_row _ _ _ _ _ _ hh]; rfl
  have c4 : W3.cell? ⟨Q + 1, 4, none⟩ = some .nilFunc := by rw [cell_of_row _ _ _ _ _ _ hh]; rfl
  have HH := Lib.hid hh
  have HB3 := Lib.hid hbw3
  have HQ3 := Lib.hid hq3
  clear hh hbw3 hq3 hS1 hS3 hsz2
  go_wp2_with fail
  go_ret2
  have hf := (Frame.cell W3 ⟨Q + 1, 2, none⟩ (.func (.func 29) #[.pointer (some ⟨Q + 1, 0, none⟩)] #[])).trans ((Frame.cell _ ⟨Q + 1, 3, none⟩ (.func (.func 30) #[.pointer (some ⟨Q + 1, 0, none⟩)] #[])).trans (Frame.cell _ ⟨Q + 1, 4, none⟩ (.func (.func 31) #[.pointer (some ⟨Q + 1, 0, none⟩)] #[])))
  refine ⟨Q + 1, _, rfl, ⟨Q, fun _ _ => False, fun _ => .slice none 0 0, .slice none 0 0, ⟨?_, HQ3.out.frame hf (by show ¬ Q = Q + 1; omega), fun _ _ => .nil _ (fun _ h => h), .nil _ (fun _ h => h), by omega, fun _ _ _ h => h.elim, fun _ _ _ _ _ h => h.elim⟩, PInv.fresh h1, rfl⟩, fun k hk => ?_, HB3.out.trans (hf.below (by exact HB3.out.size) (fun k e => by have e' : k = Q + 1 := e; omega))⟩
  · rw [setCell_row (setCell_row (setCell_row HH.out _ _) _ _)]
    have : strV [a] = .string SA := HSA.out
    rw [← this]
    rfl
  · rcases hk with rfl | rfl | ⟨j, -, e⟩
    · omega
    · exact hge
    · exact e.elim

end Go.Proofs.YteghdepedlaneaaDoor

namespace Go.Proofs.YteghdepedlaneaaDoor
open Go.RowKit

def pasteBase : Nat := 0
theorem paste_tab {w : World} (hL : laidMetH Tryd.prog [("penstock/params.rows", Rows.laid_penstock_params_rows)] w) (_ : w.ShapedOpen Tryd.prog) : Pm.Tab w := Pm.tab_of_laid hL
theorem paste_base {w : World} (_ : Pm.Tab w) : pasteBase ≤ w.heap.size := Nat.zero_le _
/-- How many inputs it has. -/
def pasteIns (N : Nat) : Nat := N
abbrev pasteOk (N : Nat) (A _ : List UInt8) : Prop := (1 ≤ N ∧ N ≤ 4) ∧ A.length = 1
theorem one_of {A : List UInt8} (h : A.length = 1) : ∃ a, A = [a] := by
  match A, h with
  | [a], _ => exact ⟨a, rfl⟩
def pasteI (_ : Nat) (_ _ : List UInt8) : PS := freshP
def pasteF (N : Nat) (A _ : List UInt8) : Mach PS := pasteMach N A
def pasteR (N : Nat) (A _ : List UInt8) (g : Nat) : PS → (Nat → Prop) → World → Prop := pasteRep N A g
theorem paste_baseR {N : Nat} {A B : List UInt8} {g : Nat} {s : PS} {own : Nat → Prop} {w : World} (_ : pasteR N A B g s own w) : pasteBase ≤ w.heap.size := Nat.zero_le _
theorem paste_drives (N : Nat) (A B : List UInt8) (g : Nat) (hok : pasteOk N A B) : ∃ fN fH fF fE fM rN rH rF rE rM, Driven (pasteF N A B) pasteBase (pasteR N A B g) 74 (.pointer (some ⟨g, 0, none⟩)) fN fH fF fE fM rN rH rF rE rM := by
  obtain ⟨a, rfl⟩ := one_of hok.2
  exact ⟨_, _, _, _, _, _, _, _, _, _, paste_driven N a hok.1.1 hok.1.2 g⟩
theorem paste_needs (N : Nat) (A B : List UInt8) (s : PS) (hok : pasteOk N A B) {g : Nat} {own : Nat → Prop} {w : World} (h : pasteR N A B g s own w) : (pasteF N A B).need s = -1 ∨ (pasteF N A B).need s = -2 ∨ (0 ≤ (pasteF N A B).need s ∧ (pasteF N A B).need s ≤ 3 ∧ (pasteF N A B).need s < (pasteIns N : Nat)) := by
  obtain ⟨q, X, val, rowv, -, hi, -⟩ := h
  show s.need = -1 ∨ s.need = -2 ∨ (0 ≤ s.need ∧ s.need ≤ 3 ∧ s.need < (N : Int))
  have := hok.1
  rcases hi.need_ge with e | e
  · exact .inl e
  · exact .inr (.inr (by omega))
theorem paste_no (k n : Int) (va vb : Value) (A B : List UInt8) (w : World) (hT : Pm.Tab w) (hA : Pm.IsBytes w va A) (hB : Pm.IsBytes w vb B) (hE : takeE 13 k n A B ≠ 0) :
    Calls Tryd.prog 14 #[Pm.parV k n va vb] w (Pm.Gives w (.tuple #[.nilIface, .int .i64 (takeE 13 k n A B)])) := pasteNew_no k n va vb A B w hT hA hB hE
theorem paste_yes (k : Int) (n : Nat) (va vb : Value) (A B : List UInt8) (w : World) (hT : Pm.Tab w) (hA : Pm.IsBytes w va A) (hB : Pm.IsBytes w vb B) (hE : takeE 13 k n A B = 0) (hok : pasteOk n A B) :
    Calls Tryd.prog 14 #[Pm.parV k n va vb] w (MadeOf 74 (pasteR n A B) (pasteI n A B) w) := by
  obtain ⟨a, rfl⟩ := one_of hok.2
  exact (pasteNew_yes k n hok.1.1 hok.1.2 va vb a B w hT hA hB hE).mono fun _ _ ⟨g, own, he, hR, hg, hb⟩ => ⟨g, own, he, hR, hg, hb⟩
def pasteBound (N : Nat) (_ _ : List UInt8) : Nat := 96 * N
theorem paste_fit {k n : Int} {A B : List UInt8} (h1 : Pm.checkE k n A B = 0) (hk : k = 13) : 0 ≤ n ∧ pasteOk n.toNat A B ∧ takeE 13 k n A B = 0 ∧ Pm.insE k n A B = pasteIns n.toNat ∧ Pm.boundE k n A B = pasteBound n.toNat A B := by
  subst hk
  have hf : Pm.fits (Pm.kindOf 13) n A B = true := by
    have h1 := h1
    unfold Pm.checkE at h1
    rw [if_neg (by omega)] at h1
    by_cases hf : Pm.fits (Pm.kindOf 13) n A B = false
    · rw [show (13 : Int).toNat = 13 from rfl, if_pos hf] at h1
      cases h1
    · simpa using hf
  have hb : Pm.boundE 13 n A B = 96 * n := by rw [Pm.boundE, if_pos h1]; simp [Pm.kindOf, Pm.kinds]
  have hi : Pm.insE 13 n A B = n := by rw [Pm.insE, if_pos h1]; simp [Pm.kindOf, Pm.kinds, Pm.portsE]
  simp [Pm.fits, Pm.kindOf, Pm.kinds, Pm.mayBe] at hf
  have hn : 1 ≤ n ∧ n ≤ 4 := by omega
  have hA : A.length = 1 := by omega
  refine ⟨by omega, ⟨⟨by omega, by omega⟩, hA⟩, by rw [takeE, if_neg (by rw [h1]; simp), if_neg (by simp)], by rw [hi]; show n = (n.toNat : Int); omega, ?_⟩
  rw [hb]
  show 96 * n = ((96 * n.toNat : Nat) : Int)
  omega

/-! What comes of inputs, whatever the chunks. -/
def pasteFin (N : Nat) (A _ : List UInt8) (ins : List Strm) : Fin := pasteFinF N A (insF ins)
theorem paste_drive (N : Nat) (A B : List UInt8) (ins : List Strm) (cuts : List Int) (hok : pasteOk N A B) (hlen : ins.length = pasteIns N) (hl : ∀ t ∈ ins, t.bytes.length ≤ 4000) :
    (drive (pasteF N A B) ins cuts 100000 0 (start (pasteF N A B) (pasteI N A B))).got.outs = (pasteFin N A B ins).outs ∧ (drive (pasteF N A B) ins cuts 100000 0 (start (pasteF N A B) (pasteI N A B))).got.need = (pasteFin N A B ins).need ∧
    (drive (pasteF N A B) ins cuts 100000 0 (start (pasteF N A B) (pasteI N A B))).got.err = (pasteFin N A B ins).err := paste_driven_to cuts hok.1.1 hok.1.2 hlen hl
def exPa : List Strm := [⟨[97, 10, 98], true, 0, 0, 0⟩, ⟨[120], true, 0, 0, 0⟩]
theorem paste_ex : (pasteFin 2 [44] [] exPa).outs 0 = [97, 44, 120, 10, 98, 44, 10] ∧ (pasteFin 2 [44] [] exPa).outs 1 = [] ∧ (pasteFin 2 [44] [] exPa).outs 2 = [] ∧ (pasteFin 2 [44] [] exPa).outs 3 = [] ∧ (pasteFin 2 [44] [] exPa).need = -1 ∧ (pasteFin 2 [44] [] exPa).err = 0 := ⟨by kernel_rfl, by kernel_rfl, by kernel_rfl, by kernel_rfl, by kernel_rfl, by kernel_rfl⟩
theorem paste_held (N : Nat) (A B : List UInt8) (ins : List Strm) (cuts : List Int) (hok : pasteOk N A B) : (drive (pasteF N A B) ins cuts 100000 0 (start (pasteF N A B) (pasteI N A B))).got.held ≤ pasteBound N A B := paste_kept hok.2 hok.1.1 hok.1.2 ins cuts

end Go.Proofs.YteghdepedlaneaaDoor

namespace Go.Proofs.YteghdepedlaneaaDoor

theorem paste_some (N : Nat) (A B : List UInt8) (hok : pasteOk N A B) : 0 < pasteIns N := hok.1.1
theorem insF_more {ins ins' : List Strm} (h : LongerAll ins ins') (j : Nat) : RdMore (insF ins j) (insF ins' j) := by
  obtain ⟨hl, hj⟩ := h
  cases hi : ins[j]? with
  | none =>
    have h1 := List.getElem?_eq_none_iff.1 hi
    have : ins'[j]? = none := List.getElem?_eq_none (by omega)
    unfold insF
    rw [List.getD_eq_getElem?_getD, List.getD_eq_getElem?_getD, hi, this]
    exact RdMore.refl _
  | some i =>
    have h1 := (List.getElem?_eq_some_iff.1 hi).1
    have hi' : ins'[j]? = some (ins'[j]'(by omega)) := List.getElem?_eq_getElem (by omega)
    rw [insF_at hi, insF_at hi']
    exact RdMore.longer (hj j i _ hi hi')
theorem paste_grows (N : Nat) (A B : List UInt8) (ins ins' : List Strm) (h : LongerAll ins ins') : GrowsTo (pasteFin N A B ins) (pasteFin N A B ins') := pasteFinF_grows (insF_more h)

end Go.Proofs.YteghdepedlaneaaDoor

namespace Go.Proofs.YteghdepedlaneaaDoor
open Go.RowKit

theorem paste_pokes (N : Nat) (A B : List UInt8) (g : Nat) (hok : pasteOk N A B) : ∃ fN fH fF fE fM rN rH rF rE rM, Driven (pasteF N A B) pasteBase (pasteR N A B g) 74 (.pointer (some ⟨g, 0, none⟩)) fN fH fF fE fM rN rH rF rE rM ∧ Refusing (pasteF N A B) (pasteR N A B g) fF fE fM rF rE rM := by
  obtain ⟨a, rfl⟩ := one_of hok.2
  exact ⟨_, _, _, _, _, _, _, _, _, _, paste_driven N a hok.1.1 hok.1.2 g, paste_refusing N a g⟩

end Go.Proofs.YteghdepedlaneaaDoor
