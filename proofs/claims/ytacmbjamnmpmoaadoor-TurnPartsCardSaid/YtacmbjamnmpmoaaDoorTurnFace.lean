/- What the laws' walks ask of turn. -/
import Derived.Test.YtacmbjamnmpmoaaDoorTurnNew
import Derived.Test.YtacmbjamnmpmoaaDoorGlaws
namespace Go.Proofs.YtacmbjamnmpmoaaDoor
open Go.RowKit

def turnBase : Nat := 0
theorem turn_tab {w : World} (hL : laidMetH Tryd.prog [("penstock/params.rows", Rows.laid_penstock_params_rows)] w) (_ : w.ShapedOpen Tryd.prog) : Pm.Tab w := Pm.tab_of_laid hL
theorem turn_base {w : World} (_ : Pm.Tab w) : turnBase ≤ w.heap.size := Nat.zero_le _
abbrev turnOk (_ : Nat) (A B : List UInt8) : Prop := 1 ≤ A.length ∧ A.length ≤ 64 ∧ A.Nodup ∧ B.length ≤ A.length
def turnI (_ : Nat) (_ _ : List UInt8) : Bool := true
def turnF (_ : Nat) (A B : List UInt8) : Mach Bool := turnMach A B
def turnR (_ : Nat) (A B : List UInt8) (g : Nat) : Bool → (Nat → Prop) → World → Prop := turnRep A B g
theorem turn_baseR {N : Nat} {A B : List UInt8} {g : Nat} {s : Bool} {own : Nat → Prop} {w : World} (_ : turnR N A B g s own w) : turnBase ≤ w.heap.size := Nat.zero_le _
theorem turn_drives (N : Nat) (A B : List UInt8) (g : Nat) : ∃ fN fH fF fE fM rN rH rF rE rM, Driven (turnF N A B) turnBase (turnR N A B g) 70 (.pointer (some ⟨g, 0, none⟩)) fN fH fF fE fM rN rH rF rE rM := ⟨_, _, _, _, _, _, _, _, _, _, turn_driven A B g⟩
theorem turn_needs (N : Nat) (A B : List UInt8) (s : Bool) : (turnF N A B).need s = -1 ∨ (turnF N A B).need s = -2 ∨ (turnF N A B).need s = 0 := by
  cases s
  · exact .inl rfl
  · exact .inr (.inr rfl)
theorem turn_no (k n : Int) (va vb : Value) (A B : List UInt8) (w : World) (hT : Pm.Tab w) (hA : Pm.IsBytes w va A) (hB : Pm.IsBytes w vb B) (hE : takeE 6 k n A B ≠ 0) :
    Calls Tryd.prog 14 #[Pm.parV k n va vb] w (Pm.Gives w (.tuple #[.nilIface, .int .i64 (takeE 6 k n A B)])) := turnNew_no k n va vb A B w hT hA hB hE
theorem turn_yes (k : Int) (n : Nat) (va vb : Value) (A B : List UInt8) (w : World) (hT : Pm.Tab w) (hA : Pm.IsBytes w va A) (hB : Pm.IsBytes w vb B) (hE : takeE 6 k n A B = 0) (_ : turnOk n A B) :
    Calls Tryd.prog 14 #[Pm.parV k n va vb] w (MadeOf 70 (turnR n A B) (turnI n A B) w) :=
  (turnNew_yes k n va vb A B w hT hA hB hE).mono fun _ _ ⟨g, he, hg, hR, hb⟩ => ⟨g, (· = g), he, ⟨hR, rfl⟩, fun k hk => by rw [hk]; exact hg, hb⟩
def turnBound (_ : Nat) (_ _ : List UInt8) : Nat := 0
theorem turn_fit {k n : Int} {A B : List UInt8} (h1 : Pm.checkE k n A B = 0) (hk : k = 6) : 0 ≤ n ∧ turnOk n.toNat A B ∧ takeE 6 k n A B = 0 ∧ Pm.insE k n A B = 1 ∧ Pm.boundE k n A B = turnBound n.toNat A B := by
  subst hk
  have hi : Pm.insE 6 n A B = 1 := by rw [Pm.insE, if_pos h1]; rfl
  have hb : Pm.boundE 6 n A B = 0 := by rw [Pm.boundE, if_pos h1]; simp [Pm.kindOf, Pm.kinds]
  have hf : Pm.fits (Pm.kindOf 6) n A B = true := by
    have h1 := h1
    unfold Pm.checkE at h1
    rw [if_neg (by omega)] at h1
    by_cases hf : Pm.fits (Pm.kindOf 6) n A B = false
    · rw [show (6 : Int).toNat = 6 from rfl, if_pos hf] at h1
      cases h1
    · simpa using hf
  simp [Pm.fits, Pm.kindOf, Pm.kinds, Pm.mayBe] at hf
  exact ⟨by omega, hf.2, by rw [takeE, if_neg (by rw [h1]; simp), if_neg (by simp)], hi, hb⟩

/-! What comes of an input, whatever the chunks. -/
theorem turn_drive (N : Nat) (A B : List UInt8) (i : Strm) (cuts : List Int) (_ : turnOk N A B) (hl : i.bytes.length ≤ 4000) :
    (drive (turnF N A B) [i] cuts 100000 0 (start (turnF N A B) (turnI N A B))).got.outs = (turnFin N A B i).outs ∧ (drive (turnF N A B) [i] cuts 100000 0 (start (turnF N A B) (turnI N A B))).got.need = (turnFin N A B i).need ∧
    (drive (turnF N A B) [i] cuts 100000 0 (start (turnF N A B) (turnI N A B))).got.err = (turnFin N A B i).err := turn_driven_to A B i cuts hl
def exT : Strm := ⟨[97, 97, 98, 98, 99, 99, 100], true, 0, 0, 0⟩
theorem turn_ex : (turnFin 0 [97, 98, 99] [120, 121] exT).outs 0 = [120, 120, 121, 121, 100] ∧ (turnFin 0 [97, 98, 99] [120, 121] exT).outs 1 = [] ∧ (turnFin 0 [97, 98, 99] [120, 121] exT).outs 2 = [] ∧ (turnFin 0 [97, 98, 99] [120, 121] exT).outs 3 = [] ∧ (turnFin 0 [97, 98, 99] [120, 121] exT).need = -1 ∧ (turnFin 0 [97, 98, 99] [120, 121] exT).err = 0 := ⟨by kernel_rfl, by kernel_rfl, by kernel_rfl, by kernel_rfl, by kernel_rfl, by kernel_rfl⟩
theorem turn_held (N : Nat) (A B : List UInt8) (i : Strm) (cuts : List Int) : (drive (turnF N A B) [i] cuts 100000 0 (start (turnF N A B) (turnI N A B))).got.held ≤ turnBound N A B := turn_kept A B [i] cuts

end Go.Proofs.YtacmbjamnmpmoaaDoor
