/- What the laws' walks ask of tee. -/
import Derived.Test.YtdcaniidkaicdaaDoorTeeNew
import Derived.Test.YtdcaniidkaicdaaDoorGlaws
namespace Go.Proofs.YtdcaniidkaicdaaDoor
open Go.RowKit

def teeBase : Nat := 0
theorem tee_tab {w : World} (hL : laidMetH Tryd.prog [("penstock/params.rows", Rows.laid_penstock_params_rows)] w) (_ : w.ShapedOpen Tryd.prog) : Pm.Tab w := Pm.tab_of_laid hL
theorem tee_base {w : World} (_ : Pm.Tab w) : teeBase ≤ w.heap.size := Nat.zero_le _
abbrev teeOk (N : Nat) (_ _ : List UInt8) : Prop := 1 ≤ N ∧ N ≤ 4
def teeI (_ : Nat) (_ _ : List UInt8) : Bool := true
def teeF (N : Nat) (_ _ : List UInt8) : Mach Bool := teeMach (min N 4)
def teeR (N : Nat) (_ _ : List UInt8) (g : Nat) : Bool → (Nat → Prop) → World → Prop := teeRep (min N 4) g
theorem tee_baseR {N : Nat} {A B : List UInt8} {g : Nat} {s : Bool} {own : Nat → Prop} {w : World} (_ : teeR N A B g s own w) : teeBase ≤ w.heap.size := Nat.zero_le _
theorem tee_drives (N : Nat) (A B : List UInt8) (g : Nat) : ∃ fN fH fF fE fM rN rH rF rE rM, Driven (teeF N A B) teeBase (teeR N A B g) 70 (.pointer (some ⟨g, 0, none⟩)) fN fH fF fE fM rN rH rF rE rM := ⟨_, _, _, _, _, _, _, _, _, _, tee_driven (min N 4) (Nat.min_le_right _ _) g⟩
theorem tee_needs (N : Nat) (A B : List UInt8) (s : Bool) : (teeF N A B).need s = -1 ∨ (teeF N A B).need s = -2 ∨ (teeF N A B).need s = 0 := by
  cases s
  · exact .inl rfl
  · exact .inr (.inr rfl)
theorem tee_no (k n : Int) (va vb : Value) (A B : List UInt8) (w : World) (hT : Pm.Tab w) (hA : Pm.IsBytes w va A) (hB : Pm.IsBytes w vb B) (hE : takeE 15 k n A B ≠ 0) :
    Calls Tryd.prog 14 #[Pm.parV k n va vb] w (Pm.Gives w (.tuple #[.nilIface, .int .i64 (takeE 15 k n A B)])) := teeNew_no k n va vb A B w hT hA hB hE
theorem tee_yes (k : Int) (n : Nat) (va vb : Value) (A B : List UInt8) (w : World) (hT : Pm.Tab w) (hA : Pm.IsBytes w va A) (hB : Pm.IsBytes w vb B) (hE : takeE 15 k n A B = 0) (hok : teeOk n A B) :
    Calls Tryd.prog 14 #[Pm.parV k n va vb] w (MadeOf 70 (teeR n A B) (teeI n A B) w) :=
  (teeNew_yes k n hok.1 hok.2 va vb A B w hT hA hB hE).mono fun _ _ ⟨g, he, hg, hR, hb⟩ => ⟨g, (· = g), he, ⟨by rw [Nat.min_eq_left hok.2]; exact hR, rfl⟩, fun k hk => by rw [hk]; exact hg, hb⟩
def teeBound (_ : Nat) (_ _ : List UInt8) : Nat := 0
theorem tee_fit {k n : Int} {A B : List UInt8} (h1 : Pm.checkE k n A B = 0) (hk : k = 15) : 0 ≤ n ∧ teeOk n.toNat A B ∧ takeE 15 k n A B = 0 ∧ Pm.insE k n A B = 1 ∧ Pm.boundE k n A B = teeBound n.toNat A B := by
  subst hk
  have hf : Pm.fits (Pm.kindOf 15) n A B = true := by
    have h1 := h1
    unfold Pm.checkE at h1
    rw [if_neg (by omega)] at h1
    by_cases hf : Pm.fits (Pm.kindOf 15) n A B = false
    · rw [show (15 : Int).toNat = 15 from rfl, if_pos hf] at h1
      cases h1
    · simpa using hf
  have hb : Pm.boundE 15 n A B = 0 := by rw [Pm.boundE, if_pos h1]; simp [Pm.kindOf, Pm.kinds]
  have hi : Pm.insE 15 n A B = 1 := by rw [Pm.insE, if_pos h1]; rfl
  simp [Pm.fits, Pm.kindOf, Pm.kinds, Pm.mayBe] at hf
  have hn : 1 ≤ n ∧ n ≤ 4 := by omega
  exact ⟨by omega, ⟨by omega, by omega⟩, by rw [takeE, if_neg (by rw [h1]; simp), if_neg (by simp)], hi, hb⟩

/-! What comes of an input, whatever the chunks. -/
theorem tee_drive (N : Nat) (A B : List UInt8) (i : Strm) (cuts : List Int) (_ : teeOk N A B) (hl : i.bytes.length ≤ 4000) :
    (drive (teeF N A B) [i] cuts 100000 0 (start (teeF N A B) (teeI N A B))).got.outs = (teeFin N A B i).outs ∧ (drive (teeF N A B) [i] cuts 100000 0 (start (teeF N A B) (teeI N A B))).got.need = (teeFin N A B i).need ∧
    (drive (teeF N A B) [i] cuts 100000 0 (start (teeF N A B) (teeI N A B))).got.err = (teeFin N A B i).err := tee_driven_to N A B i cuts hl
def exTe : Strm := ⟨[97, 98], true, 0, 0, 0⟩
theorem tee_ex : (teeFin 2 [] [] exTe).outs 0 = [97, 98] ∧ (teeFin 2 [] [] exTe).outs 1 = [97, 98] ∧ (teeFin 2 [] [] exTe).outs 2 = [] ∧ (teeFin 2 [] [] exTe).outs 3 = [] ∧ (teeFin 2 [] [] exTe).need = -1 ∧ (teeFin 2 [] [] exTe).err = 0 := ⟨by kernel_rfl, by kernel_rfl, by kernel_rfl, by kernel_rfl, by kernel_rfl, by kernel_rfl⟩
theorem tee_held (N : Nat) (A B : List UInt8) (i : Strm) (cuts : List Int) : (drive (teeF N A B) [i] cuts 100000 0 (start (teeF N A B) (teeI N A B))).got.held ≤ teeBound N A B := tee_kept (min N 4) [i] cuts

end Go.Proofs.YtdcaniidkaicdaaDoor
