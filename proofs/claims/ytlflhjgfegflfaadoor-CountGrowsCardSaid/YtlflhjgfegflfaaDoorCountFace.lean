/- What the laws' walks ask of count. -/
import Derived.Test.YtlflhjgfegflfaaDoorCountNew
import Derived.Test.YtlflhjgfegflfaaDoorGlaws
namespace Go.Proofs.YtlflhjgfegflfaaDoor
open Go.RowKit

/-- That table as the world holds it. -/
def boxOf (w : World) : TabBox := ⟨tabOf w⟩
theorem count_tab {w : World} (hL : laidMetH Tryd.prog [("penstock/params.rows", Rows.laid_penstock_params_rows)] w) (hSh : w.ShapedOpen Tryd.prog) : @TabP ⟨boxOf w⟩ w := ⟨Pm.tab_of_laid hL, tabAt_of hSh⟩
abbrev countOk (_ : Nat) (_ _ : List UInt8) : Prop := True
def countBound (_ : Nat) (_ _ : List UInt8) : Nat := 0
theorem count_fit {k n : Int} {A B : List UInt8} (h1 : Pm.checkE k n A B = 0) (hk : k = 9) : 0 ≤ n ∧ countOk n.toNat A B ∧ takeE 9 k n A B = 0 ∧ Pm.insE k n A B = 1 ∧ Pm.boundE k n A B = countBound n.toNat A B := by
  subst hk
  have hi : Pm.insE 9 n A B = 1 := by rw [Pm.insE, if_pos h1]; rfl
  have hb : Pm.boundE 9 n A B = 0 := by rw [Pm.boundE, if_pos h1]; simp [Pm.kindOf, Pm.kinds]
  have hf : Pm.fits (Pm.kindOf 9) n A B = true := by
    have h1 := h1
    unfold Pm.checkE at h1
    rw [if_neg (by omega)] at h1
    by_cases hf : Pm.fits (Pm.kindOf 9) n A B = false
    · rw [show (9 : Int).toNat = 9 from rfl, if_pos hf] at h1
      cases h1
    · simpa using hf
  simp [Pm.fits, Pm.kindOf, Pm.kinds, Pm.mayBe] at hf
  exact ⟨by omega, trivial, by rw [takeE, if_neg (by rw [h1]; simp), if_neg (by simp)], hi, hb⟩
variable [Inhabited TabBox]
theorem count_base {w : World} (h : TabP w) : countBase ≤ w.heap.size := h.2.lt
def countI (_ : Nat) (_ _ : List UInt8) : CS := countS
def countF (_ : Nat) (_ _ : List UInt8) : Mach CS := countMach
def countR (_ : Nat) (_ _ : List UInt8) (g : Nat) : CS → (Nat → Prop) → World → Prop := countRep g
theorem count_baseR {N : Nat} {A B : List UInt8} {g : Nat} {s : CS} {own : Nat → Prop} {w : World} (h : countR N A B g s own w) : countBase ≤ w.heap.size := Nat.le_trans h.base (Nat.le_of_lt h.row.lt)
theorem count_drives (N : Nat) (A B : List UInt8) (g : Nat) : ∃ fN fH fF fE fM rN rH rF rE rM, Driven (countF N A B) countBase (countR N A B g) 72 (.pointer (some ⟨g, 0, none⟩)) fN fH fF fE fM rN rH rF rE rM := ⟨_, _, _, _, _, _, _, _, _, _, count_driven g⟩
theorem count_needs (N : Nat) (A B : List UInt8) (s : CS) : (countF N A B).need s = -1 ∨ (countF N A B).need s = -2 ∨ (countF N A B).need s = 0 := by
  obtain ⟨l, k, m⟩ := s
  cases l
  · exact .inl rfl
  · exact .inr (.inr rfl)
theorem count_no (k n : Int) (va vb : Value) (A B : List UInt8) (w : World) (hT : TabP w) (hA : Pm.IsBytes w va A) (hB : Pm.IsBytes w vb B) (hE : takeE 9 k n A B ≠ 0) :
    Calls Tryd.prog 14 #[Pm.parV k n va vb] w (Pm.Gives w (.tuple #[.nilIface, .int .i64 (takeE 9 k n A B)])) := countNew_no k n va vb A B w hT.1 hA hB hE
theorem count_yes (k : Int) (n : Nat) (va vb : Value) (A B : List UInt8) (w : World) (hT : TabP w) (hA : Pm.IsBytes w va A) (hB : Pm.IsBytes w vb B) (hE : takeE 9 k n A B = 0) (_ : countOk n A B) :
    Calls Tryd.prog 14 #[Pm.parV k n va vb] w (MadeOf 72 (countR n A B) (countI n A B) w) :=
  (countNew_yes k n va vb A B w hT hA hB hE).mono fun _ _ ⟨g, he, hg, hR, hb⟩ => ⟨g, (· = g), he, hR, fun k hk => by rw [hk]; exact hg, hb⟩
/-! What comes of an input, whatever the chunks. -/
theorem count_drive (N : Nat) (A B : List UInt8) (i : Strm) (cuts : List Int) (_ : countOk N A B) (hl : i.bytes.length ≤ 4000) :
    (drive (countF N A B) [i] cuts 100000 0 (start (countF N A B) (countI N A B))).got.outs = (countFin N A B i).outs ∧ (drive (countF N A B) [i] cuts 100000 0 (start (countF N A B) (countI N A B))).got.need = (countFin N A B i).need ∧
    (drive (countF N A B) [i] cuts 100000 0 (start (countF N A B) (countI N A B))).got.err = (countFin N A B i).err := count_driven_to i cuts hl
def exC : Strm := ⟨[97, 10, 98, 99], true, 0, 0, 0⟩
theorem count_ex : (countFin 0 [] [] exC).outs 0 = [49, 32, 52, 10] ∧ (countFin 0 [] [] exC).outs 1 = [] ∧ (countFin 0 [] [] exC).outs 2 = [] ∧ (countFin 0 [] [] exC).outs 3 = [] ∧ (countFin 0 [] [] exC).need = -1 ∧ (countFin 0 [] [] exC).err = 0 := ⟨by kernel_rfl, by kernel_rfl, by kernel_rfl, by kernel_rfl, by kernel_rfl, by kernel_rfl⟩
theorem count_held (N : Nat) (A B : List UInt8) (i : Strm) (cuts : List Int) : (drive (countF N A B) [i] cuts 100000 0 (start (countF N A B) (countI N A B))).got.held ≤ countBound N A B := count_kept [i] cuts

end Go.Proofs.YtlflhjgfegflfaaDoor
