/- What the laws' walks ask of split. -/
import Derived.Test.YtbblkgknnolkmaaDoorSplitMach
import Derived.Test.YtbblkgknnolkmaaDoorGlaws
namespace Go.Proofs.YtbblkgknnolkmaaDoor
open Go.RowKit

def splitBase : Nat := 0
theorem split_tab {w : World} (hL : laidMetH Tryd.prog [("penstock/params.rows", Rows.laid_penstock_params_rows)] w) (_ : w.ShapedOpen Tryd.prog) : Pm.Tab w := Pm.tab_of_laid hL
theorem split_base {w : World} (_ : Pm.Tab w) : splitBase ≤ w.heap.size := Nat.zero_le _
abbrev splitOk (N : Nat) (_ _ : List UInt8) : Prop := 1 ≤ N ∧ N ≤ 4
def splitI (_ : Nat) (_ _ : List UInt8) : LS Nat := splitS
def splitF (N : Nat) (_ _ : List UInt8) : Mach (LS Nat) := linesM (splitT (outN N))
def splitR (N : Nat) (_ _ : List UInt8) (g : Nat) : LS Nat → (Nat → Prop) → World → Prop := (splitM (outN N)).RepO g
theorem split_baseR {N : Nat} {A B : List UInt8} {g : Nat} {s : LS Nat} {own : Nat → Prop} {w : World} (_ : splitR N A B g s own w) : splitBase ≤ w.heap.size := Nat.zero_le _
theorem split_drives (N : Nat) (A B : List UInt8) (g : Nat) : ∃ fN fH fF fE fM rN rH rF rE rM, Driven (splitF N A B) splitBase (splitR N A B g) 73 (.pointer (some ⟨g, 0, none⟩)) fN fH fF fE fM rN rH rF rE rM := ⟨_, _, _, _, _, _, _, _, _, _, split_driven (outN N) (outN_le N).1 (outN_le N).2 g⟩
theorem split_needs (N : Nat) (A B : List UInt8) (s : LS Nat) : (splitF N A B).need s = -1 ∨ (splitF N A B).need s = -2 ∨ (splitF N A B).need s = 0 := by
  show needOf s = -1 ∨ needOf s = -2 ∨ needOf s = 0
  unfold needOf
  split
  · exact .inr (.inr rfl)
  · exact .inl rfl
theorem split_no (k n : Int) (va vb : Value) (A B : List UInt8) (w : World) (hT : Pm.Tab w) (hA : Pm.IsBytes w va A) (hB : Pm.IsBytes w vb B) (hE : takeE 16 k n A B ≠ 0) :
    Calls Tryd.prog 14 #[Pm.parV k n va vb] w (Pm.Gives w (.tuple #[.nilIface, .int .i64 (takeE 16 k n A B)])) := splitNew_no k n va vb A B w hT hA hB hE
theorem split_yes (k : Int) (n : Nat) (va vb : Value) (A B : List UInt8) (w : World) (hT : Pm.Tab w) (hA : Pm.IsBytes w va A) (hB : Pm.IsBytes w vb B) (hE : takeE 16 k n A B = 0) (hO : splitOk n A B) :
    Calls Tryd.prog 14 #[Pm.parV k n va vb] w (MadeOf 73 (splitR n A B) (splitI n A B) w) :=
  (splitNew_yes k n va vb A B w hT hA hB hE hO.1).mono fun _ _ ⟨g, he, hg, hR, hb⟩ => by
    refine ⟨g, _, he, ⟨fun _ => False, ?_, rfl⟩, fun k hk => by rcases hk with rfl | hk; exact hg; exact hk.elim, hb⟩
    rw [outN_ok hO.1 hO.2]
    exact hR
def splitBound (_ : Nat) (_ _ : List UInt8) : Nat := 64
theorem split_fit {k n : Int} {A B : List UInt8} (h1 : Pm.checkE k n A B = 0) (hk : k = 16) : 0 ≤ n ∧ splitOk n.toNat A B ∧ takeE 16 k n A B = 0 ∧ Pm.insE k n A B = 1 ∧ Pm.boundE k n A B = splitBound n.toNat A B := by
  subst hk
  have hf : Pm.fits (Pm.kindOf 16) n A B = true := by
    have h1 := h1
    unfold Pm.checkE at h1
    rw [if_neg (by omega)] at h1
    by_cases hf : Pm.fits (Pm.kindOf 16) n A B = false
    · rw [show (16 : Int).toNat = 16 from rfl, if_pos hf] at h1
      cases h1
    · simpa using hf
  have hb : Pm.boundE 16 n A B = 64 := by rw [Pm.boundE, if_pos h1]; simp [Pm.kindOf, Pm.kinds]
  have hi : Pm.insE 16 n A B = 1 := by rw [Pm.insE, if_pos h1]; rfl
  simp [Pm.fits, Pm.kindOf, Pm.kinds, Pm.mayBe] at hf
  have hn : 1 ≤ n ∧ n ≤ 4 := by omega
  exact ⟨by omega, ⟨by omega, by omega⟩, by rw [takeE, if_neg (by rw [h1]; simp), if_neg (by simp)], hi, hb⟩

/-! What comes of an input, whatever the chunks. -/
def splitFin (N : Nat) (_ _ : List UInt8) (i : Strm) : Fin := ⟨putOuts (fun _ => []) (finalB (splitT (outN N)) splitS i.bytes i.ended).2.1, needOf (finalB (splitT (outN N)) splitS i.bytes i.ended).1, (finalB (splitT (outN N)) splitS i.bytes i.ended).2.2⟩
theorem split_drive (N : Nat) (A B : List UInt8) (i : Strm) (cuts : List Int) (_ : splitOk N A B) (hl : i.bytes.length ≤ 4000) :
    (drive (splitF N A B) [i] cuts 100000 0 (start (splitF N A B) (splitI N A B))).got.outs = (splitFin N A B i).outs ∧ (drive (splitF N A B) [i] cuts 100000 0 (start (splitF N A B) (splitI N A B))).got.need = (splitFin N A B i).need ∧
    (drive (splitF N A B) [i] cuts 100000 0 (start (splitF N A B) (splitI N A B))).got.err = (splitFin N A B i).err := by
  obtain ⟨-, h2, h3, h4⟩ := drive_lines (splitT (outN N)) i cuts 100000 0 (start (splitF N A B) splitS) rfl rfl (Nat.zero_le _) rfl (by show i.bytes.length - 0 + 2 ≤ 100000; omega)
  exact ⟨h2, h4, h3⟩
def exSp : Strm := ⟨[97, 10, 98, 10, 99], true, 0, 0, 0⟩
theorem split_ex : (splitFin 2 [] [] exSp).outs 0 = [97, 10, 99, 10] ∧ (splitFin 2 [] [] exSp).outs 1 = [98, 10] ∧ (splitFin 2 [] [] exSp).outs 2 = [] ∧ (splitFin 2 [] [] exSp).outs 3 = [] ∧ (splitFin 2 [] [] exSp).need = -1 ∧ (splitFin 2 [] [] exSp).err = 0 := ⟨by kernel_rfl, by kernel_rfl, by kernel_rfl, by kernel_rfl, by kernel_rfl, by kernel_rfl⟩
theorem split_held (N : Nat) (A B : List UInt8) (i : Strm) (cuts : List Int) : (drive (splitF N A B) [i] cuts 100000 0 (start (splitF N A B) (splitI N A B))).got.held ≤ splitBound N A B :=
  (drive_held (splitT (outN N)) [i] cuts 100000 0 (start (splitF N A B) splitS) (by simp [start]) (by simp [start, splitS])).1

end Go.Proofs.YtbblkgknnolkmaaDoor
