/- What the laws' walks ask of head. -/
import Derived.Test.YtbmollcbaipmiaaDoorHead
import Derived.Test.YtbmollcbaipmiaaDoorGlaws
import Derived.Test.YtbmollcbaipmiaaDoorRB
import Derived.Test.YtbmollcbaipmiaaDoorIcheck
namespace Go.Proofs.YtbmollcbaipmiaaDoor
open Go.RowKit

def headBase : Nat := 0
theorem head_tab {w : World} (hL : laidMetH Tryd.prog [("penstock/params.rows", Rows.laid_penstock_params_rows)] w) (_ : w.ShapedOpen Tryd.prog) : Pm.Tab w := Pm.tab_of_laid hL
theorem head_base {w : World} (_ : Pm.Tab w) : headBase ≤ w.heap.size := Nat.zero_le _
abbrev headOk (N : Nat) (_ _ : List UInt8) : Prop := N ≤ 1000000000
def headI (N : Nat) (_ _ : List UInt8) : LS Nat := headS N
def headF (_ : Nat) (_ _ : List UInt8) : Mach (LS Nat) := headMach
def headR (_ : Nat) (_ _ : List UInt8) (g : Nat) : LS Nat → (Nat → Prop) → World → Prop := headM.RepO g
theorem head_baseR {N : Nat} {A B : List UInt8} {g : Nat} {s : LS Nat} {own : Nat → Prop} {w : World} (_ : headR N A B g s own w) : headBase ≤ w.heap.size := Nat.zero_le _
theorem head_drives (N : Nat) (A B : List UInt8) (g : Nat) : ∃ fN fH fF fE fM rN rH rF rE rM, Driven (headF N A B) headBase (headR N A B g) 74 (.pointer (some ⟨g, 0, none⟩)) fN fH fF fE fM rN rH rF rE rM := ⟨_, _, _, _, _, _, _, _, _, _, head_driven g⟩
theorem head_needs (N : Nat) (A B : List UInt8) (s : LS Nat) : (headF N A B).need s = -1 ∨ (headF N A B).need s = -2 ∨ (headF N A B).need s = 0 := by
  show needOf s = -1 ∨ needOf s = -2 ∨ needOf s = 0
  unfold needOf
  split
  · exact .inr (.inr rfl)
  · exact .inl rfl
theorem head_no (k n : Int) (va vb : Value) (A B : List UInt8) (w : World) (hT : Pm.Tab w) (hA : Pm.IsBytes w va A) (hB : Pm.IsBytes w vb B) (hE : takeE 3 k n A B ≠ 0) :
    Calls Tryd.prog 14 #[Pm.parV k n va vb] w (Pm.Gives w (.tuple #[.nilIface, .int .i64 (takeE 3 k n A B)])) := headNew_no k n va vb A B w hT hA hB hE
theorem head_yes (k : Int) (n : Nat) (va vb : Value) (A B : List UInt8) (w : World) (hT : Pm.Tab w) (hA : Pm.IsBytes w va A) (hB : Pm.IsBytes w vb B) (hE : takeE 3 k n A B = 0) (hn : headOk n A B) :
    Calls Tryd.prog 14 #[Pm.parV k n va vb] w (MadeOf 74 (headR n A B) (headI n A B) w) :=
  (headNew_yes k n va vb A B w hT hA hB hE hn).mono fun _ _ ⟨g, he, hg, hR, hb⟩ => ⟨g, headM.own g noX, he, ⟨noX, hR, rfl⟩, fun k hk => by rcases hk with rfl | hk; exact hg; exact hk.elim, hb⟩
def headBound (_ : Nat) (_ _ : List UInt8) : Nat := 64
theorem head_fit {k n : Int} {A B : List UInt8} (h1 : Pm.checkE k n A B = 0) (hk : k = 3) : 0 ≤ n ∧ headOk n.toNat A B ∧ takeE 3 k n A B = 0 ∧ Pm.insE k n A B = 1 ∧ Pm.boundE k n A B = headBound n.toNat A B := by
  subst hk
  have hi : Pm.insE 3 n A B = 1 := by rw [Pm.insE, if_pos h1]; rfl
  have hb : Pm.boundE 3 n A B = 64 := by rw [Pm.boundE, if_pos h1]; simp [Pm.kindOf, Pm.kinds]
  have hf : Pm.fits (Pm.kindOf 3) n A B = true := by
    have h1 := h1
    unfold Pm.checkE at h1
    rw [if_neg (by omega)] at h1
    by_cases hf : Pm.fits (Pm.kindOf 3) n A B = false
    · rw [show (3 : Int).toNat = 3 from rfl, if_pos hf] at h1
      cases h1
    · simpa using hf
  simp [Pm.fits, Pm.kindOf, Pm.kinds, Pm.mayBe] at hf
  obtain ⟨⟨q1, q2⟩, -⟩ := hf
  exact ⟨q1, by show n.toNat ≤ 1000000000; omega, by rw [takeE, if_neg (by rw [h1]; simp), if_neg (by simp)], hi, hb⟩

/-! What comes of an input, whatever the chunks. -/
def headFin (N : Nat) (_ _ : List UInt8) (i : Strm) : Fin := ⟨putOuts (fun _ => []) (finalB headT (headS N) i.bytes i.ended).2.1, needOf (finalB headT (headS N) i.bytes i.ended).1, (finalB headT (headS N) i.bytes i.ended).2.2⟩
theorem head_drive (N : Nat) (A B : List UInt8) (i : Strm) (cuts : List Int) (_ : headOk N A B) (hl : i.bytes.length ≤ 4000) :
    (drive (headF N A B) [i] cuts 100000 0 (start (headF N A B) (headI N A B))).got.outs = (headFin N A B i).outs ∧ (drive (headF N A B) [i] cuts 100000 0 (start (headF N A B) (headI N A B))).got.need = (headFin N A B i).need ∧
    (drive (headF N A B) [i] cuts 100000 0 (start (headF N A B) (headI N A B))).got.err = (headFin N A B i).err := by
  obtain ⟨-, h2, h3, h4⟩ := drive_lines headT i cuts 100000 0 (start headMach (headS N)) rfl rfl (Nat.zero_le _) rfl (by show i.bytes.length - 0 + 2 ≤ 100000; omega)
  exact ⟨h2, h4, h3⟩
theorem head_ex : (headFin 2 [] [] exS).outs 0 = [97, 10, 98, 10] ∧ (headFin 2 [] [] exS).outs 1 = [] ∧ (headFin 2 [] [] exS).outs 2 = [] ∧ (headFin 2 [] [] exS).outs 3 = [] ∧ (headFin 2 [] [] exS).need = -1 ∧ (headFin 2 [] [] exS).err = 0 := ⟨rfl, rfl, rfl, rfl, rfl, rfl⟩
theorem head_held (N : Nat) (A B : List UInt8) (i : Strm) (cuts : List Int) : (drive (headF N A B) [i] cuts 100000 0 (start (headF N A B) (headI N A B))).got.held ≤ headBound N A B :=
  (drive_held headT [i] cuts 100000 0 (start headMach (headS N)) (by simp [start]) (by simp [start, headS])).1

end Go.Proofs.YtbmollcbaipmiaaDoor
