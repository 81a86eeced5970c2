/- What the laws' walks ask of number. -/
import Derived.Test.YtmdmcmdchjlmiaaDoorNumber
import Derived.Test.YtmdmcmdchjlmiaaDoorGlaws
import Derived.LaidSub
namespace Go.Proofs.YtmdmcmdchjlmiaaDoor
open Go.RowKit

theorem number_tab {l : List (String × DataW Unit)} {w : World} (hL : laidMetH Tryd.prog l w) (_ : w.ShapedOpen Tryd.prog) (h1 : l.filter (fun x => x.1 == "penstock/params.rows") = [("penstock/params.rows", Rows.laid_penstock_params_rows)] := by kernel_rfl)
    (h2 : l.filter (fun x => x.1 == "internal/strconv.uint64pow10") = [("internal/strconv.uint64pow10", Rows.laid_internal_strconv_uint64pow10)] := by kernel_rfl) : TenTab w := tenTab_of hL h1 h2
theorem number_base {w : World} (h : TenTab w) : numberBase ≤ w.heap.size := h.2.lt
abbrev numberOk (N : Nat) (_ _ : List UInt8) : Prop := N ≤ 1000000000
def numberI (N : Nat) (_ _ : List UInt8) : LS Int := numberS (min N 1000000000)
def numberF (_ : Nat) (_ _ : List UInt8) : Mach (LS Int) := linesM numberT
def numberR (_ : Nat) (_ _ : List UInt8) (g : Nat) : LS Int → (Nat → Prop) → World → Prop := numberM.RepO g
theorem number_baseR {N : Nat} {A B : List UInt8} {g : Nat} {s : LS Int} {own : Nat → Prop} {w : World} (h : numberR N A B g s own w) : numberBase ≤ w.heap.size := by
  obtain ⟨X, h, -⟩ := h
  exact Nat.le_trans h.repN.base (Nat.le_of_lt h.repN.lt)
theorem number_drives (N : Nat) (A B : List UInt8) (g : Nat) : ∃ fN fH fF fE fM rN rH rF rE rM, Driven (numberF N A B) numberBase (numberR N A B g) 73 (.pointer (some ⟨g, 0, none⟩)) fN fH fF fE fM rN rH rF rE rM := ⟨_, _, _, _, _, _, _, _, _, _, number_driven g⟩
theorem number_needs (N : Nat) (A B : List UInt8) (s : LS Int) : (numberF N A B).need s = -1 ∨ (numberF N A B).need s = -2 ∨ (numberF N A B).need s = 0 := by
  show needOf s = -1 ∨ needOf s = -2 ∨ needOf s = 0
  unfold needOf
  split
  · exact .inr (.inr rfl)
  · exact .inl rfl
theorem number_no (k n : Int) (va vb : Value) (A B : List UInt8) (w : World) (hT : TenTab w) (hA : Pm.IsBytes w va A) (hB : Pm.IsBytes w vb B) (hE : takeE 10 k n A B ≠ 0) :
    Calls Tryd.prog 14 #[Pm.parV k n va vb] w (Pm.Gives w (.tuple #[.nilIface, .int .i64 (takeE 10 k n A B)])) := numberNew_no k n va vb A B w hT.1 hA hB hE
theorem number_yes (k : Int) (n : Nat) (va vb : Value) (A B : List UInt8) (w : World) (hT : TenTab w) (hA : Pm.IsBytes w va A) (hB : Pm.IsBytes w vb B) (hE : takeE 10 k n A B = 0) (hO : numberOk n A B) :
    Calls Tryd.prog 14 #[Pm.parV k n va vb] w (MadeOf 73 (numberR n A B) (numberI n A B) w) :=
  (numberNew_yes k n va vb A B w hT hA hB hE hO).mono fun _ _ ⟨g, he, hg, hR, hb⟩ => by
    refine ⟨g, _, he, ⟨fun _ => False, ?_, rfl⟩, fun k hk => by rcases hk with rfl | hk; exact hg; exact hk.elim, hb⟩
    rw [show numberI n A B = numberS n by rw [numberI, Nat.min_eq_left hO]]
    exact hR
def numberBound (_ : Nat) (_ _ : List UInt8) : Nat := 64
theorem number_fit {k n : Int} {A B : List UInt8} (h1 : Pm.checkE k n A B = 0) (hk : k = 10) : 0 ≤ n ∧ numberOk n.toNat A B ∧ takeE 10 k n A B = 0 ∧ Pm.insE k n A B = 1 ∧ Pm.boundE k n A B = numberBound n.toNat A B := by
  subst hk
  have hi : Pm.insE 10 n A B = 1 := by rw [Pm.insE, if_pos h1]; rfl
  have hb : Pm.boundE 10 n A B = 64 := by rw [Pm.boundE, if_pos h1]; simp [Pm.kindOf, Pm.kinds]
  have hf : Pm.fits (Pm.kindOf 10) n A B = true := by
    have h1 := h1
    unfold Pm.checkE at h1
    rw [if_neg (by omega)] at h1
    by_cases hf : Pm.fits (Pm.kindOf 10) n A B = false
    · rw [show (10 : Int).toNat = 10 from rfl, if_pos hf] at h1
      cases h1
    · simpa using hf
  simp [Pm.fits, Pm.kindOf, Pm.kinds, Pm.mayBe] at hf
  exact ⟨by omega, by show n.toNat ≤ 1000000000; omega, by rw [takeE, if_neg (by rw [h1]; simp), if_neg (by simp)], hi, hb⟩

/-! What comes of an input, whatever the chunks. -/
def numberFin (N : Nat) (_ _ : List UInt8) (i : Strm) : Fin := ⟨putOuts (fun _ => []) (finalB numberT (numberS (min N 1000000000)) i.bytes i.ended).2.1, needOf (finalB numberT (numberS (min N 1000000000)) i.bytes i.ended).1, (finalB numberT (numberS (min N 1000000000)) i.bytes i.ended).2.2⟩
theorem number_drive (N : Nat) (A B : List UInt8) (i : Strm) (cuts : List Int) (_ : numberOk N A B) (hl : i.bytes.length ≤ 4000) :
    (drive (numberF N A B) [i] cuts 100000 0 (start (numberF N A B) (numberI N A B))).got.outs = (numberFin N A B i).outs ∧ (drive (numberF N A B) [i] cuts 100000 0 (start (numberF N A B) (numberI N A B))).got.need = (numberFin N A B i).need ∧
    (drive (numberF N A B) [i] cuts 100000 0 (start (numberF N A B) (numberI N A B))).got.err = (numberFin N A B i).err := by
  obtain ⟨-, h2, h3, h4⟩ := drive_lines numberT i cuts 100000 0 (start (numberF N A B) (numberS (min N 1000000000))) rfl rfl (Nat.zero_le _) rfl (by show i.bytes.length - 0 + 2 ≤ 100000; omega)
  exact ⟨h2, h4, h3⟩
def exN : Strm := ⟨[97, 10, 98], true, 0, 0, 0⟩
theorem number_ex : (numberFin 9 [] [] exN).outs 0 = [57, 32, 97, 10, 49, 48, 32, 98, 10] ∧ (numberFin 9 [] [] exN).outs 1 = [] ∧ (numberFin 9 [] [] exN).outs 2 = [] ∧ (numberFin 9 [] [] exN).outs 3 = [] ∧ (numberFin 9 [] [] exN).need = -1 ∧ (numberFin 9 [] [] exN).err = 0 := ⟨by kernel_rfl, by kernel_rfl, by kernel_rfl, by kernel_rfl, by kernel_rfl, by kernel_rfl⟩
theorem number_held (N : Nat) (A B : List UInt8) (i : Strm) (cuts : List Int) : (drive (numberF N A B) [i] cuts 100000 0 (start (numberF N A B) (numberI N A B))).got.held ≤ numberBound N A B :=
  (drive_held numberT [i] cuts 100000 0 (start (numberF N A B) (numberS (min N 1000000000))) (by simp [start]) (by simp [start, numberS])).1

end Go.Proofs.YtmdmcmdchjlmiaaDoor
