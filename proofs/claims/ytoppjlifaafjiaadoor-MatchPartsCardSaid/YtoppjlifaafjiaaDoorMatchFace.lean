/- What the laws' walks ask of match. -/
import Derived.Test.YtoppjlifaafjiaaDoorMatch
import Derived.Test.YtoppjlifaafjiaaDoorGlaws
namespace Go.Proofs.YtoppjlifaafjiaaDoor
open Go.RowKit

theorem match_tab {w : World} (hL : laidMetH Tryd.prog [("penstock/params.rows", Rows.laid_penstock_params_rows)] w) (hS : w.ShapedOpen Tryd.prog) : MaxTab w := maxTab_of hL hS
theorem match_base {w : World} (h : MaxTab w) : matchBase ≤ w.heap.size := h.2.lt
abbrev matchOk (N : Nat) (A _ : List UInt8) : Prop := N ≤ 1 ∧ 1 ≤ A.length ∧ A.length ≤ 16
def matchI (_ : Nat) (_ _ : List UInt8) : LS Unit := matchS
def matchF (N : Nat) (A _ : List UInt8) : Mach (LS Unit) := linesM (matchT A (decide (N = 0)))
def matchR (N : Nat) (A _ : List UInt8) (g : Nat) : LS Unit → (Nat → Prop) → World → Prop := (matchM A (decide (N = 0))).RepO g
theorem match_baseR {N : Nat} {A B : List UInt8} {g : Nat} {s : LS Unit} {own : Nat → Prop} {w : World} (h : matchR N A B g s own w) : matchBase ≤ w.heap.size := by
  obtain ⟨X, h, -⟩ := h
  exact Nat.le_trans h.repN.base (Nat.le_of_lt h.repN.lt)
theorem match_drives (N : Nat) (A B : List UInt8) (g : Nat) : ∃ fN fH fF fE fM rN rH rF rE rM, Driven (matchF N A B) matchBase (matchR N A B g) 73 (.pointer (some ⟨g, 0, none⟩)) fN fH fF fE fM rN rH rF rE rM := ⟨_, _, _, _, _, _, _, _, _, _, match_driven _ _ g⟩
theorem match_needs (N : Nat) (A B : List UInt8) (s : LS Unit) : (matchF N A B).need s = -1 ∨ (matchF N A B).need s = -2 ∨ (matchF N A B).need s = 0 := by
  show needOf s = -1 ∨ needOf s = -2 ∨ needOf s = 0
  unfold needOf
  split
  · exact .inr (.inr rfl)
  · exact .inl rfl
theorem match_no (k n : Int) (va vb : Value) (A B : List UInt8) (w : World) (hT : MaxTab w) (hA : Pm.IsBytes w va A) (hB : Pm.IsBytes w vb B) (hE : takeE 5 k n A B ≠ 0) :
    Calls Tryd.prog 14 #[Pm.parV k n va vb] w (Pm.Gives w (.tuple #[.nilIface, .int .i64 (takeE 5 k n A B)])) := matchNew_no k n va vb A B w hT.1 hA hB hE
theorem match_yes (k : Int) (n : Nat) (va vb : Value) (A B : List UInt8) (w : World) (hT : MaxTab w) (hA : Pm.IsBytes w va A) (hB : Pm.IsBytes w vb B) (hE : takeE 5 k n A B = 0) (_ : matchOk n A B) :
    Calls Tryd.prog 14 #[Pm.parV k n va vb] w (MadeOf 73 (matchR n A B) (matchI n A B) w) :=
  (matchNew_yes k n va vb A B w hT hA hB hE).mono fun _ _ ⟨g, he, hg, hR, hb⟩ => by
    have hn : decide ((n : Int) = 0) = decide (n = 0) := by by_cases h : n = 0 <;> simp [h]
    rw [hn] at hR
    exact ⟨g, _, he, ⟨fun _ => False, hR, rfl⟩, fun k hk => by rcases hk with rfl | hk; exact hg; exact hk.elim, hb⟩
def matchBound (_ : Nat) (_ _ : List UInt8) : Nat := 64
theorem match_fit {k n : Int} {A B : List UInt8} (h1 : Pm.checkE k n A B = 0) (hk : k = 5) : 0 ≤ n ∧ matchOk n.toNat A B ∧ takeE 5 k n A B = 0 ∧ Pm.insE k n A B = 1 ∧ Pm.boundE k n A B = matchBound n.toNat A B := by
  subst hk
  have hi : Pm.insE 5 n A B = 1 := by rw [Pm.insE, if_pos h1]; rfl
  have hb : Pm.boundE 5 n A B = 64 := by rw [Pm.boundE, if_pos h1]; simp [Pm.kindOf, Pm.kinds]
  have hf : Pm.fits (Pm.kindOf 5) n A B = true := by
    have h1 := h1
    unfold Pm.checkE at h1
    rw [if_neg (by omega)] at h1
    by_cases hf : Pm.fits (Pm.kindOf 5) n A B = false
    · rw [show (5 : Int).toNat = 5 from rfl, if_pos hf] at h1
      cases h1
    · simpa using hf
  simp [Pm.fits, Pm.kindOf, Pm.kinds, Pm.mayBe] at hf
  exact ⟨by omega, ⟨by omega, hf.2.1, hf.2.2.1⟩, by rw [takeE, if_neg (by rw [h1]; simp), if_neg (by simp)], hi, hb⟩

/-! What comes of an input, whatever the chunks. -/
def matchFin (N : Nat) (A _ : List UInt8) (i : Strm) : Fin := ⟨putOuts (fun _ => []) (finalB (matchT A (decide (N = 0))) matchS i.bytes i.ended).2.1, needOf (finalB (matchT A (decide (N = 0))) matchS i.bytes i.ended).1, (finalB (matchT A (decide (N = 0))) matchS i.bytes i.ended).2.2⟩
theorem match_drive (N : Nat) (A B : List UInt8) (i : Strm) (cuts : List Int) (_ : matchOk N A B) (hl : i.bytes.length ≤ 4000) :
    (drive (matchF N A B) [i] cuts 100000 0 (start (matchF N A B) (matchI N A B))).got.outs = (matchFin N A B i).outs ∧ (drive (matchF N A B) [i] cuts 100000 0 (start (matchF N A B) (matchI N A B))).got.need = (matchFin N A B i).need ∧
    (drive (matchF N A B) [i] cuts 100000 0 (start (matchF N A B) (matchI N A B))).got.err = (matchFin N A B i).err := by
  obtain ⟨-, h2, h3, h4⟩ := drive_lines (matchT A (decide (N = 0))) i cuts 100000 0 (start (matchF N A B) matchS) rfl rfl (Nat.zero_le _) rfl (by show i.bytes.length - 0 + 2 ≤ 100000; omega)
  exact ⟨h2, h4, h3⟩
def exM : Strm := ⟨[97, 98, 99, 10, 120, 121, 122, 10, 98], true, 0, 0, 0⟩
theorem match_ex : (matchFin 0 [98] [] exM).outs 0 = [97, 98, 99, 10, 98, 10] ∧ (matchFin 0 [98] [] exM).outs 1 = [] ∧ (matchFin 0 [98] [] exM).outs 2 = [] ∧ (matchFin 0 [98] [] exM).outs 3 = [] ∧ (matchFin 0 [98] [] exM).need = -1 ∧ (matchFin 0 [98] [] exM).err = 0 := ⟨by kernel_rfl, by kernel_rfl, by kernel_rfl, by kernel_rfl, by kernel_rfl, by kernel_rfl⟩
theorem match_held (N : Nat) (A B : List UInt8) (i : Strm) (cuts : List Int) : (drive (matchF N A B) [i] cuts 100000 0 (start (matchF N A B) (matchI N A B))).got.held ≤ matchBound N A B :=
  (drive_held (matchT A (decide (N = 0))) [i] cuts 100000 0 (start (matchF N A B) matchS) (by simp [start]) (by simp [start, matchS])).1

end Go.Proofs.YtoppjlifaafjiaaDoor
