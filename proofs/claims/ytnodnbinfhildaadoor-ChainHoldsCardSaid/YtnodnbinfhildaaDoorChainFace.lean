/- What the laws' walks ask of chain. -/
import Derived.Test.YtnodnbinfhildaaDoorChainNew
import Derived.Test.YtnodnbinfhildaaDoorGlaws
namespace Go.Proofs.YtnodnbinfhildaaDoor
open Go.RowKit

def chainBase : Nat := 0
theorem chain_tab {w : World} (hL : laidMetH Tryd.prog [("penstock/params.rows", Rows.laid_penstock_params_rows)] w) (_ : w.ShapedOpen Tryd.prog) : Pm.Tab w := Pm.tab_of_laid hL
theorem chain_base {w : World} (_ : Pm.Tab w) : chainBase ≤ w.heap.size := Nat.zero_le _
/-- How many inputs it has. -/
def chainIns (N : Nat) : Nat := N
abbrev chainOk (N : Nat) (_ _ : List UInt8) : Prop := 1 ≤ N ∧ N ≤ 4
def chainI (_ : Nat) (_ _ : List UInt8) : Nat := 0
def chainF (N : Nat) (_ _ : List UInt8) : Mach Nat := chainMach N
def chainR (N : Nat) (_ _ : List UInt8) (g : Nat) : Nat → (Nat → Prop) → World → Prop := chainRep N g
theorem chain_baseR {N : Nat} {A B : List UInt8} {g : Nat} {s : Nat} {own : Nat → Prop} {w : World} (_ : chainR N A B g s own w) : chainBase ≤ w.heap.size := Nat.zero_le _
theorem chain_drives (N : Nat) (A B : List UInt8) (g : Nat) (hok : chainOk N A B) : ∃ fN fH fF fE fM rN rH rF rE rM, Driven (chainF N A B) chainBase (chainR N A B g) 70 (.pointer (some ⟨g, 0, none⟩)) fN fH fF fE fM rN rH rF rE rM := ⟨_, _, _, _, _, _, _, _, _, _, chain_driven N hok.2 g⟩
theorem chain_needs (N : Nat) (A B : List UInt8) (s : Nat) (hok : chainOk N A B) {g : Nat} {own : Nat → Prop} {w : World} (_ : chainR N A B g s own w) : (chainF N A B).need s = -1 ∨ (chainF N A B).need s = -2 ∨ (0 ≤ (chainF N A B).need s ∧ (chainF N A B).need s ≤ 3 ∧ (chainF N A B).need s < (chainIns N : Nat)) := by
  show needC N s = -1 ∨ needC N s = -2 ∨ (0 ≤ needC N s ∧ needC N s ≤ 3 ∧ needC N s < (N : Int))
  have := hok.2
  unfold needC
  split
  · exact .inr (.inr ⟨by omega, by omega, by omega⟩)
  · exact .inl rfl
theorem chain_no (k n : Int) (va vb : Value) (A B : List UInt8) (w : World) (hT : Pm.Tab w) (hA : Pm.IsBytes w va A) (hB : Pm.IsBytes w vb B) (hE : takeE 12 k n A B ≠ 0) :
    Calls Tryd.prog 14 #[Pm.parV k n va vb] w (Pm.Gives w (.tuple #[.nilIface, .int .i64 (takeE 12 k n A B)])) := chainNew_no k n va vb A B w hT hA hB hE
theorem chain_yes (k : Int) (n : Nat) (va vb : Value) (A B : List UInt8) (w : World) (hT : Pm.Tab w) (hA : Pm.IsBytes w va A) (hB : Pm.IsBytes w vb B) (hE : takeE 12 k n A B = 0) (hok : chainOk n A B) :
    Calls Tryd.prog 14 #[Pm.parV k n va vb] w (MadeOf 70 (chainR n A B) (chainI n A B) w) :=
  (chainNew_yes k n hok.1 hok.2 va vb A B w hT hA hB hE).mono fun _ _ ⟨g, he, hg, hR, hb⟩ => ⟨g, (· = g), he, ⟨by rw [show needC n (chainI n A B) = 0 from if_pos hok.1]; exact hR, rfl⟩, fun k hk => by rw [hk]; exact hg, hb⟩
def chainBound (_ : Nat) (_ _ : List UInt8) : Nat := 0
theorem chain_fit {k n : Int} {A B : List UInt8} (h1 : Pm.checkE k n A B = 0) (hk : k = 12) : 0 ≤ n ∧ chainOk n.toNat A B ∧ takeE 12 k n A B = 0 ∧ Pm.insE k n A B = chainIns n.toNat ∧ Pm.boundE k n A B = chainBound n.toNat A B := by
  subst hk
  have hf : Pm.fits (Pm.kindOf 12) n A B = true := by
    have h1 := h1
    unfold Pm.checkE at h1
    rw [if_neg (by omega)] at h1
    by_cases hf : Pm.fits (Pm.kindOf 12) n A B = false
    · rw [show (12 : Int).toNat = 12 from rfl, if_pos hf] at h1
      cases h1
    · simpa using hf
  have hb : Pm.boundE 12 n A B = 0 := by rw [Pm.boundE, if_pos h1]; simp [Pm.kindOf, Pm.kinds]
  have hi : Pm.insE 12 n A B = n := by rw [Pm.insE, if_pos h1]; simp [Pm.kindOf, Pm.kinds, Pm.portsE]
  simp [Pm.fits, Pm.kindOf, Pm.kinds, Pm.mayBe] at hf
  have hn : 1 ≤ n ∧ n ≤ 4 := by omega
  exact ⟨by omega, ⟨by omega, by omega⟩, by rw [takeE, if_neg (by rw [h1]; simp), if_neg (by simp)], by rw [hi]; show n = (n.toNat : Int); omega, hb⟩

/-! What comes of inputs, whatever the chunks. -/
theorem chain_drive (N : Nat) (A B : List UInt8) (ins : List Strm) (cuts : List Int) (hok : chainOk N A B) (hlen : ins.length = chainIns N) (hl : ∀ t ∈ ins, t.bytes.length ≤ 4000) :
    (drive (chainF N A B) ins cuts 100000 0 (start (chainF N A B) (chainI N A B))).got.outs = (chainFin N A B ins).outs ∧ (drive (chainF N A B) ins cuts 100000 0 (start (chainF N A B) (chainI N A B))).got.need = (chainFin N A B ins).need ∧
    (drive (chainF N A B) ins cuts 100000 0 (start (chainF N A B) (chainI N A B))).got.err = (chainFin N A B ins).err := chain_driven_to N A B ins cuts hok.2 hlen hl
def exCh : List Strm := [⟨[97, 98], true, 0, 0, 0⟩, ⟨[99], true, 0, 0, 0⟩]
theorem chain_ex : (chainFin 2 [] [] exCh).outs 0 = [97, 98, 99] ∧ (chainFin 2 [] [] exCh).outs 1 = [] ∧ (chainFin 2 [] [] exCh).outs 2 = [] ∧ (chainFin 2 [] [] exCh).outs 3 = [] ∧ (chainFin 2 [] [] exCh).need = -1 ∧ (chainFin 2 [] [] exCh).err = 0 := ⟨by kernel_rfl, by kernel_rfl, by kernel_rfl, by kernel_rfl, by kernel_rfl, by kernel_rfl⟩
theorem chain_held (N : Nat) (A B : List UInt8) (ins : List Strm) (cuts : List Int) (_ : chainOk N A B) : (drive (chainF N A B) ins cuts 100000 0 (start (chainF N A B) (chainI N A B))).got.held ≤ chainBound N A B := chain_kept N ins cuts

end Go.Proofs.YtnodnbinfhildaaDoor
