/- What the laws' walks ask of fields. -/
import Derived.Test.YtgcnkagieedebaaDoorFields
import Derived.Test.YtgcnkagieedebaaDoorGlaws
import Derived.LaidSub
namespace Go.Proofs.YtgcnkagieedebaaDoor
open Go.RowKit

theorem fields_tab {l : List (String × DataW Unit)} {w : World} (hL : laidMetH Tryd.prog l w) (hS : w.ShapedOpen Tryd.prog) (hl : l.filter (fun x => x.1 == "penstock/params.rows") = [("penstock/params.rows", Rows.laid_penstock_params_rows)] := by kernel_rfl) : MaxTab w := by
  have h := laidMetH.filter (fun x => x.1 == "penstock/params.rows") hL
  rw [hl] at h
  exact maxTab_of h hS
theorem fields_base {w : World} (h : MaxTab w) : fieldsBase ≤ w.heap.size := h.2.lt
abbrev fieldsOk (N : Nat) (A _ : List UInt8) : Prop := N ≤ 65535 ∧ A.length = 1
def fieldsI (_ : Nat) (_ _ : List UInt8) : LS Unit := fieldsS
def fieldsF (N : Nat) (A _ : List UInt8) : Mach (LS Unit) := linesM (fieldsT (min N 65535) [A.headD 0])
def fieldsR (N : Nat) (A _ : List UInt8) (g : Nat) : LS Unit → (Nat → Prop) → World → Prop := (fieldsM (min N 65535) (A.headD 0)).RepO g
theorem fields_baseR {N : Nat} {A B : List UInt8} {g : Nat} {s : LS Unit} {own : Nat → Prop} {w : World} (h : fieldsR N A B g s own w) : fieldsBase ≤ w.heap.size := by
  obtain ⟨X, h, -⟩ := h
  exact Nat.le_trans h.repN.base (Nat.le_of_lt h.repN.lt)
theorem fields_drives (N : Nat) (A B : List UInt8) (g : Nat) : ∃ fN fH fF fE fM rN rH rF rE rM, Driven (fieldsF N A B) fieldsBase (fieldsR N A B g) 75 (.pointer (some ⟨g, 0, none⟩)) fN fH fF fE fM rN rH rF rE rM := ⟨_, _, _, _, _, _, _, _, _, _, fields_driven _ _ g (Nat.min_le_right _ _)⟩
theorem fields_needs (N : Nat) (A B : List UInt8) (s : LS Unit) : (fieldsF N A B).need s = -1 ∨ (fieldsF N A B).need s = -2 ∨ (fieldsF N A B).need s = 0 := by
  show needOf s = -1 ∨ needOf s = -2 ∨ needOf s = 0
  unfold needOf
  split
  · exact .inr (.inr rfl)
  · exact .inl rfl
theorem fields_no (k n : Int) (va vb : Value) (A B : List UInt8) (w : World) (hT : MaxTab w) (hA : Pm.IsBytes w va A) (hB : Pm.IsBytes w vb B) (hE : takeE 7 k n A B ≠ 0) :
    Calls Tryd.prog 14 #[Pm.parV k n va vb] w (Pm.Gives w (.tuple #[.nilIface, .int .i64 (takeE 7 k n A B)])) := fieldsNew_no k n va vb A B w hT.1 hA hB hE
theorem headD_one {A : List UInt8} (h : A.length = 1) : [A.headD 0] = A := by
  match A, h with
  | [a], _ => rfl
theorem fields_yes (k : Int) (n : Nat) (va vb : Value) (A B : List UInt8) (w : World) (hT : MaxTab w) (hA : Pm.IsBytes w va A) (hB : Pm.IsBytes w vb B) (hE : takeE 7 k n A B = 0) (hO : fieldsOk n A B) :
    Calls Tryd.prog 14 #[Pm.parV k n va vb] w (MadeOf 75 (fieldsR n A B) (fieldsI n A B) w) := by
  obtain ⟨a, rfl⟩ : ∃ a, A = [a] := ⟨_, (headD_one hO.2).symm⟩
  have hn : min n 65535 = n := Nat.min_eq_left hO.1
  exact (fieldsNew_yes k n va vb a B w hT hA hB hE).mono fun _ _ ⟨g, he, hg, hR, hb⟩ => by
    refine ⟨g, _, he, ⟨fun _ => False, ?_, rfl⟩, fun k hk => by rcases hk with rfl | hk; exact hg; exact hk.elim, hb⟩
    rw [hn]
    exact hR
def fieldsBound (_ : Nat) (_ _ : List UInt8) : Nat := 64
theorem fields_fit {k n : Int} {A B : List UInt8} (h1 : Pm.checkE k n A B = 0) (hk : k = 7) : 0 ≤ n ∧ fieldsOk n.toNat A B ∧ takeE 7 k n A B = 0 ∧ Pm.insE k n A B = 1 ∧ Pm.boundE k n A B = fieldsBound n.toNat A B := by
  subst hk
  have hi : Pm.insE 7 n A B = 1 := by rw [Pm.insE, if_pos h1]; rfl
  have hb : Pm.boundE 7 n A B = 64 := by rw [Pm.boundE, if_pos h1]; simp [Pm.kindOf, Pm.kinds]
  have hf : Pm.fits (Pm.kindOf 7) n A B = true := by
    have h1 := h1
    unfold Pm.checkE at h1
    rw [if_neg (by omega)] at h1
    by_cases hf : Pm.fits (Pm.kindOf 7) n A B = false
    · rw [show (7 : Int).toNat = 7 from rfl, if_pos hf] at h1
      cases h1
    · simpa using hf
  simp [Pm.fits, Pm.kindOf, Pm.kinds, Pm.mayBe] at hf
  exact ⟨by omega, ⟨by omega, by omega⟩, by rw [takeE, if_neg (by rw [h1]; simp), if_neg (by simp)], hi, hb⟩

/-! What comes of an input, whatever the chunks. -/
def fieldsFin (N : Nat) (A _ : List UInt8) (i : Strm) : Fin := ⟨putOuts (fun _ => []) (finalB (fieldsT (min N 65535) [A.headD 0]) fieldsS i.bytes i.ended).2.1, needOf (finalB (fieldsT (min N 65535) [A.headD 0]) fieldsS i.bytes i.ended).1, (finalB (fieldsT (min N 65535) [A.headD 0]) fieldsS i.bytes i.ended).2.2⟩
theorem fields_drive (N : Nat) (A B : List UInt8) (i : Strm) (cuts : List Int) (_ : fieldsOk N A B) (hl : i.bytes.length ≤ 4000) :
    (drive (fieldsF N A B) [i] cuts 100000 0 (start (fieldsF N A B) (fieldsI N A B))).got.outs = (fieldsFin N A B i).outs ∧ (drive (fieldsF N A B) [i] cuts 100000 0 (start (fieldsF N A B) (fieldsI N A B))).got.need = (fieldsFin N A B i).need ∧
    (drive (fieldsF N A B) [i] cuts 100000 0 (start (fieldsF N A B) (fieldsI N A B))).got.err = (fieldsFin N A B i).err := by
  obtain ⟨-, h2, h3, h4⟩ := drive_lines (fieldsT (min N 65535) [A.headD 0]) i cuts 100000 0 (start (fieldsF N A B) fieldsS) rfl rfl (Nat.zero_le _) rfl (by show i.bytes.length - 0 + 2 ≤ 100000; omega)
  exact ⟨h2, h4, h3⟩
def exF : Strm := ⟨[97, 58, 98, 58, 99, 58, 100, 10, 112, 108, 97, 105, 110], true, 0, 0, 0⟩
theorem fields_ex : (fieldsFin 5 [58] [] exF).outs 0 = [97, 58, 99, 10, 112, 108, 97, 105, 110, 10] ∧ (fieldsFin 5 [58] [] exF).outs 1 = [] ∧ (fieldsFin 5 [58] [] exF).outs 2 = [] ∧ (fieldsFin 5 [58] [] exF).outs 3 = [] ∧ (fieldsFin 5 [58] [] exF).need = -1 ∧ (fieldsFin 5 [58] [] exF).err = 0 := ⟨by kernel_rfl, by kernel_rfl, by kernel_rfl, by kernel_rfl, by kernel_rfl, by kernel_rfl⟩
theorem fields_held (N : Nat) (A B : List UInt8) (i : Strm) (cuts : List Int) : (drive (fieldsF N A B) [i] cuts 100000 0 (start (fieldsF N A B) (fieldsI N A B))).got.held ≤ fieldsBound N A B :=
  (drive_held (fieldsT (min N 65535) [A.headD 0]) [i] cuts 100000 0 (start (fieldsF N A B) fieldsS) (by simp [start]) (by simp [start, fieldsS])).1

end Go.Proofs.YtgcnkagieedebaaDoor
