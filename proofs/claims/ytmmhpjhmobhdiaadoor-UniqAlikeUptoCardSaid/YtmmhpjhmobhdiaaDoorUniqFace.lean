/- What the laws' walks ask of uniq. -/
import Derived.Test.YtmmhpjhmobhdiaaDoorUniqNew
import Derived.Test.YtmmhpjhmobhdiaaDoorGlaws
import Derived.LaidSub
namespace Go.Proofs.YtmmhpjhmobhdiaaDoor
open Go.RowKit

theorem uniq_tab {l : List (String × DataW Unit)} {w : World} (hL : laidMetH Tryd.prog l w) (_ : w.ShapedOpen Tryd.prog) (h1 : l.filter (fun x => x.1 == "penstock/params.rows") = [("penstock/params.rows", Rows.laid_penstock_params_rows)] := by kernel_rfl)
    (h2 : l.filter (fun x => x.1 == "internal/strconv.uint64pow10") = [("internal/strconv.uint64pow10", Rows.laid_internal_strconv_uint64pow10)] := by kernel_rfl) : TenTab w := tenTab_of hL h1 h2
theorem uniq_base {w : World} (h : TenTab w) : uniqBase ≤ w.heap.size := h.2.lt
abbrev uniqOk (N : Nat) (_ _ : List UInt8) : Prop := N ≤ 1
def uniqC (N : Nat) : Bool := decide (N = 1)
def uniqI (_ : Nat) (_ _ : List UInt8) : LS US := uniqS
def uniqF (N : Nat) (_ _ : List UInt8) : Mach (LS US) := uniqMach (uniqC N)
def uniqR (N : Nat) (_ _ : List UInt8) (g : Nat) : LS US → (Nat → Prop) → World → Prop := uniqRep (uniqC N) g
theorem uniq_baseR {N : Nat} {A B : List UInt8} {g : Nat} {s : LS US} {own : Nat → Prop} {w : World} (h : uniqR N A B g s own w) : uniqBase ≤ w.heap.size := by
  obtain ⟨X, h, -⟩ := h
  exact Nat.le_trans h.rep.repN.base (Nat.le_of_lt h.rep.repN.lt)
theorem uniq_drives (N : Nat) (A B : List UInt8) (g : Nat) : ∃ fN fH fF fE fM rN rH rF rE rM, Driven (uniqF N A B) uniqBase (uniqR N A B g) 73 (.pointer (some ⟨g, 0, none⟩)) fN fH fF fE fM rN rH rF rE rM := ⟨_, _, _, _, _, _, _, _, _, _, uniq_driven _ g⟩
theorem uniq_needs (N : Nat) (A B : List UInt8) (s : LS US) : (uniqF N A B).need s = -1 ∨ (uniqF N A B).need s = -2 ∨ (uniqF N A B).need s = 0 := linesX_needs _ _ _ _ s
theorem uniq_no (k n : Int) (va vb : Value) (A B : List UInt8) (w : World) (hT : TenTab w) (hA : Pm.IsBytes w va A) (hB : Pm.IsBytes w vb B) (hE : takeE 8 k n A B ≠ 0) :
    Calls Tryd.prog 14 #[Pm.parV k n va vb] w (Pm.Gives w (.tuple #[.nilIface, .int .i64 (takeE 8 k n A B)])) := uniqNew_no k n va vb A B w hT.1 hA hB hE
theorem uniq_yes (k : Int) (n : Nat) (va vb : Value) (A B : List UInt8) (w : World) (hT : TenTab w) (hA : Pm.IsBytes w va A) (hB : Pm.IsBytes w vb B) (hE : takeE 8 k n A B = 0) (_ : uniqOk n A B) :
    Calls Tryd.prog 14 #[Pm.parV k n va vb] w (MadeOf 73 (uniqR n A B) (uniqI n A B) w) :=
  (uniqNew_yes k n va vb A B w hT hA hB hE).mono fun _ _ ⟨g, he, hg, hR, hb⟩ => ⟨g, _, he, ⟨fun _ => False, hR, rfl⟩, fun k hk => by rcases hk with rfl | hk; exact hg; exact hk.elim, hb⟩
def uniqBound (_ : Nat) (_ _ : List UInt8) : Nat := 128
theorem uniq_fit {k n : Int} {A B : List UInt8} (h1 : Pm.checkE k n A B = 0) (hk : k = 8) : 0 ≤ n ∧ uniqOk n.toNat A B ∧ takeE 8 k n A B = 0 ∧ Pm.insE k n A B = 1 ∧ Pm.boundE k n A B = uniqBound n.toNat A B := by
  subst hk
  have hi : Pm.insE 8 n A B = 1 := by rw [Pm.insE, if_pos h1]; rfl
  have hb : Pm.boundE 8 n A B = 128 := by rw [Pm.boundE, if_pos h1]; simp [Pm.kindOf, Pm.kinds]
  have hf : Pm.fits (Pm.kindOf 8) n A B = true := by
    have h1 := h1
    unfold Pm.checkE at h1
    rw [if_neg (by omega)] at h1
    by_cases hf : Pm.fits (Pm.kindOf 8) n A B = false
    · rw [show (8 : Int).toNat = 8 from rfl, if_pos hf] at h1
      cases h1
    · simpa using hf
  simp [Pm.fits, Pm.kindOf, Pm.kinds, Pm.mayBe] at hf
  exact ⟨by omega, by show n.toNat ≤ 1; omega, by rw [takeE, if_neg (by rw [h1]; simp), if_neg (by simp)], hi, hb⟩

/-! What comes of an input, whatever the chunks. -/
def uniqAll (N : Nat) (i : Strm) : LS US × Outs × Int := finalM (uniqMach (uniqC N)) 0 uniqS i.bytes i.ended
def uniqFin (N : Nat) (_ _ : List UInt8) (i : Strm) : Fin := ⟨putOuts (fun _ => []) (uniqAll N i).2.1, needOf (uniqAll N i).1, (uniqAll N i).2.2⟩
theorem uniq_drive (N : Nat) (A B : List UInt8) (i : Strm) (cuts : List Int) (_ : uniqOk N A B) (hl : i.bytes.length ≤ 4000) :
    (drive (uniqF N A B) [i] cuts 100000 0 (start (uniqF N A B) (uniqI N A B))).got.outs = (uniqFin N A B i).outs ∧ (drive (uniqF N A B) [i] cuts 100000 0 (start (uniqF N A B) (uniqI N A B))).got.need = (uniqFin N A B i).need ∧
    (drive (uniqF N A B) [i] cuts 100000 0 (start (uniqF N A B) (uniqI N A B))).got.err = (uniqFin N A B i).err := by
  obtain ⟨h1, h2, h3⟩ := drive_one (uniqMach (uniqC N)) (linesX_one _ _ _ _) i cuts 0 100000 0 (start (uniqF N A B) (uniqI N A B)) rfl rfl rfl (Nat.zero_le _) rfl (by show i.bytes.length - 0 + 2 + 0 ≤ 100000; omega) (fun _ => linesX_done _ _ _ (uniq_goes_on _) _ _ _)
  exact ⟨h1, h3, h2⟩
def exU : Strm := ⟨[97, 10, 97, 10, 98, 10, 97], true, 0, 0, 0⟩
theorem uniq_ex : (uniqFin 1 [] [] exU).outs 0 = [50, 32, 97, 10, 49, 32, 98, 10, 49, 32, 97, 10] ∧ (uniqFin 1 [] [] exU).outs 1 = [] ∧ (uniqFin 1 [] [] exU).outs 2 = [] ∧ (uniqFin 1 [] [] exU).outs 3 = [] ∧ (uniqFin 1 [] [] exU).need = -1 ∧ (uniqFin 1 [] [] exU).err = 0 := ⟨by kernel_rfl, by kernel_rfl, by kernel_rfl, by kernel_rfl, by kernel_rfl, by kernel_rfl⟩
theorem uniq_held (N : Nat) (A B : List UInt8) (i : Strm) (cuts : List Int) : (drive (uniqF N A B) [i] cuts 100000 0 (start (uniqF N A B) (uniqI N A B))).got.held ≤ uniqBound N A B := by
  refine (drive_inv (uniqMach (uniqC N)) (fun s => UOk s.u ∧ s.b.length ≤ 64) (uniqBound N A B) ?_ ?_ ?_ ?_ [i] cuts 100000 0 (start (uniqF N A B) (uniqI N A B)) ⟨uOk_none, by simp [start, uniqI, uniqS]⟩ (by simp [start, uniqBound])).2
  · rintro s ⟨h1, h2⟩
    have := h1.1
    show ((s.b.length + s.u.2.length : Nat) : Int) ≤ ((128 : Nat) : Int)
    omega
  · rintro s x ⟨h1, h2⟩
    exact ⟨uOk_feedL x s h2 h1, feedB_le (uniqT (uniqC N)) x s h2⟩
  · rintro s ⟨h1, h2⟩
    exact ⟨uOk_end (uniqC N) s h2 h1, by show ([] : List UInt8).length ≤ 64; simp⟩
  · rintro s h
    exact h

end Go.Proofs.YtmmhpjhmobhdiaaDoor
