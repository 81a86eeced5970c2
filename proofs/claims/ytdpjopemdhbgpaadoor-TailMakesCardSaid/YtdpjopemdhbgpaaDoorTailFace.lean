/- What the laws' walks ask of tail. -/
import Derived.Test.YtdpjopemdhbgpaaDoorTplain
import Derived.Test.YtdpjopemdhbgpaaDoorTnew
import Derived.Test.YtdpjopemdhbgpaaDoorGlaws
namespace Go.Proofs.YtdpjopemdhbgpaaDoor
open Go.RowKit

def tailBase : Nat := 0
theorem tail_tab {w : World} (hL : laidMetH Tryd.prog [("penstock/params.rows", Rows.laid_penstock_params_rows)] w) (_ : w.ShapedOpen Tryd.prog) : Pm.Tab w := Pm.tab_of_laid hL
theorem tail_base {w : World} (_ : Pm.Tab w) : tailBase ≤ w.heap.size := Nat.zero_le _
abbrev tailOk (N : Nat) (_ _ : List UInt8) : Prop := N ≤ 31
def tailI (_ : Nat) (_ _ : List UInt8) : TS := tailS
def tailF (N : Nat) (_ _ : List UInt8) : Mach TS := tailMach N
def tailR (N : Nat) (_ _ : List UInt8) (g : Nat) : TS → (Nat → Prop) → World → Prop := tailRep N g
theorem tail_baseR {N : Nat} {A B : List UInt8} {g : Nat} {s : TS} {own : Nat → Prop} {w : World} (_ : tailR N A B g s own w) : tailBase ≤ w.heap.size := Nat.zero_le _
theorem tail_drives (N : Nat) (A B : List UInt8) (g : Nat) : ∃ fN fH fF fE fM rN rH rF rE rM, Driven (tailF N A B) tailBase (tailR N A B g) 74 (.pointer (some ⟨g, 0, none⟩)) fN fH fF fE fM rN rH rF rE rM := ⟨_, _, _, _, _, _, _, _, _, _, tail_driven N g⟩
theorem tail_needs (N : Nat) (A B : List UInt8) (s : TS) : (tailF N A B).need s = -1 ∨ (tailF N A B).need s = -2 ∨ (tailF N A B).need s = 0 := by
  show tneed s = -1 ∨ tneed s = -2 ∨ tneed s = 0
  unfold tneed needOf
  cases s.pieces <;> cases s.ls.live <;> simp
theorem tail_no (k n : Int) (va vb : Value) (A B : List UInt8) (w : World) (hT : Pm.Tab w) (hA : Pm.IsBytes w va A) (hB : Pm.IsBytes w vb B) (hE : takeE 4 k n A B ≠ 0) :
    Calls Tryd.prog 14 #[Pm.parV k n va vb] w (Pm.Gives w (.tuple #[.nilIface, .int .i64 (takeE 4 k n A B)])) := tailNew_no k n va vb A B w hT hA hB hE
theorem tail_yes (k : Int) (n : Nat) (va vb : Value) (A B : List UInt8) (w : World) (hT : Pm.Tab w) (hA : Pm.IsBytes w va A) (hB : Pm.IsBytes w vb B) (hE : takeE 4 k n A B = 0) (hn : tailOk n A B) :
    Calls Tryd.prog 14 #[Pm.parV k n va vb] w (MadeOf 74 (tailR n A B) (tailI n A B) w) :=
  (tailNew_yes k n va vb A B w hT hA hB hE (by omega)).mono fun _ _ ⟨g, he, hg, hR, hb⟩ => ⟨g, (tailM n).own g fun _ => False, he, ⟨_, hR, rfl⟩, fun k hk => by rcases hk with rfl | hk; exact hg; exact hk.elim, hb⟩
def tailBound (n : Nat) (_ _ : List UInt8) : Nat := 64 + 64 * n
theorem tail_fit {k n : Int} {A B : List UInt8} (h1 : Pm.checkE k n A B = 0) (hk : k = 4) : 0 ≤ n ∧ tailOk n.toNat A B ∧ takeE 4 k n A B = 0 ∧ Pm.insE k n A B = 1 ∧ Pm.boundE k n A B = tailBound n.toNat A B := by
  subst hk
  have hi : Pm.insE 4 n A B = 1 := by rw [Pm.insE, if_pos h1]; rfl
  have hb : Pm.boundE 4 n A B = 64 + 64 * n := by rw [Pm.boundE, if_pos h1]; simp [Pm.kindOf, Pm.kinds]
  have hf : Pm.fits (Pm.kindOf 4) n A B = true ∧ Pm.tooMuch (Pm.kindOf 4) n = false := by
    have h1 := h1
    unfold Pm.checkE at h1
    rw [if_neg (by omega)] at h1
    rw [show (4 : Int).toNat = 4 from rfl] at h1
    by_cases hf : Pm.fits (Pm.kindOf 4) n A B = false
    · rw [if_pos hf] at h1
      cases h1
    · rw [if_neg hf] at h1
      refine ⟨by simpa using hf, ?_⟩
      by_cases ht : Pm.tooMuch (Pm.kindOf 4) n = true
      · rw [if_pos ht] at h1
        cases h1
      · simpa using ht
  obtain ⟨hf, ht⟩ := hf
  simp [Pm.fits, Pm.kindOf, Pm.kinds, Pm.mayBe] at hf
  simp [Pm.tooMuch, Pm.kindOf, Pm.kinds] at ht
  obtain ⟨⟨q1, q2⟩, -⟩ := hf
  refine ⟨q1, by show n.toNat ≤ 31; omega, by rw [takeE, if_neg (by rw [h1]; simp), if_neg (by simp)], hi, ?_⟩
  rw [hb, tailBound]
  omega

/-! What comes of an input, whatever the chunks. -/
def tailFin (N : Nat) (_ _ : List UInt8) (i : Strm) : Fin := ⟨putOuts (fun _ => []) (finalM (tailMach N) N tailS i.bytes i.ended).2.1, (tailMach N).need (finalM (tailMach N) N tailS i.bytes i.ended).1, (finalM (tailMach N) N tailS i.bytes i.ended).2.2⟩
theorem tail_done (N : Nat) (x : List UInt8) : Done (tailMach N) (finalM (tailMach N) N tailS x true) := by
  obtain ⟨-, h2, h3⟩ := tail_final N x true (0, 0, 0)
  cases hr : (readL x true (0, 0, 0)).2.1 with
  | true => exact .inl (h2 hr).1
  | false =>
    rcases h3 hr with h | h
    · exact .inl h.2.1
    · exfalso
      unfold readL at hr h
      rcases hc : cutL [] x with ⟨L, _ | d⟩
      · rw [hc] at h
        have := h.1
        simp at this
      · rw [hc] at hr
        simp at hr
theorem tail_drive (N : Nat) (A B : List UInt8) (i : Strm) (cuts : List Int) (hN : tailOk N A B) (hl : i.bytes.length ≤ 4000) :
    (drive (tailF N A B) [i] cuts 100000 0 (start (tailF N A B) (tailI N A B))).got.outs = (tailFin N A B i).outs ∧ (drive (tailF N A B) [i] cuts 100000 0 (start (tailF N A B) (tailI N A B))).got.need = (tailFin N A B i).need ∧
    (drive (tailF N A B) [i] cuts 100000 0 (start (tailF N A B) (tailI N A B))).got.err = (tailFin N A B i).err := by
  obtain ⟨h1, h2, h3⟩ := drive_one (tailMach N) (tail_one N) i cuts N 100000 0 (start (tailF N A B) (tailI N A B)) rfl rfl rfl (Nat.zero_le _) rfl (by show i.bytes.length - 0 + 2 + N ≤ 100000; omega) (fun _ => tail_done N _)
  exact ⟨h1, h3, h2⟩
theorem tail_ex : (tailFin 2 [] [] exS).outs 0 = [98, 10, 99, 10] ∧ (tailFin 2 [] [] exS).outs 1 = [] ∧ (tailFin 2 [] [] exS).outs 2 = [] ∧ (tailFin 2 [] [] exS).outs 3 = [] ∧ (tailFin 2 [] [] exS).need = -1 ∧ (tailFin 2 [] [] exS).err = 0 := by
  refine ⟨?_, ?_, ?_, ?_, ?_, ?_⟩ <;> decide
theorem tail_held (N : Nat) (A B : List UInt8) (i : Strm) (cuts : List Int) : (drive (tailF N A B) [i] cuts 100000 0 (start (tailF N A B) (tailI N A B))).got.held ≤ tailBound N A B := by
  refine (drive_inv (tailMach N) (fun s => TOk N s.ls.u ∧ s.ls.b.length ≤ 64) (tailBound N A B) ?_ ?_ ?_ ?_ [i] cuts 100000 0 (start (tailF N A B) (tailI N A B)) ⟨⟨Nat.zero_le _, fun l hl => by cases hl⟩, by simp [start, tailI, tailS]⟩ (by simp [start, tailBound]; omega)).2
  · rintro s ⟨h1, h2⟩
    have h3 := keptSum_le h1.2
    have h4 := h1.1
    show ((s.ls.b.length + keptSum s.ls.u : Nat) : Int) ≤ ((64 + 64 * N : Nat) : Int)
    omega
  · rintro s x ⟨h1, h2⟩
    refine ⟨?_, feedB_le (tailT N) x s.ls h2⟩
    show TOk N (if (feedB (tailT N) x s.ls).2.2 = 20 then [] else (feedB (tailT N) x s.ls).1.u)
    split
    · exact ⟨Nat.zero_le _, fun l hl => by cases hl⟩
    · exact tok_feed x s.ls h2 h1
  · rintro s ⟨h1, h2⟩
    refine ⟨tok_end h2 h1, ?_⟩
    show (endB (tailT N) s.ls).1.b.length ≤ 64
    unfold endB
    split <;> simp
  · rintro s ⟨h1, h2⟩
    obtain ⟨⟨live, fail, b, u⟩, p⟩ := s
    cases u with
    | nil => exact ⟨h1, h2⟩
    | cons l r => exact ⟨⟨by have := h1.1; simp at this; show r.length ≤ N; omega, fun y hy => h1.2 y (List.mem_cons_of_mem _ hy)⟩, h2⟩

end Go.Proofs.YtdpjopemdhbgpaaDoor
