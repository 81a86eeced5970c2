/- What the laws' walks ask of tail. -/
import Derived.Test.YthedfcdcocimbaaDoorTplain
import Derived.Test.YthedfcdcocimbaaDoorTnew
import Derived.Test.YthedfcdcocimbaaDoorGlaws
namespace Go.Proofs.YthedfcdcocimbaaDoor
open Go.RowKit

def tailI (_ : Nat) : TS := tailS
def tailF (N : Nat) : Mach TS := tailMach N
theorem tail_drives (N g : Nat) : ∃ fN fH fF fE fM rN rH rF rE rM, Driven (tailF N) 0 (tailR N g) 104 (.pointer (some ⟨g, 0, none⟩)) fN fH fF fE fM rN rH rF rE rM := ⟨_, _, _, _, _, _, _, _, _, _, tail_driven N g⟩
theorem tail_needs (N : Nat) (s : TS) : (tailF N).need s = -1 ∨ (tailF N).need s = -2 ∨ (tailF N).need s = 0 := by
  show tneed s = -1 ∨ tneed s = -2 ∨ tneed s = 0
  unfold tneed needOf
  cases s.pieces <;> cases s.ls.live <;> simp
theorem tail_no (k n : Int) (va vb : Value) (A B : List UInt8) (w : World) (hT : Pm.Tab w) (hA : Pm.IsBytes w va A) (hB : Pm.IsBytes w vb B) (hE : takeE 4 k n A B ≠ 0) :
    Calls Tryd.prog 36 #[Pm.parV k n va vb] w (Pm.Gives w (.tuple #[.nilIface, .int .i64 (takeE 4 k n A B)])) := tailNew_no k n va vb A B w hT hA hB hE
theorem tail_yes (k : Int) (n : Nat) (va vb : Value) (A B : List UInt8) (w : World) (hT : Pm.Tab w) (hA : Pm.IsBytes w va A) (hB : Pm.IsBytes w vb B) (hE : takeE 4 k n A B = 0) (hn : n ≤ 31) :
    Calls Tryd.prog 36 #[Pm.parV k n va vb] w (MadeOf 104 (tailR n) (tailI n) w) :=
  (tailNew_yes k n va vb A B w hT hA hB hE (by omega)).mono fun _ _ ⟨g, he, hg, hR, hb⟩ => ⟨g, (tailM n).own g fun _ => False, he, ⟨_, hR, rfl⟩, fun k hk => by rcases hk with rfl | hk; exact hg; exact hk.elim, hb⟩
def tailBound (n : Nat) : Nat := 64 + 64 * n
theorem tail_fit {k n : Int} {A B : List UInt8} (h1 : Pm.checkE k n A B = 0) (hk : k = 4) : 0 ≤ n ∧ n ≤ 31 ∧ A = [] ∧ B = [] ∧ takeE 4 k n A B = 0 ∧ Pm.insE k n A B = 1 ∧ Pm.boundE k n A B = tailBound n.toNat := by
  subst hk
  have hi : Pm.insE 4 n A B = 1 := by rw [Pm.insE, if_pos h1]; rfl
  have hb : Pm.boundE 4 n A B = 64 + 64 * n := by rw [Pm.boundE, if_pos h1]; simp [Pm.kindOf, Pm.kinds]
  have hf : Pm.fits (Pm.kindOf 4) n A B = true ∧ Pm.tooMuch (Pm.kindOf 4) n = false := by
    have h1 := h1
    unfold Pm.checkE at h1
    rw [if_neg (by omega)] at h1
    rw [show (4 : Int).toNat = 4 from rfl] at h1
    by_cases hf : Pm.fits (Pm.kindOf 4) n A B = false
    · rw [if_pos hf] at h1
      cases h1
    · rw [if_neg hf] at h1
      refine ⟨by simpa using hf, ?_⟩
      by_cases ht : Pm.tooMuch (Pm.kindOf 4) n = true
      · rw [if_pos ht] at h1
        cases h1
      · simpa using ht
  obtain ⟨hf, ht⟩ := hf
  simp [Pm.fits, Pm.kindOf, Pm.kinds, Pm.mayBe] at hf
  simp [Pm.tooMuch, Pm.kindOf, Pm.kinds] at ht
  obtain ⟨⟨q1, q2⟩, q3, q4⟩ := hf
  refine ⟨q1, by omega, q3, q4, by rw [takeE, if_neg (by rw [h1]; simp), if_neg (by simp)], hi, ?_⟩
  rw [hb, tailBound]
  omega

/-! What comes of an input, whatever the chunks. -/
def tailFin (N : Nat) (i : Strm) : Fin := ⟨putOuts (fun _ => []) (finalM (tailMach N) N tailS i.bytes i.ended).2.1, (tailMach N).need (finalM (tailMach N) N tailS i.bytes i.ended).1, (finalM (tailMach N) N tailS i.bytes i.ended).2.2⟩
theorem tail_done (N : Nat) (x : List UInt8) : Done (tailMach N) (finalM (tailMach N) N tailS x true) := by
  obtain ⟨-, h2, h3⟩ := tail_final N x true (0, 0, 0)
  cases hr : (readL x true (0, 0, 0)).2.1 with
  | true => exact .inl (h2 hr).1
  | false =>
    rcases h3 hr with h | h
    · exact .inl h.2.1
    · exfalso
      unfold readL at hr h
      rcases hc : cutL [] x with ⟨L, _ | d⟩
      · rw [hc] at h
        have := h.1
        simp at this
      · rw [hc] at hr
        simp at hr
theorem tail_drive (N : Nat) (i : Strm) (cuts : List Int) (hN : N ≤ 31) (hl : i.bytes.length ≤ 4000) :
    (drive (tailF N) [i] cuts 100000 0 (start (tailF N) (tailI N))).got.outs = (tailFin N i).outs ∧ (drive (tailF N) [i] cuts 100000 0 (start (tailF N) (tailI N))).got.need = (tailFin N i).need ∧
    (drive (tailF N) [i] cuts 100000 0 (start (tailF N) (tailI N))).got.err = (tailFin N i).err := by
  obtain ⟨h1, h2, h3⟩ := drive_one (tailMach N) (tail_one N) i cuts N 100000 0 (start (tailF N) (tailI N)) rfl rfl rfl (Nat.zero_le _) rfl (by show i.bytes.length - 0 + 2 + N ≤ 100000; omega) (fun _ => tail_done N _)
  exact ⟨h1, h3, h2⟩
theorem tail_ex : (tailFin 2 exS).outs 0 = [98, 10, 99, 10] ∧ (tailFin 2 exS).outs 1 = [] ∧ (tailFin 2 exS).outs 2 = [] ∧ (tailFin 2 exS).outs 3 = [] ∧ (tailFin 2 exS).need = -1 ∧ (tailFin 2 exS).err = 0 := by
  refine ⟨?_, ?_, ?_, ?_, ?_, ?_⟩ <;> decide
theorem tail_held (N : Nat) (i : Strm) (cuts : List Int) : (drive (tailF N) [i] cuts 100000 0 (start (tailF N) (tailI N))).got.held ≤ tailBound N := by
  refine (drive_inv (tailMach N) (fun s => TOk N s.ls.u ∧ s.ls.b.length ≤ 64) (tailBound N) ?_ ?_ ?_ ?_ [i] cuts 100000 0 (start (tailF N) (tailI N)) ⟨⟨Nat.zero_le _, fun l hl => by cases hl⟩, by simp [start, tailI, tailS]⟩ (by simp [start, tailBound]; omega)).2
  · rintro s ⟨h1, h2⟩
    have h3 := keptSum_le h1.2
    have h4 := h1.1
    show ((s.ls.b.length + keptSum s.ls.u : Nat) : Int) ≤ ((64 + 64 * N : Nat) : Int)
    omega
  · rintro s x ⟨h1, h2⟩
    refine ⟨?_, feedB_le (tailT N) x s.ls h2⟩
    show TOk N (if (feedB (tailT N) x s.ls).2.2 = 20 then [] else (feedB (tailT N) x s.ls).1.u)
    split
    · exact ⟨Nat.zero_le _, fun l hl => by cases hl⟩
    · exact tok_feed x s.ls h2 h1
  · rintro s ⟨h1, h2⟩
    refine ⟨tok_end h2 h1, ?_⟩
    show (endB (tailT N) s.ls).1.b.length ≤ 64
    unfold endB
    split <;> simp
  · rintro s ⟨h1, h2⟩
    obtain ⟨⟨live, fail, b, u⟩, p⟩ := s
    cases u with
    | nil => exact ⟨h1, h2⟩
    | cons l r => exact ⟨⟨by have := h1.1; simp at this; show r.length ≤ N; omega, fun y hy => h1.2 y (List.mem_cons_of_mem _ hy)⟩, h2⟩

end Go.Proofs.YthedfcdcocimbaaDoor
