/- What the laws' walks ask of head. -/
import Derived.Test.YthedfcdcocimbaaDoorHead
import Derived.Test.YthedfcdcocimbaaDoorGlaws
import Derived.Test.YthedfcdcocimbaaDoorIcheck
namespace Go.Proofs.YthedfcdcocimbaaDoor
open Go.RowKit

def headI (N : Nat) : LS Nat := headS N
def headF (_ : Nat) : Mach (LS Nat) := headMach
def headR (_ g : Nat) : LS Nat → (Nat → Prop) → World → Prop := headM.RepO g
theorem head_drives (N g : Nat) : ∃ fN fH fF fE fM rN rH rF rE rM, Driven (headF N) 0 (headR N g) 77 (.pointer (some ⟨g, 0, none⟩)) fN fH fF fE fM rN rH rF rE rM := ⟨_, _, _, _, _, _, _, _, _, _, head_driven g⟩
theorem head_needs (N : Nat) (s : LS Nat) : (headF N).need s = -1 ∨ (headF N).need s = -2 ∨ (headF N).need s = 0 := by
  show needOf s = -1 ∨ needOf s = -2 ∨ needOf s = 0
  unfold needOf
  split
  · exact .inr (.inr rfl)
  · exact .inl rfl
theorem head_no (k n : Int) (va vb : Value) (A B : List UInt8) (w : World) (hT : Pm.Tab w) (hA : Pm.IsBytes w va A) (hB : Pm.IsBytes w vb B) (hE : takeE 3 k n A B ≠ 0) :
    Calls Tryd.prog 21 #[Pm.parV k n va vb] w (Pm.Gives w (.tuple #[.nilIface, .int .i64 (takeE 3 k n A B)])) := headNew_no k n va vb A B w hT hA hB hE
theorem head_yes (k : Int) (n : Nat) (va vb : Value) (A B : List UInt8) (w : World) (hT : Pm.Tab w) (hA : Pm.IsBytes w va A) (hB : Pm.IsBytes w vb B) (hE : takeE 3 k n A B = 0) (hn : n ≤ 1000000000) :
    Calls Tryd.prog 21 #[Pm.parV k n va vb] w (MadeOf 77 (headR n) (headI n) w) :=
  (headNew_yes k n va vb A B w hT hA hB hE hn).mono fun _ _ ⟨g, he, hg, hR, hb⟩ => ⟨g, headM.own g noX, he, ⟨noX, hR, rfl⟩, fun k hk => by rcases hk with rfl | hk; exact hg; exact hk.elim, hb⟩
def headBound (_ : Nat) : Nat := 64
theorem head_fit {k n : Int} {A B : List UInt8} (h1 : Pm.checkE k n A B = 0) (hk : k = 3) : 0 ≤ n ∧ n ≤ 1000000000 ∧ A = [] ∧ B = [] ∧ takeE 3 k n A B = 0 ∧ Pm.insE k n A B = 1 ∧ Pm.boundE k n A B = headBound n.toNat := by
  subst hk
  have hi : Pm.insE 3 n A B = 1 := by rw [Pm.insE, if_pos h1]; rfl
  have hb : Pm.boundE 3 n A B = 64 := by rw [Pm.boundE, if_pos h1]; simp [Pm.kindOf, Pm.kinds]
  have hf : Pm.fits (Pm.kindOf 3) n A B = true := by
    have h1 := h1
    unfold Pm.checkE at h1
    rw [if_neg (by omega)] at h1
    by_cases hf : Pm.fits (Pm.kindOf 3) n A B = false
    · rw [show (3 : Int).toNat = 3 from rfl, if_pos hf] at h1
      cases h1
    · simpa using hf
  simp [Pm.fits, Pm.kindOf, Pm.kinds, Pm.mayBe] at hf
  obtain ⟨⟨q1, q2⟩, q3, q4⟩ := hf
  exact ⟨q1, q2, q3, q4, by rw [takeE, if_neg (by rw [h1]; simp), if_neg (by simp)], hi, hb⟩

/-! What comes of an input, whatever the chunks. -/
def headFin (N : Nat) (i : Strm) : Fin := ⟨putOuts (fun _ => []) (finalB headT (headS N) i.bytes i.ended).2.1, needOf (finalB headT (headS N) i.bytes i.ended).1, (finalB headT (headS N) i.bytes i.ended).2.2⟩
theorem head_drive (N : Nat) (i : Strm) (cuts : List Int) (_ : N ≤ 1000000000) (hl : i.bytes.length ≤ 4000) :
    (drive (headF N) [i] cuts 100000 0 (start (headF N) (headI N))).got.outs = (headFin N i).outs ∧ (drive (headF N) [i] cuts 100000 0 (start (headF N) (headI N))).got.need = (headFin N i).need ∧
    (drive (headF N) [i] cuts 100000 0 (start (headF N) (headI N))).got.err = (headFin N i).err := by
  obtain ⟨-, h2, h3, h4⟩ := drive_lines headT i cuts 100000 0 (start headMach (headS N)) rfl rfl (Nat.zero_le _) rfl (by show i.bytes.length - 0 + 2 ≤ 100000; omega)
  exact ⟨h2, h4, h3⟩
theorem head_ex : (headFin 2 exS).outs 0 = [97, 10, 98, 10] ∧ (headFin 2 exS).outs 1 = [] ∧ (headFin 2 exS).outs 2 = [] ∧ (headFin 2 exS).outs 3 = [] ∧ (headFin 2 exS).need = -1 ∧ (headFin 2 exS).err = 0 := ⟨rfl, rfl, rfl, rfl, rfl, rfl⟩
theorem drive_held {U : Type} (tell : Teller U) (ins : List Strm) (cuts : List Int) : ∀ (f n : Nat) (x : DS (LS U)), x.got.held ≤ 64 → x.s.b.length ≤ 64 → (drive (linesM tell) ins cuts f n x).got.held ≤ 64 ∧ (drive (linesM tell) ins cuts f n x).s.b.length ≤ 64 := by
  intro f
  induction f with
  | zero => intro n x h1 h2; exact ⟨h1, h2⟩
  | succ f ih =>
    intro n x h1 h2
    rw [drive]
    split
    · cases hs : step (linesM tell) ins cuts n x with
      | none => exact ⟨h1, h2⟩
      | some y =>
        have hy : y.got.held ≤ 64 ∧ y.s.b.length ≤ 64 := by
          have key : ∀ (x' : DS (LS U)) (r : LS U × Outs × Int), x'.got.held ≤ 64 → r.1.b.length ≤ 64 → (after (linesM tell) x' r).got.held ≤ 64 ∧ (after (linesM tell) x' r).s.b.length ≤ 64 := by
            intro x' r k1 k2
            refine ⟨?_, k2⟩
            show max x'.got.held (r.1.b.length : Int) ≤ 64
            omega
          unfold step at hs
          split at hs
          · cases hs; exact key x _ h1 h2
          · split at hs
            · cases hs
            · split at hs
              · cases hs
                exact key _ _ h1 (feedB_le tell _ _ h2)
              · split at hs
                · cases hs
                  refine key _ _ h1 ?_
                  show (endB tell x.s).1.b.length ≤ 64
                  unfold endB
                  split <;> simp
                · cases hs
        exact ih (n + 1) y hy.1 hy.2
    · exact ⟨h1, h2⟩

theorem head_held (N : Nat) (i : Strm) (cuts : List Int) : (drive (headF N) [i] cuts 100000 0 (start (headF N) (headI N))).got.held ≤ headBound N :=
  (drive_held headT [i] cuts 100000 0 (start headMach (headS N)) (by simp [start]) (by simp [start, headS])).1

end Go.Proofs.YthedfcdcocimbaaDoor
