/- Plainly: what a machine of one input comes to when it is driven, whatever the chunks; pieces too. -/
import Derived.Test.YtlflhjgfegflfaaDoorDlines
namespace Go.Proofs.YtlflhjgfegflfaaDoor

section
variable {S : Type} (M : Mach S)
/-- A machine to which chunks are as their bytes, one behind the other. -/
structure One : Prop where
  nil : ∀ s, M.need s = 0 → M.feed s [] = (s, [], 0)
  app : ∀ s x y, M.need s = 0 → M.feed s (x ++ y) = if M.need (M.feed s x).1 = 0 ∧ (M.feed s x).2.2 = 0 then ((M.feed (M.feed s x).1 y).1, (M.feed s x).2.1 ++ (M.feed (M.feed s x).1 y).2.1, (M.feed (M.feed s x).1 y).2.2) else M.feed s x
  fed : ∀ s x, M.need s = 0 → M.need (M.feed s x).1 = 0 ∨ M.need (M.feed s x).1 = -1
def moreAll : Nat → S × Outs × Int → S × Outs × Int
  | 0, r => r
  | k + 1, r => if r.2.2 = 0 ∧ M.need r.1 = -2 then moreAll k ((M.more r.1).1, r.2.1 ++ (M.more r.1).2.1, (M.more r.1).2.2) else r
theorem moreAll_acc : ∀ (k : Nat) (s : S) (o p : Outs) (e : Int), moreAll M k (s, o ++ p, e) = ((moreAll M k (s, p, e)).1, o ++ (moreAll M k (s, p, e)).2.1, (moreAll M k (s, p, e)).2.2)
  | 0, s, o, p, e => rfl
  | k + 1, s, o, p, e => by
    rw [moreAll, moreAll]
    simp only
    by_cases h : e = 0 ∧ M.need s = -2
    · rw [if_pos h, if_pos h, List.append_assoc, moreAll_acc k]
    · rw [if_neg h, if_neg h]
def finalM (K : Nat) (s : S) (x : List UInt8) (ended : Bool) : S × Outs × Int :=
  if M.need (M.feed s x).1 = 0 ∧ (M.feed s x).2.2 = 0 ∧ ended = true then moreAll M K ((M.fin (M.feed s x).1).1, (M.feed s x).2.1 ++ (M.fin (M.feed s x).1).2.1, (M.fin (M.feed s x).1).2.2) else M.feed s x
theorem finalM_nil (hO : One M) (K : Nat) (s : S) (h : M.need s = 0) : finalM M K s [] true = moreAll M K (M.fin s) ∧ finalM M K s [] false = (s, [], 0) := by
  unfold finalM
  rw [hO.nil s h]
  refine ⟨?_, by simp⟩
  rw [if_pos ⟨h, rfl, rfl⟩]
  simp
theorem finalM_app (hO : One M) (K : Nat) (s : S) (x y : List UInt8) (e : Bool) (h : M.need s = 0) (h1 : M.need (M.feed s x).1 = 0 ∧ (M.feed s x).2.2 = 0) :
    finalM M K s (x ++ y) e = ((finalM M K (M.feed s x).1 y e).1, (M.feed s x).2.1 ++ (finalM M K (M.feed s x).1 y e).2.1, (finalM M K (M.feed s x).1 y e).2.2) := by
  unfold finalM
  rw [hO.app s x y h, if_pos h1]
  simp only
  split
  · rw [List.append_assoc, moreAll_acc]
  · rfl
theorem finalM_stop (hO : One M) (K : Nat) (s : S) (x y : List UInt8) (e : Bool) (h : M.need s = 0) (h1 : ¬ (M.need (M.feed s x).1 = 0 ∧ (M.feed s x).2.2 = 0)) : finalM M K s (x ++ y) e = M.feed s x := by
  unfold finalM
  rw [hO.app s x y h, if_neg h1, if_neg (fun k => h1 ⟨k.1, k.2.1⟩)]

/-- It comes to an end within K pieces. -/
def Done (r : S × Outs × Int) : Prop := M.need r.1 = -1 ∨ r.2.2 ≠ 0
theorem drive_more (ins : List Strm) (cuts : List Int) : ∀ (K f n : Nat) (x : DS S), x.got.need = M.need x.s → K ≤ f → Done M (moreAll M K (x.s, [], x.got.err)) →
    (drive M ins cuts f n x).got.outs = putOuts x.got.outs (moreAll M K (x.s, [], x.got.err)).2.1 ∧ (drive M ins cuts f n x).got.err = (moreAll M K (x.s, [], x.got.err)).2.2 ∧ (drive M ins cuts f n x).got.need = M.need (moreAll M K (x.s, [], x.got.err)).1
  | 0, f, n, x, hn, hf, hd => by
    rw [drive_stop M ins cuts f n x (by rcases hd with h | h; exact fun k => k.2 (by rw [hn]; exact h); exact fun k => h k.1)]
    exact ⟨rfl, rfl, hn⟩
  | K + 1, f, n, x, hn, hf, hd => by
    rw [moreAll] at hd ⊢
    by_cases h : x.got.err = 0 ∧ M.need x.s = -2
    · rw [if_pos h] at hd ⊢
      obtain ⟨f, rfl⟩ : ∃ f', f = f' + 1 := ⟨f - 1, by omega⟩
      rw [drive, if_pos ⟨h.1, by rw [hn, h.2]; decide⟩]
      have hs : step M ins cuts n x = some (after M x (M.more x.s)) := by rw [step, if_pos (by rw [hn]; exact h.2)]
      rw [hs]
      simp only [List.nil_append] at hd ⊢
      have hacc := moreAll_acc M K (M.more x.s).1 (M.more x.s).2.1 [] (M.more x.s).2.2
      rw [List.append_nil] at hacc
      rw [hacc] at hd ⊢
      have := drive_more ins cuts K f (n + 1) (after M x (M.more x.s)) rfl (by omega) hd
      obtain ⟨h1, h2, h3⟩ := this
      refine ⟨?_, h2, h3⟩
      rw [h1, putOuts_append]
      rfl
    · rw [if_neg h] at hd ⊢
      rw [drive_stop M ins cuts f n x (by rcases hd with h | h; exact fun k => k.2 (by rw [hn]; exact h); exact fun k => h k.1)]
      exact ⟨rfl, rfl, hn⟩

theorem drive_one (hO : One M) (i : Strm) (cuts : List Int) (K : Nat) : ∀ (f n : Nat) (x : DS S), x.got.need = M.need x.s → M.need x.s = 0 → x.got.err = 0 → x.got.taken 0 ≤ i.bytes.length → x.told 0 = false → i.bytes.length - x.got.taken 0 + 2 + K ≤ f →
    (i.ended = true → Done M (finalM M K x.s (i.bytes.drop (x.got.taken 0)) true)) →
    (drive M [i] cuts f n x).got.outs = putOuts x.got.outs (finalM M K x.s (i.bytes.drop (x.got.taken 0)) i.ended).2.1 ∧ (drive M [i] cuts f n x).got.err = (finalM M K x.s (i.bytes.drop (x.got.taken 0)) i.ended).2.2 ∧
    (drive M [i] cuts f n x).got.need = M.need (finalM M K x.s (i.bytes.drop (x.got.taken 0)) i.ended).1 := by
  intro f
  induction f with
  | zero => intro n x _ _ _ _ _ h; omega
  | succ f ih =>
    intro n x hn hz he ht ho hf hd
    have hn0 : x.got.need = 0 := by rw [hn, hz]
    have hk : x.got.need.toNat = 0 := by rw [hn0]; rfl
    rw [drive, if_pos ⟨he, by rw [hn0]; decide⟩]
    by_cases hlt : x.got.taken 0 < i.bytes.length
    · have hs : step M [i] cuts n x = some (after M (took x 0 (toAt cuts x n 0 i.bytes)) (M.feed x.s (chunkAt cuts x n 0 i.bytes))) := by
        rw [step, if_neg (by rw [hn0]; decide), hk]
        simp only [List.getElem?_cons_zero]
        rw [if_pos hlt]
      rw [hs]
      simp only
      have hc := cutAt_le cuts n
      have hq1 : x.got.taken 0 < toAt cuts x n 0 i.bytes := by unfold toAt; omega
      have hq2 : toAt cuts x n 0 i.bytes ≤ i.bytes.length := by unfold toAt; omega
      have hch : chunkAt cuts x n 0 i.bytes = (i.bytes.take (toAt cuts x n 0 i.bytes)).drop (x.got.taken 0) := rfl
      generalize toAt cuts x n 0 i.bytes = q at hq1 hq2 hch ⊢
      generalize chunkAt cuts x n 0 i.bytes = ch at hch ⊢
      have hsplit : i.bytes.drop (x.got.taken 0) = ch ++ i.bytes.drop q := by
        rw [hch]
        have h1 := List.take_append_drop q i.bytes
        have h2 := congrArg (List.drop (x.got.taken 0)) h1
        rw [List.drop_append_of_le_length (by simp; omega)] at h2
        exact h2.symm
      rw [hsplit] at hd ⊢
      by_cases h1 : M.need (M.feed x.s ch).1 = 0 ∧ (M.feed x.s ch).2.2 = 0
      · rw [finalM_app M hO K x.s ch _ i.ended hz h1]
        have hd' : i.ended = true → Done M (finalM M K (M.feed x.s ch).1 (i.bytes.drop q) true) := by
          intro h
          have := hd h
          rw [finalM_app M hO K x.s ch _ true hz h1] at this
          exact this
        have := ih (n + 1) (after M (took x 0 q) (M.feed x.s ch)) rfl h1.1 h1.2 (by show q ≤ i.bytes.length; exact hq2) ho (by show i.bytes.length - q + 2 + K ≤ f; omega) hd'
        obtain ⟨g1, g2, g3⟩ := this
        refine ⟨?_, g2, g3⟩
        rw [g1, putOuts_append]
        rfl
      · rw [finalM_stop M hO K x.s ch _ i.ended hz h1]
        rw [drive_stop _ _ _ _ _ _ (by
          intro k
          have k1 : (M.feed x.s ch).2.2 = 0 := k.1
          have k2 : M.need (M.feed x.s ch).1 ≠ -1 := k.2
          rcases hO.fed x.s ch hz with h | h
          · exact h1 ⟨h, k1⟩
          · exact k2 h)]
        exact ⟨rfl, rfl, rfl⟩
    · have hdr : i.bytes.drop (x.got.taken 0) = [] := List.drop_of_length_le (by omega)
      rw [hdr] at hd ⊢
      by_cases hend : i.ended = true
      · have hs : step M [i] cuts n x = some (after M (tells x 0) (M.fin x.s)) := by
          rw [step, if_neg (by rw [hn0]; decide), hk]
          simp only [List.getElem?_cons_zero]
          rw [if_neg hlt, if_pos ⟨hend, ho⟩]
        rw [hs, hend]
        simp only
        have hd := hd hend
        rw [(finalM_nil M hO K x.s hz).1] at hd ⊢
        have hacc := moreAll_acc M K (M.fin x.s).1 (M.fin x.s).2.1 [] (M.fin x.s).2.2
        rw [List.append_nil] at hacc
        rw [show M.fin x.s = ((M.fin x.s).1, (M.fin x.s).2.1, (M.fin x.s).2.2) from rfl, hacc] at hd ⊢
        obtain ⟨g1, g2, g3⟩ := drive_more M [i] cuts K f (n + 1) (after M (tells x 0) (M.fin x.s)) rfl (by omega) hd
        refine ⟨?_, g2, g3⟩
        rw [g1, putOuts_append]
        rfl
      · have hs : step M [i] cuts n x = none := by
          rw [step, if_neg (by rw [hn0]; decide), hk]
          simp only [List.getElem?_cons_zero]
          rw [if_neg hlt, if_neg (fun h => hend h.1)]
        rw [hs]
        simp only
        have hf : i.ended = false := by simpa using hend
        rw [hf, (finalM_nil M hO K x.s hz).2]
        exact ⟨rfl, he, hn⟩

/-- What holds of its state behind each call bounds what it holds. -/
theorem drive_inv (P : S → Prop) (B : Int) (hB : ∀ s, P s → M.held s ≤ B) (h1 : ∀ s x, P s → P (M.feed s x).1) (h2 : ∀ s, P s → P (M.fin s).1) (h3 : ∀ s, P s → P (M.more s).1) (ins : List Strm) (cuts : List Int) :
    ∀ (f n : Nat) (x : DS S), P x.s → x.got.held ≤ B → P (drive M ins cuts f n x).s ∧ (drive M ins cuts f n x).got.held ≤ B := by
  intro f
  induction f with
  | zero => intro n x k1 k2; exact ⟨k1, k2⟩
  | succ f ih =>
    intro n x k1 k2
    rw [drive]
    split
    · cases hs : step M ins cuts n x with
      | none => exact ⟨k1, k2⟩
      | some y =>
        have hy : P y.s ∧ y.got.held ≤ B := by
          have key : ∀ (x' : DS S) (r : S × Outs × Int), x'.got.held ≤ B → P r.1 → P (after M x' r).s ∧ (after M x' r).got.held ≤ B := by
            intro x' r q1 q2
            refine ⟨q2, ?_⟩
            have := hB r.1 q2
            show max x'.got.held (M.held r.1) ≤ B
            omega
          unfold step at hs
          split at hs
          · cases hs; exact key x _ k2 (h3 _ k1)
          · split at hs
            · cases hs
            · split at hs
              · cases hs
                exact key _ _ k2 (h1 _ _ k1)
              · split at hs
                · cases hs
                  exact key _ _ k2 (h2 _ k1)
                · cases hs
        exact ih (n + 1) y hy.1 hy.2
    · exact ⟨k1, k2⟩
end

theorem enters_of {f : FuncId} {fn : Func} (h : Tryd.prog.funcs[f]? = some fn) (h1 : (fn.name == "runtime.NumGoroutine") = false) (h2 : fn.body.isNone = false) : Enters f := fun args w => by
  have h1' : ¬ fn.name = "runtime.NumGoroutine" := by simpa using h1
  have h2' : ¬ fn.body = none := by
    intro e
    rw [e] at h2
    cases h2
  simp [callFunc, go_sem, h, h1', h2']


end Go.Proofs.YtlflhjgfegflfaaDoor
