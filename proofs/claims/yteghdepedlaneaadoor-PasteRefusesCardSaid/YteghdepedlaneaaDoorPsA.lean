/- Plainly: what paste does with the lines that wait: step by step, a field is taken, or a row is told. -/
import Derived.Test.YteghdepedlaneaaDoorLB
import Derived.Lib.Join
import Derived.Test.YteghdepedlaneaaDoorDone
import Derived.Test.YteghdepedlaneaaDoorGrowm
namespace Go.Proofs.YteghdepedlaneaaDoor

/-- What waits of each input, which of them have ended, the row that is begun, and whether an input gave a line for it. -/
structure PT where
  W : Nat → Lines
  ov : Nat → Bool
  row : Lines
  given : Bool
def setAt {α : Type} (f : Nat → α) (i : Nat) (a : α) : Nat → α := fun j => if j = i then a else f j
theorem setAt_self {α : Type} (f : Nat → α) (i : Nat) (a : α) : setAt f i a i = a := if_pos rfl
theorem setAt_other {α : Type} (f : Nat → α) {i j : Nat} (a : α) (h : j ≠ i) : setAt f i a j = f j := if_neg h
def sumN (f : Nat → Nat) : Nat → Nat
  | 0 => 0
  | n + 1 => sumN f n + f n
theorem sumN_congr {f g : Nat → Nat} : ∀ n, (∀ j, j < n → f j = g j) → sumN f n = sumN g n
  | 0, _ => rfl
  | n + 1, h => by rw [sumN, sumN, sumN_congr n (fun j hj => h j (by omega)), h n (by omega)]
theorem sumN_le {f g : Nat → Nat} : ∀ n, (∀ j, j < n → f j ≤ g j) → sumN f n ≤ sumN g n
  | 0, _ => Nat.le_refl _
  | n + 1, h => by
    have h1 := sumN_le n (fun j hj => h j (by omega))
    have h2 := h n (by omega)
    rw [sumN, sumN]
    omega
theorem sumN_const (c : Nat) : ∀ n, sumN (fun _ => c) n = c * n
  | 0 => rfl
  | n + 1 => by rw [sumN, sumN_const c n, Nat.mul_succ]
theorem sumN_at {f g : Nat → Nat} {i : Nat} : ∀ n, i < n → (∀ j, j < n → j ≠ i → g j = f j) → sumN g n + f i = sumN f n + g i
  | 0, h, _ => absurd h (Nat.not_lt_zero _)
  | n + 1, h, hj => by
    rw [sumN, sumN]
    by_cases hi : i = n
    · subst hi
      have := sumN_congr (f := g) (g := f) i (fun j h => hj j (by omega) (by omega))
      omega
    · have h1 := sumN_at n (by omega) (fun j h h' => hj j (by omega) h')
      have h2 := hj n (by omega) (by omega)
      omega
theorem sumN_add (f g : Nat → Nat) : ∀ n, sumN (fun j => f j + g j) n = sumN f n + sumN g n
  | 0 => rfl
  | n + 1 => by simp only [sumN]; rw [sumN_add f g n]; omega

section
variable (N : Nat) (A : List UInt8)
/-- One step. None: an input must be read, or there is nothing more. -/
def micro (t : PT) : Option (Lines × PT) :=
  if t.row.length < N then
    match t.W t.row.length with
    | l :: r => some ([], ⟨setAt t.W t.row.length r, t.ov, t.row ++ [l], true⟩)
    | [] => if t.ov t.row.length = true then some ([], ⟨t.W, t.ov, t.row ++ [[]], t.given⟩) else none
  else if t.given = true then some ([Lib.join t.row A], ⟨t.W, t.ov, [], false⟩) else none
def runP : Nat → PT → Lines × PT
  | 0, t => ([], t)
  | k + 1, t => match micro N A t with
    | none => ([], t)
    | some (e, t') => (e ++ (runP k t').1, (runP k t').2)
def waitN (t : PT) : Nat := sumN (fun j => (t.W j).length) N
def muP (t : PT) : Nat := waitN N t + if t.given = true then 1 else 0
def leftP (t : PT) : Nat := muP N t * (N + 1) + (N - t.row.length)
def settle (t : PT) : Lines × PT := runP N A (leftP N t + 1) t
variable {N A}

inductive Micro (t : PT) : Lines → PT → Prop
  | take (l : List UInt8) (r : Lines) (hr : t.row.length < N) (hw : t.W t.row.length = l :: r) : Micro t [] ⟨setAt t.W t.row.length r, t.ov, t.row ++ [l], true⟩
  | over (hr : t.row.length < N) (hw : t.W t.row.length = []) (ho : t.ov t.row.length = true) : Micro t [] ⟨t.W, t.ov, t.row ++ [[]], t.given⟩
  | tell (hr : N ≤ t.row.length) (hg : t.given = true) : Micro t [Lib.join t.row A] ⟨t.W, t.ov, [], false⟩
inductive Stuck (t : PT) : Prop
  | waits (hr : t.row.length < N) (hw : t.W t.row.length = []) (ho : t.ov t.row.length = false) : Stuck t
  | ended (hr : N ≤ t.row.length) (hg : t.given = false) : Stuck t
theorem micro_some {t t' : PT} {e : Lines} (h : micro N A t = some (e, t')) : Micro (N := N) (A := A) t e t' := by
  unfold micro at h
  split at h
  · rename_i hr
    split at h
    · rename_i l r hw
      cases h
      exact .take l r hr hw
    · rename_i hw
      split at h
      · rename_i ho
        cases h
        exact .over hr hw ho
      · cases h
  · rename_i hr
    split at h
    · rename_i hg
      cases h
      exact .tell (by omega) hg
    · cases h
theorem micro_none {t : PT} (h : micro N A t = none) : Stuck (N := N) t := by
  unfold micro at h
  split at h
  · rename_i hr
    split at h
    · cases h
    · rename_i hw
      split at h
      · cases h
      · rename_i ho
        exact .waits hr hw (by simpa using ho)
  · rename_i hr
    split at h
    · cases h
    · rename_i hg
      exact .ended (by omega) (by simpa using hg)
theorem stuck_none {t : PT} (h : Stuck (N := N) t) : micro N A t = none := by
  unfold micro
  cases h with
  | waits hr hw ho => rw [if_pos hr, hw]; simp only; rw [if_neg (by rw [ho]; decide)]
  | ended hr hg => rw [if_neg (by omega), if_neg (by rw [hg]; decide)]
theorem micro_of {t t' : PT} {e : Lines} (h : Micro (N := N) (A := A) t e t') : micro N A t = some (e, t') := by
  unfold micro
  cases h with
  | take l r hr hw => rw [if_pos hr, hw]
  | over hr hw ho => rw [if_pos hr, hw]; simp only; rw [if_pos ho]
  | tell hr hg => rw [if_neg (by omega), if_pos hg]
theorem waitN_take {t : PT} {l : List UInt8} {r : Lines} (hr : t.row.length < N) (hw : t.W t.row.length = l :: r) (ov : Nat → Bool) (row : Lines) (g : Bool) : waitN N ⟨setAt t.W t.row.length r, ov, row, g⟩ + 1 = waitN N t := by
  have := sumN_at (f := fun j => (t.W j).length) (g := fun j => (setAt t.W t.row.length r j).length) N hr (fun j _ h => by rw [setAt_other _ _ h])
  simp only [setAt_self, hw, List.length_cons] at this
  unfold waitN
  simp only
  omega
theorem micro_mu {t t' : PT} {e : Lines} (h : Micro (N := N) (A := A) t e t') : muP N t' ≤ muP N t ∧ (e ≠ [] → muP N t' < muP N t) := by
  unfold muP
  cases h with
  | take l r hr hw =>
    have := waitN_take hr hw t.ov (t.row ++ [l]) true
    refine ⟨?_, fun h => absurd rfl h⟩
    rw [if_pos rfl]
    omega
  | over hr hw ho => exact ⟨Nat.le_refl _, fun h => absurd rfl h⟩
  | tell hr hg =>
    rw [if_pos hg]
    simp only [Bool.false_eq_true, if_false]
    exact ⟨by show waitN N t + 0 ≤ _; omega, fun _ => by show waitN N t + 0 < _; omega⟩
theorem micro_left {t t' : PT} {e : Lines} (h : Micro (N := N) (A := A) t e t') : leftP N t' < leftP N t := by
  have hm := micro_mu h
  unfold leftP
  have key : ∀ a b c d : Nat, a ≤ b → c < d → a * (N + 1) + c < b * (N + 1) + d := fun a b c d h1 h2 => by
    have := Nat.mul_le_mul_right (N + 1) h1
    omega
  cases h with
  | take l r hr hw => exact key _ _ _ _ hm.1 (by simp; omega)
  | over hr hw ho => exact key _ _ _ _ hm.1 (by simp; omega)
  | tell hr hg =>
    have h1 := hm.2 (by simp)
    have h2 : (muP N ⟨t.W, t.ov, [], false⟩ + 1) * (N + 1) ≤ muP N t * (N + 1) := Nat.mul_le_mul_right _ h1
    rw [Nat.succ_mul] at h2
    simp only [List.length_nil]
    omega
theorem runP_enough : ∀ (k : Nat) (t : PT), leftP N t < k → runP N A k t = settle N A t := by
  intro k
  induction k using Nat.strongRecOn with
  | _ k ih =>
    intro t h
    unfold settle
    obtain ⟨j, rfl⟩ : ∃ j, k = j + 1 := ⟨k - 1, by omega⟩
    rw [runP, runP]
    cases hm : micro N A t with
    | none => rfl
    | some p =>
      obtain ⟨e, t'⟩ := p
      have hl := micro_left (micro_some hm)
      simp only
      rw [ih j (by omega) t' (by omega)]
      by_cases hj : leftP N t < j + 1
      · have h2 : runP N A (leftP N t) t' = settle N A t' := by
          by_cases he : leftP N t = j
          · rw [he]; exact ih j (by omega) t' (by omega)
          · exact ih (leftP N t) (by omega) t' hl
        rw [h2]
      · omega
theorem settle_some {t t' : PT} {e : Lines} (h : Micro (N := N) (A := A) t e t') : settle N A t = (e ++ (settle N A t').1, (settle N A t').2) := by
  have hl := micro_left h
  rw [settle, runP, micro_of h]
  simp only
  rw [runP_enough _ t' hl]
theorem settle_none {t : PT} (h : Stuck (N := N) t) : settle N A t = ([], t) := by rw [settle, runP, stuck_none h]
/-- What holds of a step holds of all of them. -/
theorem settle_ind {P : PT → Lines × PT → Prop} (h0 : ∀ t, Stuck (N := N) t → P t ([], t)) (h1 : ∀ t e t' r, Micro (N := N) (A := A) t e t' → P t' r → P t (e ++ r.1, r.2)) : ∀ t, P t (settle N A t) := by
  intro t
  generalize hk : leftP N t = k
  induction k using Nat.strongRecOn generalizing t with
  | _ k ih =>
    cases hm : micro N A t with
    | none => rw [settle_none (micro_none hm)]; exact h0 t (micro_none hm)
    | some p =>
      obtain ⟨e, t'⟩ := p
      have hs := micro_some hm
      have hl := micro_left hs
      rw [settle_some hs]
      exact h1 t e t' _ hs (ih (leftP N t') (by omega) t' rfl)
theorem settle_stuck (t : PT) : Stuck (N := N) (settle N A t).2 := settle_ind (P := fun _ r => Stuck (N := N) r.2) (fun _ h => h) (fun _ _ _ _ _ h => h) t

/-! More of the inputs. -/
def extT (t : PT) (V : Nat → Lines) (o : Nat → Bool) : PT := ⟨fun j => t.W j ++ V j, fun j => t.ov j || o j, t.row, t.given⟩
theorem settle_ext (V : Nat → Lines) (o : Nat → Bool) (t : PT) (hV : ∀ j, t.ov j = true → V j = []) :
    settle N A (extT t V o) = ((settle N A t).1 ++ (settle N A (extT (settle N A t).2 V o)).1, (settle N A (extT (settle N A t).2 V o)).2) ∧ (settle N A t).2.ov = t.ov := by
  refine settle_ind (N := N) (A := A) (P := fun t r => (∀ j, t.ov j = true → V j = []) → settle N A (extT t V o) = (r.1 ++ (settle N A (extT r.2 V o)).1, (settle N A (extT r.2 V o)).2) ∧ r.2.ov = t.ov) (fun t _ _ => ⟨by simp, rfl⟩) (fun t e t' r hm ih hV => ?_) t hV
  have hov : t'.ov = t.ov := by cases hm <;> rfl
  obtain ⟨ih, ih2⟩ := ih (by rw [hov]; exact hV)
  refine ⟨?_, ih2.trans hov⟩
  have hx : Micro (N := N) (A := A) (extT t V o) e (extT t' V o) := by
    cases hm with
    | take l r hr hw =>
      have := Micro.take (N := N) (A := A) (t := extT t V o) l (r ++ V t.row.length) hr (by show t.W t.row.length ++ V t.row.length = _; rw [hw]; rfl)
      have he : (extT ⟨setAt t.W t.row.length r, t.ov, t.row ++ [l], true⟩ V o) = ⟨setAt (extT t V o).W (extT t V o).row.length (r ++ V t.row.length), (extT t V o).ov, (extT t V o).row ++ [l], true⟩ := by
        unfold extT
        simp only [PT.mk.injEq, and_self, and_true]
        funext j
        by_cases hj : j = t.row.length
        · subst hj; rw [setAt_self, setAt_self]
        · rw [setAt_other _ _ hj, setAt_other _ _ hj]
      rw [he]
      exact this
    | over hr hw ho =>
      exact Micro.over (N := N) (A := A) (t := extT t V o) hr (by show t.W t.row.length ++ V t.row.length = _; rw [hw, hV _ ho]; rfl) (by show (t.ov t.row.length || o t.row.length) = true; rw [ho]; rfl)
    | tell hr hg => exact Micro.tell (N := N) (A := A) (t := extT t V o) hr hg
  rw [settle_some hx, ih]
  simp only [List.append_assoc]
end

end Go.Proofs.YteghdepedlaneaaDoor

namespace Go.Proofs.YteghdepedlaneaaDoor

/-! What an input has told. -/
def rdW (i : Strm) : Lines := (readL i.bytes i.ended (i.code, i.stage, i.id)).1
def rdOv (i : Strm) : Bool := (readL i.bytes i.ended (i.code, i.stage, i.id)).2.1
def rdBad (i : Strm) : Bool := (cutL [] i.bytes).2.isNone
def noStrm : Strm := ⟨[], false, 0, 0, 0⟩
theorem rd_bad {i : Strm} {L : Lines} (h : cutL [] i.bytes = (L, none)) : rdW i = L ∧ rdOv i = false ∧ rdBad i = true := by
  unfold rdW rdOv rdBad readL
  rw [h]
  exact ⟨rfl, rfl, rfl⟩
theorem rd_open {i : Strm} {L : Lines} {d : List UInt8} (h : cutL [] i.bytes = (L, some d)) (he : i.ended = false) : rdW i = L ∧ rdOv i = false ∧ rdBad i = false := by
  unfold rdW rdOv rdBad readL
  rw [h, he]
  exact ⟨rfl, rfl, rfl⟩
theorem rd_ended {i : Strm} {L : Lines} {d : List UInt8} (h : cutL [] i.bytes = (L, some d)) (he : i.ended = true) : rdW i = L ++ (if d = [] then [] else [d]) ∧ rdOv i = true ∧ rdBad i = false := by
  unfold rdW rdOv rdBad readL
  rw [h, he]
  exact ⟨rfl, rfl, rfl⟩
/-- Of an input, and more of it. -/
structure RdMore (i i' : Strm) : Prop where
  W : ∃ V, rdW i' = rdW i ++ V
  ov : rdOv i = true → rdW i' = rdW i ∧ rdOv i' = true
  bad : rdBad i = true → rdW i' = rdW i ∧ rdOv i' = false ∧ rdBad i' = true
theorem RdMore.refl (i : Strm) : RdMore i i := ⟨⟨[], by simp⟩, fun h => ⟨rfl, h⟩, fun h => ⟨rfl, by
  unfold rdBad at h
  rcases hc : cutL [] i.bytes with ⟨L, _ | d⟩
  · exact ⟨(rd_bad hc).2.1, h⟩
  · rw [hc] at h; cases h⟩⟩
theorem rdMore_of (i : Strm) (y : List UInt8) (e : Bool) (c s d : Int) (he : i.ended = false) : RdMore i ⟨i.bytes ++ y, e, c, s, d⟩ := by
  have ha := cutL_append i.bytes y []
  rcases hc : cutL [] i.bytes with ⟨L, _ | b⟩
  · rw [hc] at ha
    simp only at ha
    obtain ⟨h1, h2, h3⟩ := rd_bad (i := ⟨i.bytes ++ y, e, c, s, d⟩) ha
    obtain ⟨k1, k2, k3⟩ := rd_bad hc
    exact ⟨⟨[], by rw [h1, k1]; simp⟩, fun h => (by rw [k2] at h; cases h), fun _ => ⟨by rw [h1, k1], h2, h3⟩⟩
  · rw [hc] at ha
    simp only at ha
    obtain ⟨k1, k2, k3⟩ := rd_open hc he
    refine ⟨?_, fun h => (by rw [k2] at h; cases h), fun h => (by rw [k3] at h; cases h)⟩
    rw [k1]
    rcases hc2 : cutL b y with ⟨L2, _ | b2⟩
    · rw [hc2] at ha
      exact ⟨L2, (rd_bad (i := ⟨i.bytes ++ y, e, c, s, d⟩) ha).1⟩
    · rw [hc2] at ha
      cases e with
      | false => exact ⟨L2, (rd_open (i := ⟨i.bytes ++ y, false, c, s, d⟩) ha rfl).1⟩
      | true => exact ⟨_, by rw [(rd_ended (i := ⟨i.bytes ++ y, true, c, s, d⟩) ha rfl).1, List.append_assoc]⟩
theorem RdMore.longer {i i' : Strm} (h : Longer i i') : RdMore i i' := by
  rcases h with rfl | ⟨he, y, e, rfl⟩
  · exact RdMore.refl _
  · exact rdMore_of i y e _ _ _ he

/-- The inputs, read whole. -/
def startT (f : Nat → Strm) : PT := ⟨fun j => rdW (f j), fun j => rdOv (f j), [], false⟩
def insF (ins : List Strm) : Nat → Strm := fun j => ins.getD j noStrm
theorem insF_at {ins : List Strm} {j : Nat} {i : Strm} (h : ins[j]? = some i) : insF ins j = i := by simp [insF, h]
/-- What comes of rows. -/
def rowsO (L : Lines) : Outs := if L = [] then [] else [(0, joinL L)]
theorem joinL_append (L M : Lines) : joinL (L ++ M) = joinL L ++ joinL M := by simp [joinL]
theorem putOuts_rows (L : Lines) (f : Nat → List UInt8) : putOuts f (rowsO L) = fun j => if j = 0 then f j ++ joinL L else f j := by
  funext j
  unfold rowsO
  by_cases h : L = []
  · subst h
    by_cases hj : j = 0 <;> simp [putOuts, joinL, hj]
  · by_cases hj : j = 0 <;> simp [putOuts, h, hj]
section
variable (N : Nat) (A : List UInt8)
def pasteNeed (t : PT) (f : Nat → Strm) : Int := if t.row.length < N then (if rdBad (f t.row.length) = true then -1 else (t.row.length : Int)) else -1
def pasteErr (t : PT) (f : Nat → Strm) : Int := if t.row.length < N ∧ rdBad (f t.row.length) = true then 20 else 0
def pasteFinF (f : Nat → Strm) : Fin := ⟨fun j => if j = 0 then joinL (settle N A (startT f)).1 else [], pasteNeed N (settle N A (startT f)).2 f, pasteErr N (settle N A (startT f)).2 f⟩
variable {N A}
theorem startT_ext {f f' : Nat → Strm} (h : ∀ j, RdMore (f j) (f' j)) : ∃ V o, startT f' = extT (startT f) V o ∧ (∀ j, rdW (f' j) = rdW (f j) ++ V j) ∧ (∀ j, rdOv (f' j) = (rdOv (f j) || o j)) ∧ ∀ j, (startT f).ov j = true → V j = [] := by
  refine ⟨fun j => (rdW (f' j)).drop (rdW (f j)).length, fun j => rdOv (f' j), ?_, ?_, ?_, ?_⟩
  · unfold startT extT
    simp only [PT.mk.injEq, and_true]
    refine ⟨?_, ?_⟩
    · funext j
      obtain ⟨V, hV⟩ := (h j).W
      rw [hV, List.drop_left]
    · funext j
      by_cases ho : rdOv (f j) = true
      · rw [((h j).ov ho).2, ho]; rfl
      · simp only [Bool.not_eq_true] at ho
        rw [ho]; rfl
  · intro j
    obtain ⟨V, hV⟩ := (h j).W
    simp only
    rw [hV, List.drop_left]
  · intro j
    by_cases ho : rdOv (f j) = true
    · simp only; rw [((h j).ov ho).2, ho]; rfl
    · simp only [Bool.not_eq_true] at ho
      simp only; rw [ho]; rfl
  · intro j ho
    simp only
    rw [((h j).ov ho).1]
    simp
/-- With more of the inputs: more rows; and where what the last row waits for is all that comes, none. -/
theorem pasteFin_more {f f' : Nat → Strm} (h : ∀ j, RdMore (f j) (f' j)) :
    (∃ r, joinL (settle N A (startT f')).1 = joinL (settle N A (startT f)).1 ++ r) ∧
    ((settle N A (startT f)).2.row.length < N → rdW (f' (settle N A (startT f)).2.row.length) = rdW (f (settle N A (startT f)).2.row.length) → rdOv (f' (settle N A (startT f)).2.row.length) = false → (settle N A (startT f')).1 = (settle N A (startT f)).1 ∧ (settle N A (startT f')).2.row = (settle N A (startT f)).2.row) ∧
    (N ≤ (settle N A (startT f)).2.row.length → (settle N A (startT f')).1 = (settle N A (startT f)).1 ∧ (settle N A (startT f')).2.row = (settle N A (startT f)).2.row) := by
  obtain ⟨V, o, he, hW, hov, hV⟩ := startT_ext h
  obtain ⟨h1, h2⟩ := settle_ext (N := N) (A := A) V o (startT f) hV
  have hst := settle_stuck (N := N) (A := A) (startT f)
  rw [he, h1]
  generalize settle N A (startT f) = R at h2 hst ⊢
  obtain ⟨R1, R2⟩ := R
  simp only at h2 hst ⊢
  refine ⟨⟨_, joinL_append _ _⟩, fun hr hw ho => ?_, fun hr => ?_⟩
  · have hs : Stuck (N := N) (extT R2 V o) := by
      cases hst with
      | waits k1 k2 k3 =>
        have hv : V R2.row.length = [] := by
          have := hW R2.row.length
          rw [hw] at this
          simpa using this
        refine .waits k1 (by show R2.W R2.row.length ++ V R2.row.length = []; rw [k2, hv]; rfl) (by
          show (R2.ov R2.row.length || o R2.row.length) = false
          have := hov R2.row.length
          rw [ho] at this
          rw [k3]
          cases hoo : o R2.row.length with
          | false => rfl
          | true => rw [hoo] at this; simp at this)
      | ended k1 k2 => omega
    rw [settle_none hs]
    exact ⟨by simp, rfl⟩
  · have hs : Stuck (N := N) (extT R2 V o) := by
      cases hst with
      | waits k1 k2 k3 => omega
      | ended k1 k2 => exact .ended k1 k2
    rw [settle_none hs]
    exact ⟨by simp, rfl⟩
theorem pasteFinF_grows {f f' : Nat → Strm} (h : ∀ j, RdMore (f j) (f' j)) : GrowsTo (pasteFinF N A f) (pasteFinF N A f') := by
  obtain ⟨⟨r, hr⟩, hw, he⟩ := pasteFin_more (N := N) (A := A) h
  refine ⟨fun j => ?_, fun hn => ?_⟩
  · unfold pasteFinF
    by_cases hj : j = 0
    · exact ⟨r, by simp only [if_pos hj]; exact hr⟩
    · exact ⟨[], by simp [hj]⟩
  · have hn' : pasteNeed N (settle N A (startT f)).2 f = -1 := hn
    unfold pasteNeed at hn'
    by_cases hl : (settle N A (startT f)).2.row.length < N
    · rw [if_pos hl] at hn'
      by_cases hb : rdBad (f (settle N A (startT f)).2.row.length) = true
      · obtain ⟨b1, b2, b3⟩ := (h _).bad hb
        obtain ⟨e1, e2⟩ := hw hl b1 b2
        unfold pasteFinF pasteNeed pasteErr
        simp only
        rw [e1, e2, if_pos hl, if_pos b3, if_pos ⟨hl, b3⟩, if_pos ⟨hl, hb⟩]
        exact ⟨rfl, rfl, rfl⟩
      · rw [if_neg hb] at hn'
        omega
    · obtain ⟨e1, e2⟩ := he (by omega)
      unfold pasteFinF pasteNeed pasteErr
      simp only
      rw [e1, e2, if_neg hl, if_neg (fun h => hl h.1), if_neg (fun h => hl h.1)]
      exact ⟨rfl, rfl, rfl⟩
end

/-! The machine. -/
structure PS where
  need : Int
  b : Nat → List UInt8
  t : PT
def deadP : PS := ⟨-1, fun _ => [], ⟨fun _ => [], fun _ => false, [], false⟩⟩
def freshP : PS := ⟨0, fun _ => [], ⟨fun _ => [], fun _ => false, [], false⟩⟩
def oneV (i : Nat) (L : Lines) : Nat → Lines := fun j => if j = i then L else []
def oneO (i : Nat) (o : Bool) : Nat → Bool := fun j => if j = i then o else false
section
variable (N : Nat) (A : List UInt8)
def settledP (b : Nat → List UInt8) (t : PT) : PS := if t.row.length < N then ⟨t.row.length, b, t⟩ else deadP
def heldP (s : PS) : Nat := sumN (fun j => (s.b j).length + ((s.t.W j).map List.length).sum) N + (Lib.join s.t.row A).length
/-- What comes of lines that come. -/
def comesP (b : Nat → List UInt8) (t : PT) : PS × Outs × Int := (settledP N b (settle N A t).2, rowsO (settle N A t).1, 0)
def pasteMach : Mach PS where
  need s := s.need
  held s := heldP N A s
  feed s x := match cutL (s.b s.need.toNat) x with
    | (_, none) => (deadP, [], 20)
    | (L, some d) => comesP N A (setAt s.b s.need.toNat d) (extT s.t (oneV s.need.toNat L) (fun _ => false))
  fin s := comesP N A (setAt s.b s.need.toNat []) (extT s.t (oneV s.need.toNat (if s.b s.need.toNat = [] then [] else [s.b s.need.toNat])) (oneO s.need.toNat true))
  more s := (s, [], 0)
end

end Go.Proofs.YteghdepedlaneaaDoor

namespace Go.Proofs.YteghdepedlaneaaDoor

theorem cutL_none : ∀ (x b : List UInt8), (cutL b x).2 = none → 65 ≤ b.length + x.length
  | [], b, h => by simp [cutL] at h
  | c :: r, b, h => by
    by_cases hc : c = 10
    · subst hc
      rw [cutL_end] at h
      have := cutL_none r [] h
      simp only [List.length_nil, List.length_cons] at this ⊢
      omega
    · by_cases h64 : b.length = 64
      · simp only [List.length_cons]; omega
      · rw [cutL_put b r c hc h64] at h
        have := cutL_none r (b ++ [c]) h
        simp only [List.length_append, List.length_cons, List.length_nil] at this ⊢
        omega
/-- A short chunk fails ahead of any end of a line. -/
theorem cutL_short : ∀ (x b : List UInt8), (cutL b x).2 = none → x.length ≤ 64 → (cutL b x).1 = []
  | [], b, h, _ => rfl
  | c :: r, b, h, hl => by
    by_cases hc : c = 10
    · subst hc
      rw [cutL_end] at h
      have := cutL_none r [] h
      simp only [List.length_nil, List.length_cons] at this hl
      omega
    · by_cases h64 : b.length = 64
      · rw [cutL_long b r c hc h64]
      · rw [cutL_put b r c hc h64] at h ⊢
        exact cutL_short r (b ++ [c]) h (by simp only [List.length_cons] at hl; omega)

section
variable {N : Nat} {A : List UInt8} {ins : List Strm}
/-- What has been told of an input. -/
def seenF (ins : List Strm) (taken : Nat → Nat) (told : Nat → Bool) : Nat → Strm := fun j => ⟨(insF ins j).bytes.take (taken j), told j, (insF ins j).code, (insF ins j).stage, (insF ins j).id⟩
structure PasteAt (N : Nat) (A : List UInt8) (ins : List Strm) (x : DS PS) : Prop where
  err : x.got.err = 0
  need : x.got.need = x.s.need
  live : ∀ j, ∃ L d, cutL [] ((insF ins j).bytes.take (x.got.taken j)) = (L, some d) ∧ (x.s.need ≠ -1 → x.told j = false → x.s.b j = d)
  told : ∀ j, x.told j = true → x.got.taken j = (insF ins j).bytes.length ∧ (insF ins j).ended = true
  le : ∀ j, x.got.taken j ≤ (insF ins j).bytes.length
  outs : x.got.outs = fun j => if j = 0 then joinL (settle N A (startT (seenF ins x.got.taken x.told))).1 else []
  now : (settle N A (startT (seenF ins x.got.taken x.told))).2.row.length < N → x.s.need = ((settle N A (startT (seenF ins x.got.taken x.told))).2.row.length : Nat) ∧ x.s.t = (settle N A (startT (seenF ins x.got.taken x.told))).2
  over : N ≤ (settle N A (startT (seenF ins x.got.taken x.told))).2.row.length → x.s.need = -1
theorem PasteAt.more {x : DS PS} (h : PasteAt N A ins x) (j : Nat) : RdMore (seenF ins x.got.taken x.told j) (insF ins j) := by
  cases ht : x.told j with
  | true =>
    obtain ⟨h1, h2⟩ := h.told j ht
    have : seenF ins x.got.taken x.told j = insF ins j := by
      unfold seenF
      rw [h1, List.take_length, ht, ← h2]
    rw [this]
    exact RdMore.refl _
  | false =>
    have := rdMore_of (seenF ins x.got.taken x.told j) ((insF ins j).bytes.drop (x.got.taken j)) (insF ins j).ended (insF ins j).code (insF ins j).stage (insF ins j).id ht
    have he : (⟨(seenF ins x.got.taken x.told j).bytes ++ (insF ins j).bytes.drop (x.got.taken j), (insF ins j).ended, (insF ins j).code, (insF ins j).stage, (insF ins j).id⟩ : Strm) = insF ins j := by
      show (⟨(insF ins j).bytes.take (x.got.taken j) ++ (insF ins j).bytes.drop (x.got.taken j), _, _, _, _⟩ : Strm) = _
      rw [List.take_append_drop]
    rw [he] at this
    exact this
/-- The next state, of what comes. -/
theorem PasteAt.comes {x y : DS PS} (h : PasteAt N A ins x) (i : Nat) (L : Lines) (o : Bool) (b : List UInt8) (hi : x.s.need = (i : Nat)) (hlt : (settle N A (startT (seenF ins x.got.taken x.told))).2.row.length < N)
    (hT : startT (seenF ins y.got.taken y.told) = extT (startT (seenF ins x.got.taken x.told)) (oneV i L) (oneO i o)) (hS : y.s = (comesP N A (setAt x.s.b i b) (extT x.s.t (oneV i L) (oneO i o))).1)
    (ho : y.got.outs = putOuts x.got.outs (comesP N A (setAt x.s.b i b) (extT x.s.t (oneV i L) (oneO i o))).2.1) (hn : y.got.need = y.s.need) (he : y.got.err = 0)
    (h1 : ∀ j, ∃ L d, cutL [] ((insF ins j).bytes.take (y.got.taken j)) = (L, some d) ∧ (y.told j = false → (setAt x.s.b i b) j = d)) (h2 : ∀ j, y.told j = true → y.got.taken j = (insF ins j).bytes.length ∧ (insF ins j).ended = true)
    (h3 : ∀ j, y.got.taken j ≤ (insF ins j).bytes.length) : PasteAt N A ins y := by
  obtain ⟨n1, n2⟩ := h.now hlt
  have hst := settle_stuck (N := N) (A := A) (startT (seenF ins x.got.taken x.told))
  have hov := (settle_ext (N := N) (A := A) (fun _ => []) (fun _ => false) (startT (seenF ins x.got.taken x.told)) (fun _ _ => rfl)).2
  have hrow : (settle N A (startT (seenF ins x.got.taken x.told))).2.row.length = i := by rw [n1] at hi; omega
  obtain ⟨hx, -⟩ := settle_ext (N := N) (A := A) (oneV i L) (oneO i o) (startT (seenF ins x.got.taken x.told)) (fun j hj => by
    unfold oneV
    by_cases hji : j = i
    · exfalso
      cases hst with
      | waits k1 k2 k3 => rw [hov, hrow, ← hji, hj] at k3; cases k3
      | ended k1 k2 => omega
    · rw [if_neg hji])
  rw [← hT, ← n2] at hx
  refine ⟨he, hn, fun j => ?_, h2, h3, ?_, fun hl => ?_, fun hl => ?_⟩
  · obtain ⟨L1, d, h4, h5⟩ := h1 j
    refine ⟨L1, d, h4, fun hne ht => ?_⟩
    rw [hS] at hne ⊢
    show (settledP N _ _).b j = d
    have hne : (settledP N (setAt x.s.b i b) (settle N A (extT x.s.t (oneV i L) (oneO i o))).2).need ≠ -1 := hne
    unfold settledP at hne ⊢
    split
    · exact h5 ht
    · rename_i hx2
      rw [if_neg hx2] at hne
      exact absurd rfl hne
  · rw [ho, h.outs, show (comesP N A (setAt x.s.b i b) (extT x.s.t (oneV i L) (oneO i o))).2.1 = rowsO (settle N A (extT x.s.t (oneV i L) (oneO i o))).1 from rfl, putOuts_rows, hx]
    funext j
    by_cases hj : j = 0
    · simp only [if_pos hj, joinL_append]
    · simp only [if_neg hj]
  · rw [hx] at hl ⊢
    rw [hS]
    show (settledP N _ (settle N A (extT x.s.t (oneV i L) (oneO i o))).2).need = _ ∧ (settledP N _ (settle N A (extT x.s.t (oneV i L) (oneO i o))).2).t = _
    unfold settledP
    rw [if_pos hl]
    exact ⟨rfl, rfl⟩
  · rw [hx] at hl
    rw [hS]
    show (settledP N _ (settle N A (extT x.s.t (oneV i L) (oneO i o))).2).need = _
    unfold settledP
    rw [if_neg (by simp only at hl; omega)]
    rfl

def leftD (N : Nat) (ins : List Strm) (x : DS PS) : Nat := sumN (fun j => (insF ins j).bytes.length - x.got.taken j + if x.told j = true then 0 else 1) N
theorem leftD_less {x y : DS PS} {i : Nat} (hi : i < N) (h1 : ∀ j, j ≠ i → y.got.taken j = x.got.taken j ∧ y.told j = x.told j)
    (h2 : ((insF ins i).bytes.length - y.got.taken i + if y.told i = true then 0 else 1) < ((insF ins i).bytes.length - x.got.taken i + if x.told i = true then 0 else 1)) : leftD N ins y < leftD N ins x := by
  have := sumN_at (f := fun j => (insF ins j).bytes.length - x.got.taken j + if x.told j = true then 0 else 1) (g := fun j => (insF ins j).bytes.length - y.got.taken j + if y.told j = true then 0 else 1) N hi (fun j _ hj => by
    obtain ⟨a, b⟩ := h1 j hj
    rw [a, b])
  unfold leftD
  omega
theorem take_chunk (l : List UInt8) (a q : Nat) (h : a ≤ q) : l.take q = l.take a ++ (l.take q).drop a := by
  have h1 := List.take_append_drop a (l.take q)
  rw [List.take_take, Nat.min_eq_left h] at h1
  exact h1.symm
theorem chunk_le (cuts : List Int) (x : DS PS) (n k : Nat) (b : List UInt8) : (chunkAt cuts x n k b).length ≤ 32 := by
  have hc := cutAt_le cuts n
  unfold chunkAt toAt
  simp only [List.length_drop, List.length_take]
  omega

theorem paste_drive_to (cuts : List Int) (hN : ins.length = N) : ∀ (f n : Nat) (x : DS PS), PasteAt N A ins x → leftD N ins x < f →
    (drive (pasteMach N A) ins cuts f n x).got.outs = (pasteFinF N A (insF ins)).outs ∧ (drive (pasteMach N A) ins cuts f n x).got.need = (pasteFinF N A (insF ins)).need ∧ (drive (pasteMach N A) ins cuts f n x).got.err = (pasteFinF N A (insF ins)).err := by
  intro f
  induction f with
  | zero => intro n x _ h; omega
  | succ f ih =>
    intro n x h hf
    obtain ⟨-, hw, he⟩ := pasteFin_more (N := N) (A := A) h.more
    by_cases hlt : (settle N A (startT (seenF ins x.got.taken x.told))).2.row.length < N
    · obtain ⟨n1, n2⟩ := h.now hlt
      have hst := settle_stuck (N := N) (A := A) (startT (seenF ins x.got.taken x.told))
      have hov := (settle_ext (N := N) (A := A) (fun _ => []) (fun _ => false) (startT (seenF ins x.got.taken x.told)) (fun _ _ => rfl)).2
      obtain ⟨i, hi⟩ : ∃ i, i = (settle N A (startT (seenF ins x.got.taken x.told))).2.row.length := ⟨_, rfl⟩
      have hov2 : rdOv (seenF ins x.got.taken x.told i) = false := by
        cases hst with
        | waits k1 k2 k3 => rw [hov, ← hi] at k3; exact k3
        | ended k1 k2 => omega
      rw [← hi] at n1 hlt hw
      obtain ⟨L, d, hcut, hb⟩ := h.live i
      have htold : x.told i = false := by
        cases ht : x.told i with
        | false => rfl
        | true =>
          have := (rd_ended (i := seenF ins x.got.taken x.told i) hcut ht).2.1
          rw [hov2] at this
          cases this
      have hn1 : x.s.need ≠ -1 := by rw [n1]; omega
      have hbi := hb hn1 htold
      obtain ⟨k1, -, -⟩ := rd_open (i := seenF ins x.got.taken x.told i) hcut htold
      have hne : x.got.need = (i : Nat) := by rw [h.need, n1]
      have hk : x.got.need.toNat = i := by rw [hne]; rfl
      have hsk : x.s.need.toNat = i := by rw [n1]; rfl
      obtain ⟨inp, hinp⟩ : ∃ inp, ins[i]? = some inp := ⟨ins[i]'(by omega), List.getElem?_eq_getElem (by omega)⟩
      have hF := insF_at hinp
      have hle := h.le i
      rw [drive, if_pos ⟨h.err, by rw [hne]; omega⟩]
      rw [hF] at hcut hle
      by_cases hmore : x.got.taken i < inp.bytes.length
      · have hs : step (pasteMach N A) ins cuts n x = some (after (pasteMach N A) (took x i (toAt cuts x n i inp.bytes)) ((pasteMach N A).feed x.s (chunkAt cuts x n i inp.bytes))) := by
          rw [step, if_neg (by rw [hne]; omega), hk, hinp]
          simp only
          rw [if_pos hmore]
        rw [hs]
        simp only
        have hc := cutAt_le cuts n
        have hq1 : x.got.taken i < toAt cuts x n i inp.bytes := by unfold toAt; omega
        have hq2 : toAt cuts x n i inp.bytes ≤ inp.bytes.length := by unfold toAt; omega
        have hcl := chunk_le cuts x n i inp.bytes
        have hch : inp.bytes.take (toAt cuts x n i inp.bytes) = inp.bytes.take (x.got.taken i) ++ chunkAt cuts x n i inp.bytes := take_chunk _ _ _ (by omega)
        generalize toAt cuts x n i inp.bytes = q at hq1 hq2 hch ⊢
        generalize chunkAt cuts x n i inp.bytes = ch at hcl hch ⊢
        have happ := cutL_append (inp.bytes.take (x.got.taken i)) ch []
        rw [← hch, hcut] at happ
        simp only at happ
        have hfeed : (pasteMach N A).feed x.s ch = match cutL d ch with
            | (_, none) => (deadP, [], 20)
            | (L, some d) => comesP N A (setAt x.s.b i d) (extT x.s.t (oneV i L) (fun _ => false)) := by
          show (match cutL (x.s.b x.s.need.toNat) ch with
            | (_, none) => (deadP, [], 20)
            | (L, some d) => comesP N A (setAt x.s.b x.s.need.toNat d) (extT x.s.t (oneV x.s.need.toNat L) (fun _ => false))) = _
          rw [hsk, hbi]
        rcases hcc : cutL d ch with ⟨L2, _ | d2⟩
        · rw [hcc] at happ hfeed
          have hL2 : L2 = [] := by
            have := cutL_short ch d (by rw [hcc]) (by omega)
            rw [hcc] at this
            exact this
          subst hL2
          simp only at happ hfeed
          rw [List.append_nil] at happ
          have hall := cutL_append (inp.bytes.take q) (inp.bytes.drop q) []
          rw [List.take_append_drop, happ] at hall
          simp only at hall
          obtain ⟨b1, b2, b3⟩ := rd_bad hall
          rw [← hF] at b1 b2 b3
          obtain ⟨e1, e2⟩ := hw hlt (by rw [b1, k1]) b2
          rw [hfeed, drive_stop _ _ _ _ _ _ (fun k => by have : (20 : Int) = 0 := k.1; cases this)]
          unfold pasteFinF pasteNeed pasteErr
          rw [e1, e2, ← hi, if_pos hlt, if_pos b3, if_pos ⟨hlt, b3⟩]
          exact ⟨h.outs, rfl, rfl⟩
        · rw [hcc] at happ hfeed
          simp only at happ hfeed
          have hone : (fun _ => false : Nat → Bool) = oneO i false := by funext j; unfold oneO; split <;> rfl
          rw [hone] at hfeed
          have hseen : ∀ j, j ≠ i → seenF ins (took x i q).got.taken x.told j = seenF ins x.got.taken x.told j := fun j hj => by
            unfold seenF took
            simp only
            rw [if_neg hj]
          have hself : (took x i q).got.taken i = q := if_pos rfl
          refine ih (n + 1) _ (h.comes (y := after (pasteMach N A) (took x i q) ((pasteMach N A).feed x.s ch)) i L2 false d2 n1 (by rw [← hi]; exact hlt) ?_ (by rw [hfeed]; rfl) (by rw [hfeed]; rfl) rfl (by rw [hfeed]; rfl) (fun j => ?_) (fun j hj => ?_) (fun j => ?_)) ?_
          · show startT (seenF ins (took x i q).got.taken x.told) = _
            unfold startT extT
            simp only [PT.mk.injEq, and_true]
            refine ⟨?_, ?_⟩
            · funext j
              by_cases hj : j = i
              · subst hj
                obtain ⟨c1, -, -⟩ := rd_open (i := seenF ins (took x j q).got.taken x.told j) (L := L ++ L2) (d := d2) (by show cutL [] ((insF ins j).bytes.take ((took x j q).got.taken j)) = _; rw [hself, hF]; exact happ) htold
                rw [c1, k1]
                unfold oneV
                rw [if_pos rfl]
              · rw [hseen j hj]
                unfold oneV
                rw [if_neg hj, List.append_nil]
            · funext j
              by_cases hj : j = i
              · subst hj
                obtain ⟨-, c2, -⟩ := rd_open (i := seenF ins (took x j q).got.taken x.told j) (L := L ++ L2) (d := d2) (by show cutL [] ((insF ins j).bytes.take ((took x j q).got.taken j)) = _; rw [hself, hF]; exact happ) htold
                rw [c2, hov2]
                unfold oneO
                rw [if_pos rfl]
                rfl
              · rw [hseen j hj]
                unfold oneO
                rw [if_neg hj, Bool.or_false]
          · show ∃ L d, cutL [] ((insF ins j).bytes.take ((took x i q).got.taken j)) = (L, some d) ∧ (x.told j = false → setAt x.s.b i d2 j = d)
            by_cases hj : j = i
            · subst hj
              exact ⟨_, _, by rw [hself, hF]; exact happ, fun _ => setAt_self _ _ _⟩
            · have ht : (took x i q).got.taken j = x.got.taken j := if_neg hj
              rw [ht, setAt_other _ _ hj]
              obtain ⟨L9, d9, k8, k9⟩ := h.live j
              exact ⟨L9, d9, k8, k9 hn1⟩
          · have hj' : x.told j = true := hj
            have hji : j ≠ i := fun e => by rw [e, htold] at hj'; cases hj'
            have ht : (took x i q).got.taken j = x.got.taken j := if_neg hji
            show (took x i q).got.taken j = _ ∧ _
            rw [ht]
            exact h.told j hj'
          · show (took x i q).got.taken j ≤ _
            by_cases hj : j = i
            · subst hj
              rw [hself, hF]; exact hq2
            · have ht : (took x i q).got.taken j = x.got.taken j := if_neg hj
              rw [ht]; exact h.le j
          · refine Nat.lt_of_lt_of_le (leftD_less (x := x) (i := i) hlt (fun j hj => ⟨if_neg hj, rfl⟩) ?_) (by omega)
            show ((insF ins i).bytes.length - (took x i q).got.taken i + if x.told i = true then 0 else 1) < _
            rw [hself, hF]
            omega
      · have hfull : x.got.taken i = inp.bytes.length := by omega
        rw [hfull, List.take_length] at hcut
        by_cases hend : inp.ended = true
        · have hs : step (pasteMach N A) ins cuts n x = some (after (pasteMach N A) (tells x i) ((pasteMach N A).fin x.s)) := by
            rw [step, if_neg (by rw [hne]; omega), hk, hinp]
            simp only
            rw [if_neg hmore, if_pos ⟨hend, htold⟩]
          rw [hs]
          simp only
          have hfin : (pasteMach N A).fin x.s = comesP N A (setAt x.s.b i []) (extT x.s.t (oneV i (if d = [] then [] else [d])) (oneO i true)) := by
            show comesP N A (setAt x.s.b x.s.need.toNat []) (extT x.s.t (oneV x.s.need.toNat (if x.s.b x.s.need.toNat = [] then [] else [x.s.b x.s.need.toNat])) (oneO x.s.need.toNat true)) = _
            rw [hsk, hbi]
          have hself : (tells x i).told i = true := if_pos rfl
          have hseen : ∀ j, j ≠ i → seenF ins x.got.taken (tells x i).told j = seenF ins x.got.taken x.told j := fun j hj => by
            unfold seenF tells
            simp only
            rw [if_neg hj]
          refine ih (n + 1) _ (h.comes (y := after (pasteMach N A) (tells x i) ((pasteMach N A).fin x.s)) i (if d = [] then [] else [d]) true [] n1 (by rw [← hi]; exact hlt) ?_ (by rw [hfin]; rfl) (by rw [hfin]; rfl) rfl (by rw [hfin]; rfl) (fun j => ?_) (fun j hj => ?_) (fun j => h.le j)) ?_
          · show startT (seenF ins x.got.taken (tells x i).told) = _
            unfold startT extT
            simp only [PT.mk.injEq, and_true]
            have hE : ∀ j, j = i → rdW (seenF ins x.got.taken (tells x i).told j) = L ++ (if d = [] then [] else [d]) ∧ rdOv (seenF ins x.got.taken (tells x i).told j) = true := fun j hj => by
              subst hj
              obtain ⟨c1, c2, -⟩ := rd_ended (i := seenF ins x.got.taken (tells x j).told j) (L := L) (d := d) (by show cutL [] ((insF ins j).bytes.take (x.got.taken j)) = _; rw [hF, hfull, List.take_length]; exact hcut) hself
              exact ⟨c1, c2⟩
            refine ⟨?_, ?_⟩
            · funext j
              by_cases hj : j = i
              · rw [(hE j hj).1, hj, k1]
                unfold oneV
                rw [if_pos rfl]
              · rw [hseen j hj]
                unfold oneV
                rw [if_neg hj, List.append_nil]
            · funext j
              by_cases hj : j = i
              · rw [(hE j hj).2, hj]
                unfold oneO
                rw [if_pos rfl, Bool.or_true]
              · rw [hseen j hj]
                unfold oneO
                rw [if_neg hj, Bool.or_false]
          · show ∃ L d, cutL [] ((insF ins j).bytes.take (x.got.taken j)) = (L, some d) ∧ ((tells x i).told j = false → setAt x.s.b i [] j = d)
            by_cases hj : j = i
            · subst hj
              exact ⟨_, _, by rw [hF, hfull, List.take_length]; exact hcut, fun hh => by rw [hself] at hh; cases hh⟩
            · have ht : (tells x i).told j = x.told j := if_neg hj
              rw [ht, setAt_other _ _ hj]
              obtain ⟨L9, d9, k8, k9⟩ := h.live j
              exact ⟨L9, d9, k8, k9 hn1⟩
          · show x.got.taken j = _ ∧ _
            by_cases hji : j = i
            · subst hji
              rw [hF]
              exact ⟨hfull, hend⟩
            · have ht : (tells x i).told j = x.told j := if_neg hji
              have hj' : (tells x i).told j = true := hj
              rw [ht] at hj'
              exact h.told j hj'
          · refine Nat.lt_of_lt_of_le (leftD_less (x := x) (i := i) hlt (fun j hj => ⟨rfl, if_neg hj⟩) ?_) (by omega)
            show ((insF ins i).bytes.length - x.got.taken i + if (tells x i).told i = true then 0 else 1) < _
            rw [hself, htold]
            simp
        · have hs : step (pasteMach N A) ins cuts n x = none := by
            rw [step, if_neg (by rw [hne]; omega), hk, hinp]
            simp only
            rw [if_neg hmore, if_neg (fun k => hend k.1)]
          rw [hs]
          simp only
          have hend' : inp.ended = false := by simpa using hend
          obtain ⟨c1, c2, c3⟩ := rd_open hcut hend'
          rw [← hF] at c1 c2 c3
          obtain ⟨e1, e2⟩ := hw hlt (by rw [c1, k1]) c2
          unfold pasteFinF pasteNeed pasteErr
          rw [e1, e2, ← hi, if_pos hlt, if_neg (by rw [c3]; decide), if_neg (fun k => by rw [c3] at k; cases k.2)]
          exact ⟨h.outs, hne, h.err⟩
    · obtain ⟨e1, e2⟩ := he (by omega)
      have hn := h.over (by omega)
      rw [drive_stop _ _ _ _ _ _ (fun k => k.2 (by rw [h.need, hn]))]
      unfold pasteFinF pasteNeed pasteErr
      rw [e1, e2, if_neg hlt, if_neg (fun k => hlt k.1)]
      exact ⟨h.outs, by rw [h.need, hn], h.err⟩

theorem paste_driven_to (cuts : List Int) (h1 : 1 ≤ N) (h4 : N ≤ 4) (hN : ins.length = N) (hl : ∀ t ∈ ins, t.bytes.length ≤ 4000) :
    (drive (pasteMach N A) ins cuts 100000 0 (start (pasteMach N A) freshP)).got.outs = (pasteFinF N A (insF ins)).outs ∧ (drive (pasteMach N A) ins cuts 100000 0 (start (pasteMach N A) freshP)).got.need = (pasteFinF N A (insF ins)).need ∧
    (drive (pasteMach N A) ins cuts 100000 0 (start (pasteMach N A) freshP)).got.err = (pasteFinF N A (insF ins)).err := by
  have hstart : startT (seenF ins (fun _ => 0) (fun _ => false)) = freshP.t := by
    unfold startT
    have : ∀ j, rdW (seenF ins (fun _ => 0) (fun _ => false) j) = [] ∧ rdOv (seenF ins (fun _ => 0) (fun _ => false) j) = false := fun j => by
      obtain ⟨c1, c2, -⟩ := rd_open (i := seenF ins (fun _ => 0) (fun _ => false) j) (L := []) (d := []) rfl rfl
      exact ⟨c1, c2⟩
    unfold freshP
    simp only [PT.mk.injEq, and_true]
    exact ⟨funext fun j => (this j).1, funext fun j => (this j).2⟩
  have hs : settle N A freshP.t = ([], freshP.t) := settle_none (.waits h1 rfl rfl)
  refine paste_drive_to cuts hN 100000 0 _ ⟨rfl, rfl, fun j => ⟨[], [], by show cutL [] ((insF ins j).bytes.take 0) = _; simp [cutL], fun _ _ => rfl⟩, (fun j h => by cases h), fun j => Nat.zero_le _, ?_, ?_, ?_⟩ ?_
  · show (fun _ => []) = _
    rw [show (start (pasteMach N A) freshP).got.taken = fun _ => 0 from rfl, show (start (pasteMach N A) freshP).told = fun _ => false from rfl, hstart, hs]
    funext j
    simp [joinL]
  · rw [show (start (pasteMach N A) freshP).got.taken = fun _ => 0 from rfl, show (start (pasteMach N A) freshP).told = fun _ => false from rfl, hstart, hs]
    exact fun _ => ⟨rfl, rfl⟩
  · rw [show (start (pasteMach N A) freshP).got.taken = fun _ => 0 from rfl, show (start (pasteMach N A) freshP).told = fun _ => false from rfl, hstart, hs]
    intro h
    have : N ≤ 0 := h
    omega
  · refine Nat.lt_of_le_of_lt (sumN_le (g := fun _ => 4001) N (fun j hj => ?_)) ?_
    · obtain ⟨i, hi⟩ : ∃ i, ins[j]? = some i := ⟨ins[j]'(by omega), List.getElem?_eq_getElem (by omega)⟩
      have := hl i (List.mem_of_getElem? hi)
      rw [insF_at hi]
      show i.bytes.length - 0 + (if false = true then 0 else 1) ≤ 4001
      simp
      omega
    · rw [sumN_const]
      omega
end

end Go.Proofs.YteghdepedlaneaaDoor

namespace Go.Proofs.YteghdepedlaneaaDoor

/-- Lines, with an end each. -/
def cW (L : Lines) : Nat := (L.map fun l => l.length + 1).sum
theorem cW_nil : cW [] = 0 := rfl
theorem cW_cons (l : List UInt8) (r : Lines) : cW (l :: r) = l.length + 1 + cW r := by simp [cW]
theorem cW_append (L M : Lines) : cW (L ++ M) = cW L + cW M := by simp [cW]
theorem cW_one (l : List UInt8) : cW [l] = l.length + 1 := by simp [cW]
theorem cW_len : ∀ L : Lines, L.length ≤ cW L
  | [] => Nat.le_refl _
  | l :: r => by have := cW_len r; rw [cW_cons]; simp only [List.length_cons]; omega
theorem cW_sum : ∀ L : Lines, (L.map List.length).sum + L.length = cW L
  | [] => rfl
  | l :: r => by have := cW_sum r; rw [cW_cons]; simp only [List.map_cons, List.sum_cons, List.length_cons]; omega
theorem cW_mem : ∀ (L : Lines) (l : List UInt8), l ∈ L → l.length + 1 ≤ cW L
  | [], l, h => by cases h
  | x :: r, l, h => by
    rw [cW_cons]
    rcases List.mem_cons.1 h with rfl | h
    · omega
    · have := cW_mem r l h; omega
theorem joinL_cW : ∀ L : Lines, (joinL L).length = cW L
  | [] => rfl
  | l :: r => by have := joinL_cW r; rw [cW_cons, ← this]; simp [joinL]; omega
theorem cutL_count : ∀ (x b : List UInt8) (L : Lines) (d : List UInt8), cutL b x = (L, some d) → cW L + d.length = b.length + x.length
  | [], b, L, d, h => by cases h; simp [cW]
  | c :: r, b, L, d, h => by
    by_cases hc : c = 10
    · subst hc
      rw [cutL_end] at h
      rcases hr : cutL [] r with ⟨L2, _ | d2⟩
      · rw [hr] at h; cases h
      · rw [hr] at h
        have := cutL_count r [] L2 d2 hr
        cases h
        rw [cW_cons]
        simp only [List.length_nil, List.length_cons] at this ⊢
        omega
    · by_cases h64 : b.length = 64
      · rw [cutL_long b r c hc h64] at h; cases h
      · rw [cutL_put b r c hc h64] at h
        have := cutL_count r (b ++ [c]) L d h
        simp only [List.length_append, List.length_cons, List.length_nil] at this ⊢
        omega
theorem joinTail_len (A : List UInt8) (hA : A.length = 1) : ∀ r : Lines, (Lib.joinTail A r).length = cW r
  | [] => rfl
  | l :: r => by
    have := joinTail_len A hA r
    rw [cW_cons, ← this]
    simp [Lib.joinTail, hA]
    omega
theorem join_len (A : List UInt8) (hA : A.length = 1) {row : Lines} (h : row ≠ []) : (Lib.join row A).length + 1 = cW row := by
  cases row with
  | nil => exact absurd rfl h
  | cons l r =>
    rw [Lib.join_cons, List.length_append, joinTail_len A hA, cW_cons]
    omega
theorem join_le (A : List UInt8) (hA : A.length = 1) (row : Lines) : (Lib.join row A).length ≤ cW row := by
  by_cases h : row = []
  · subst h; exact Nat.zero_le _
  · have := join_len A hA h; omega
/-- A row's field, with what stands behind it. -/
def cR (row : Lines) (j : Nat) : Nat := cW ((row.drop j).take 1)
theorem cR_past {row : Lines} {j : Nat} (h : row.length ≤ j) : cR row j = 0 := by
  unfold cR
  rw [List.drop_eq_nil_of_le h]
  rfl
theorem cR_pos {row : Lines} {j : Nat} (h : j < row.length) : 1 ≤ cR row j := by
  unfold cR
  rw [List.drop_eq_getElem_cons h, List.take_succ_cons, List.take_zero, cW_one]
  omega
theorem cR_snoc (row : Lines) (l : List UInt8) (j : Nat) : cR (row ++ [l]) j = if j = row.length then l.length + 1 else cR row j := by
  unfold cR
  by_cases h : j = row.length
  · subst h
    rw [if_pos rfl, List.drop_left, List.take_succ_cons, List.take_zero, cW_one]
  · rw [if_neg h]
    by_cases h2 : j < row.length
    · rw [List.drop_append_of_le_length (by omega), List.take_append_of_le_length (by simp; omega)]
    · rw [List.drop_eq_nil_of_le (by simp; omega), List.drop_eq_nil_of_le (by omega)]
theorem cR_sum (row : Lines) : ∀ n, sumN (cR row) n = cW (row.take n)
  | 0 => rfl
  | n + 1 => by
    rw [sumN, cR_sum row n]
    unfold cR
    rw [← cW_append, ← List.take_add]
theorem cR_all {row : Lines} {n : Nat} (h : row.length ≤ n) : sumN (cR row) n = cW row := by rw [cR_sum, List.take_of_length_le h]

section
variable {N : Nat} {A : List UInt8}
/-- What an input takes up. -/
def costT (t : PT) (j : Nat) : Nat := cR t.row j + cW (t.W j)
theorem micro_cost {t t' : PT} {e : Lines} (h : Micro (N := N) (A := A) t e t') (B : Nat → Nat) (hB : ∀ j, j < N → B j ≤ 64) (hc : ∀ j, j < N → costT t j + B j ≤ 96) : ∀ j, j < N → costT t' j + B j ≤ 96 := by
  intro j hj
  have h1 := hc j hj
  have h2 := hB j hj
  unfold costT at h1 ⊢
  cases h with
  | take l r hr hw =>
    simp only
    rw [cR_snoc]
    by_cases he : j = t.row.length
    · subst he
      rw [hw, cW_cons, cR_past (Nat.le_refl _)] at h1
      rw [if_pos rfl, setAt_self]
      omega
    · rw [if_neg he, setAt_other _ _ he]
      exact h1
  | over hr hw ho =>
    simp only
    rw [cR_snoc]
    by_cases he : j = t.row.length
    · subst he
      rw [if_pos rfl, hw, cW_nil]
      simp only [List.length_nil]
      omega
    · rw [if_neg he]
      exact h1
  | tell hr hg =>
    simp only
    rw [cR_past (Nat.zero_le _)]
    omega
theorem micro_len {t t' : PT} {e : Lines} (h : Micro (N := N) (A := A) t e t') (_ : t.row.length ≤ N) : t'.row.length ≤ N := by
  cases h with
  | take l r hr hw => simp; omega
  | over hr hw ho => simp; omega
  | tell hr hg => simp
theorem settle_cost (B : Nat → Nat) (hB : ∀ j, j < N → B j ≤ 64) (t : PT) : t.row.length ≤ N → (∀ j, j < N → costT t j + B j ≤ 96) → (settle N A t).2.row.length ≤ N ∧ ∀ j, j < N → costT (settle N A t).2 j + B j ≤ 96 :=
  settle_ind (N := N) (A := A) (P := fun t r => t.row.length ≤ N → (∀ j, j < N → costT t j + B j ≤ 96) → r.2.row.length ≤ N ∧ ∀ j, j < N → costT r.2 j + B j ≤ 96) (fun _ _ h1 h2 => ⟨h1, h2⟩) (fun _ _ _ _ hm ih h1 h2 => ih (micro_len hm h1) (micro_cost hm B hB h2)) t

/-- No input has more than h lines from the row that is begun on. -/
structure Rows (N h : Nat) (t : PT) : Prop where
  next : ∀ j, j < N → t.row.length ≤ j → (t.W j).length ≤ h
  had : ∀ j, j < t.row.length → (t.W j).length ≤ h - 1
  given : t.given = true → 1 ≤ h
def potP (N h : Nat) (t : PT) : Nat := cW t.row + sumN (fun j => cW (t.W j)) N + N * h + (N - t.row.length)
theorem settle_tells (hA : A.length = 1) (h1 : 1 ≤ N) (t : PT) : ∀ h, Rows N h t → t.row.length ≤ N → (joinL (settle N A t).1).length ≤ potP N h t := by
  refine settle_ind (N := N) (A := A) (P := fun t r => ∀ h, Rows N h t → t.row.length ≤ N → (joinL r.1).length ≤ potP N h t) (fun _ _ _ _ _ => Nat.zero_le _) (fun t e t' r hm ih h hR hl => ?_) t
  rw [joinL_append, List.length_append]
  have hl' := micro_len hm hl
  cases hm with
  | take l rr hr hw =>
    have hn := hR.next _ hr (Nat.le_refl _)
    rw [hw] at hn
    simp only [List.length_cons] at hn
    have := ih h ⟨fun j hj hjl => ?_, fun j hj => ?_, fun _ => by omega⟩ hl'
    · have hs := sumN_at (f := fun j => cW (t.W j)) (g := fun j => cW (setAt t.W t.row.length rr j)) N hr (fun j _ hj => by rw [setAt_other _ _ hj])
      simp only [setAt_self, hw, cW_cons] at hs
      unfold potP at this ⊢
      simp only [cW_append, cW_one, List.length_append, List.length_singleton] at this
      rw [show (joinL []).length = 0 from rfl]
      omega
    · simp only [List.length_append, List.length_singleton] at hjl
      simp only
      rw [setAt_other _ _ (by omega)]
      exact hR.next j hj (by omega)
    · simp only [List.length_append, List.length_singleton] at hj
      simp only
      by_cases he : j = t.row.length
      · subst he; rw [setAt_self]; omega
      · rw [setAt_other _ _ he]; exact hR.had j (by omega)
  | over hr hw ho =>
    have := ih h ⟨fun j hj hjl => ?_, fun j hj => ?_, hR.given⟩ hl'
    · unfold potP at this ⊢
      simp only [cW_append, cW_one, List.length_append, List.length_singleton, List.length_nil] at this
      rw [show (joinL []).length = 0 from rfl]
      omega
    · simp only [List.length_append, List.length_singleton] at hjl
      exact hR.next j hj (by omega)
    · simp only [List.length_append, List.length_singleton] at hj
      simp only
      by_cases he : j = t.row.length
      · subst he; rw [hw]; exact Nat.zero_le _
      · exact hR.had j (by omega)
  | tell hr hg =>
    have hh := hR.given hg
    have hne : t.row ≠ [] := fun e => by rw [e] at hr; simp at hr; omega
    have := ih (h - 1) ⟨fun j hj _ => hR.had j (by omega), (fun j hj => by simp at hj), (fun k => by cases k)⟩ hl'
    have hj := join_len A hA hne
    obtain ⟨k, rfl⟩ : ∃ k, h = k + 1 := ⟨h - 1, by omega⟩
    unfold potP at this ⊢
    simp only [cW_nil, List.length_nil, Nat.add_sub_cancel] at this
    rw [joinL_cW, cW_one, Nat.mul_succ]
    omega

/-- What holds between the calls. -/
structure PInv (N : Nat) (s : PS) : Prop where
  waits : s.need = -1 ∨ ∃ i : Nat, i < N ∧ s.need = i ∧ s.t.row.length = i ∧ s.t.W i = [] ∧ s.t.ov i = false
  len : s.t.row.length ≤ N
  cost : ∀ j, j < N → costT s.t j + (s.b j).length ≤ 96
  b : ∀ j, j < N → (s.b j).length ≤ 64
theorem PInv.dead : PInv N deadP := ⟨.inl rfl, Nat.zero_le _, fun j _ => by simp [costT, deadP, cR, cW], fun j _ => Nat.zero_le _⟩
theorem PInv.fresh (h1 : 1 ≤ N) : PInv N freshP := ⟨.inr ⟨0, h1, rfl, rfl, rfl, rfl⟩, Nat.zero_le _, fun j _ => by simp [costT, freshP, cR, cW], fun j _ => Nat.zero_le _⟩
theorem PInv.due {s : PS} (h : PInv N s) (hn : s.need ≠ -1) : ∃ i : Nat, i < N ∧ s.need = i ∧ s.t.row.length = i ∧ s.t.W i = [] ∧ s.t.ov i = false := h.waits.resolve_left hn
theorem PInv.comes {s : PS} {i : Nat} (h : PInv N s) (hA : A.length = 1) (h1 : 1 ≤ N) (h4 : N ≤ 4) (hi : i < N) (hr : s.t.row.length = i) (hw : s.t.W i = []) (L : Lines) (d : List UInt8) (o : Nat → Bool) (hL : cW L + d.length ≤ 96) (hd : d.length ≤ 64) :
    PInv N (comesP N A (setAt s.b i d) (extT s.t (oneV i L) o)).1 ∧ (joinL (settle N A (extT s.t (oneV i L) o)).1).length ≤ 1024 := by
  have hB : ∀ j, j < N → (setAt s.b i d j).length ≤ 64 := fun j hj => by
    by_cases he : j = i
    · subst he; rw [setAt_self]; exact hd
    · rw [setAt_other _ _ he]; exact h.b j hj
  have hC : ∀ j, j < N → costT (extT s.t (oneV i L) o) j + (setAt s.b i d j).length ≤ 96 := fun j hj => by
    show cR s.t.row j + cW (s.t.W j ++ oneV i L j) + _ ≤ 96
    unfold oneV
    by_cases he : j = i
    · subst he
      rw [setAt_self, if_pos rfl, hw, cR_past (by omega)]
      simp only [List.nil_append]
      omega
    · rw [setAt_other _ _ he, if_neg he, List.append_nil]
      exact h.cost j hj
  obtain ⟨q1, q2⟩ := settle_cost (A := A) (fun j => (setAt s.b i d j).length) hB (extT s.t (oneV i L) o) h.len hC
  have hst := settle_stuck (N := N) (A := A) (extT s.t (oneV i L) o)
  have hle : ∀ j, j < N → cR s.t.row j + ((extT s.t (oneV i L) o).W j).length ≤ 96 := fun j hj => by
    have := hC j hj
    have h2 := cW_len ((extT s.t (oneV i L) o).W j)
    unfold costT at this
    have h3 : (extT s.t (oneV i L) o).row = s.t.row := rfl
    rw [h3] at this
    omega
  have htell := settle_tells (A := A) hA h1 (extT s.t (oneV i L) o) 96 ⟨fun j hj _ => by have := hle j hj; omega, fun j hj => by
    have := hle j (by have h3 : j < s.t.row.length := hj; omega)
    have := cR_pos (row := s.t.row) (j := j) hj
    omega, fun _ => by omega⟩ h.len
  refine ⟨?_, Nat.le_trans htell ?_⟩
  · show PInv N (settledP N (setAt s.b i d) (settle N A (extT s.t (oneV i L) o)).2)
    unfold settledP
    generalize settle N A (extT s.t (oneV i L) o) = R at hst q1 q2 ⊢
    split
    · rename_i hl
      cases hst with
      | waits k1 k2 k3 => exact ⟨.inr ⟨_, k1, rfl, rfl, k2, k3⟩, q1, q2, hB⟩
      | ended k1 k2 => omega
    · exact ⟨.inl rfl, Nat.zero_le _, fun j hj => by show cR [] j + 0 + 0 ≤ 96; rw [cR_past (Nat.zero_le _)]; omega, fun j hj => Nat.zero_le _⟩
  · unfold potP
    have hrow : cW (extT s.t (oneV i L) o).row = sumN (cR s.t.row) N := (cR_all h.len).symm
    have hs : sumN (cR s.t.row) N + sumN (fun j => cW ((extT s.t (oneV i L) o).W j)) N ≤ 96 * N := by
      rw [← sumN_add, ← sumN_const]
      exact sumN_le N fun j hj => by
        have := hC j hj
        unfold costT at this
        have h3 : (extT s.t (oneV i L) o).row = s.t.row := rfl
        rw [h3] at this
        omega
    rw [hrow]
    have : 96 * N ≤ 384 := by omega
    omega
theorem rowsO_sum {L : Lines} (h : (joinL L).length ≤ 1024) : outSum (rowsO L) ≤ 1024 := by
  unfold rowsO
  by_cases hL : L = []
  · rw [if_pos hL]; decide
  · rw [if_neg hL]; simpa [outSum] using h
theorem PInv.feed {s : PS} (h : PInv N s) (hA : A.length = 1) (h1 : 1 ≤ N) (h4 : N ≤ 4) (hn : s.need ≠ -1) (x : List UInt8) (hx : x.length ≤ 32) : PInv N ((pasteMach N A).feed s x).1 ∧ outSum ((pasteMach N A).feed s x).2.1 ≤ 1024 := by
  obtain ⟨i, hi, hne, hr, hw, ho⟩ := h.due hn
  have hsk : s.need.toNat = i := by rw [hne]; rfl
  have hb := h.b i hi
  show PInv N (match cutL (s.b s.need.toNat) x with
    | (_, none) => (deadP, [], 20)
    | (L, some d) => comesP N A (setAt s.b s.need.toNat d) (extT s.t (oneV s.need.toNat L) (fun _ => false)) : PS × Outs × Int).1 ∧ outSum (match cutL (s.b s.need.toNat) x with
    | (_, none) => (deadP, [], 20)
    | (L, some d) => comesP N A (setAt s.b s.need.toNat d) (extT s.t (oneV s.need.toNat L) (fun _ => false)) : PS × Outs × Int).2.1 ≤ 1024
  rw [hsk]
  rcases hc : cutL (s.b i) x with ⟨L, _ | d⟩
  · exact ⟨PInv.dead, Nat.zero_le _⟩
  · have hcount := cutL_count x (s.b i) L d hc
    have hd := cutL_le x (s.b i) hb d (by rw [hc])
    obtain ⟨a, b⟩ := h.comes hA h1 h4 hi hr hw L d (fun _ => false) (by omega) hd
    exact ⟨a, rowsO_sum b⟩
theorem PInv.fin {s : PS} (h : PInv N s) (hA : A.length = 1) (h1 : 1 ≤ N) (h4 : N ≤ 4) (hn : s.need ≠ -1) : PInv N ((pasteMach N A).fin s).1 ∧ outSum ((pasteMach N A).fin s).2.1 ≤ 1024 := by
  obtain ⟨i, hi, hne, hr, hw, ho⟩ := h.due hn
  have hsk : s.need.toNat = i := by rw [hne]; rfl
  have hb := h.b i hi
  show PInv N (comesP N A (setAt s.b s.need.toNat []) (extT s.t (oneV s.need.toNat (if s.b s.need.toNat = [] then [] else [s.b s.need.toNat])) (oneO s.need.toNat true))).1 ∧ outSum (comesP N A (setAt s.b s.need.toNat []) (extT s.t (oneV s.need.toNat (if s.b s.need.toNat = [] then [] else [s.b s.need.toNat])) (oneO s.need.toNat true))).2.1 ≤ 1024
  rw [hsk]
  obtain ⟨a, b⟩ := h.comes hA h1 h4 hi hr hw (if s.b i = [] then [] else [s.b i]) [] (oneO i true) (by split <;> simp [cW]; omega) (by simp)
  exact ⟨a, rowsO_sum b⟩
theorem PInv.held {s : PS} (h : PInv N s) (hA : A.length = 1) : heldP N A s ≤ 96 * N := by
  unfold heldP
  have h1 := join_le A hA s.t.row
  rw [← cR_all h.len] at h1
  have h2 : sumN (fun j => (s.b j).length + ((s.t.W j).map List.length).sum) N + sumN (cR s.t.row) N ≤ 96 * N := by
    rw [← sumN_add, ← sumN_const]
    exact sumN_le N fun j hj => by
      have := h.cost j hj
      have h3 := cW_sum (s.t.W j)
      unfold costT at this
      omega
  omega

/-- What holds of its state behind each call bounds what it holds. -/
theorem drive_inv32 {S : Type} (M : Mach S) (P : S → Prop) (B : Int) (hB : ∀ s, P s → M.held s ≤ B) (h1 : ∀ s x, P s → M.need s ≠ -1 → x.length ≤ 32 → P (M.feed s x).1) (h2 : ∀ s, P s → M.need s ≠ -1 → P (M.fin s).1) (h3 : ∀ s, P s → P (M.more s).1) (ins : List Strm) (cuts : List Int) :
    ∀ (f n : Nat) (x : DS S), P x.s → x.got.need = M.need x.s → x.got.held ≤ B → (drive M ins cuts f n x).got.held ≤ B := by
  intro f
  induction f with
  | zero => intro n x _ _ k2; exact k2
  | succ f ih =>
    intro n x k1 kn k2
    rw [drive]
    split
    · rename_i hgo
      have hne : M.need x.s ≠ -1 := by rw [← kn]; exact hgo.2
      cases hs : step M ins cuts n x with
      | none => exact k2
      | some y =>
        have hy : P y.s ∧ y.got.need = M.need y.s ∧ y.got.held ≤ B := by
          have key : ∀ (x' : DS S) (r : S × Outs × Int), x'.got.held ≤ B → P r.1 → P (after M x' r).s ∧ (after M x' r).got.need = M.need (after M x' r).s ∧ (after M x' r).got.held ≤ B := by
            intro x' r q1 q2
            refine ⟨q2, rfl, ?_⟩
            have := hB r.1 q2
            show max x'.got.held (M.held r.1) ≤ B
            omega
          have hch : ∀ k b, (chunkAt cuts x n k b).length ≤ 32 := fun k b => by
            have hc := cutAt_le cuts n
            unfold chunkAt toAt
            simp only [List.length_drop, List.length_take]
            omega
          unfold step at hs
          split at hs
          · cases hs; exact key x _ k2 (h3 _ k1)
          · split at hs
            · cases hs
            · split at hs
              · cases hs
                exact key _ _ k2 (h1 _ _ k1 hne (hch _ _))
              · split at hs
                · cases hs
                  exact key _ _ k2 (h2 _ k1 hne)
                · cases hs
        exact ih (n + 1) y hy.1 hy.2.1 hy.2.2
    · exact k2
theorem paste_kept (hA : A.length = 1) (h1 : 1 ≤ N) (h4 : N ≤ 4) (ins : List Strm) (cuts : List Int) : (drive (pasteMach N A) ins cuts 100000 0 (start (pasteMach N A) freshP)).got.held ≤ ((96 * N : Nat) : Int) :=
  drive_inv32 (pasteMach N A) (PInv N) _ (fun s h => by have := h.held hA; show ((heldP N A s : Nat) : Int) ≤ _; omega) (fun s x h hn hx => (h.feed hA h1 h4 hn x hx).1) (fun s h hn => (h.fin hA h1 h4 hn).1) (fun _ h => h) ins cuts 100000 0 (start (pasteMach N A) freshP) (PInv.fresh h1) rfl (by show (0 : Int) ≤ _; omega)
end

end Go.Proofs.YteghdepedlaneaaDoor
