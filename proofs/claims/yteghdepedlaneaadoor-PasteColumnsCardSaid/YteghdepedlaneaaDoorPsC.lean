/- The document's reads of several inputs, one behind the other in memory. -/
import Derived.Test.YteghdepedlaneaaDoorPsD
import Derived.Test.YteghdepedlaneaaDoorMany
import Derived.Maps.AppendAt
import Derived.Test.YteghdepedlaneaaDoorSame
import Derived.Outline
import Derived.Deep.MidRow
namespace Go.Proofs.YteghdepedlaneaaDoor
open Go.RowKit

def rdErr (i : Strm) : Int × Int × Int := (readL i.bytes i.ended (i.code, i.stage, i.id)).2.2
def rdCells (p : Value × Strm) : List Value := [p.1, .bool (rdOv p.2), .int .i64 (rdErr p.2).1, .int .i64 (rdErr p.2).2.1, .int .i64 (rdErr p.2).2.2]
theorem rdCells_at : ∀ (rs : List (Value × Strm)) (j i : Nat) (p : Value × Strm), rs[j]? = some p → i < 5 → (rs.flatMap rdCells)[j * 5 + i]? = (rdCells p)[i]?
  | [], j, i, p, h, _ => by simp at h
  | r :: rs, 0, i, p, h, hi => by
    simp at h
    subst h
    rw [List.flatMap_cons, Nat.zero_mul, Nat.zero_add, List.getElem?_append_left (by simp [rdCells]; omega)]
  | r :: rs, j + 1, i, p, h, hi => by
    have := rdCells_at rs j i p (by simpa using h) hi
    rw [List.flatMap_cons, List.getElem?_append_right (by simp [rdCells]; omega), ← this]
    congr 1
    simp [rdCells]
    omega
theorem Tryd.infoR : (Tryd.prog.info? 95).map (fun i => (i.zero, i.size, i.bytes)) = some (some (.agg #[.slice none 0 0, .bool false, .int .i64 0, .int .i64 0, .int .i64 0]), 5, 56) := by kernel_rfl
/-- The reads lie in a row of their own; their lines in other blocks. -/
structure RdsIn (base : Nat) (rs : List (Value × Strm)) (v : Value) (w : World) : Prop where
  row : w.ownsRow base 95 5 v rs.length (rs.flatMap rdCells)
  texts : ∀ p ∈ rs, IsTexts (fun k => v.ownBlock ≠ some k) w p.1 (rdW p.2)
theorem RdsIn.nil (base : Nat) (w : World) : RdsIn base [] (.slice none 0 0) w := ⟨World.ownsRow_nil w base _ 5, fun p h => by cases h⟩
theorem RdsIn.below {base : Nat} {rs : List (Value × Strm)} {v : Value} {w w' : World} (h : RdsIn base rs v w) (hb : Below w.heap.size w w') : RdsIn base rs v w' :=
  ⟨(Below.toFrame hb fun _ => False).owns h.row (fun _ _ h => h), fun p hp => (h.texts p hp).below hb⟩
/-- What is read of input j. -/
theorem RdsIn.at {base : Nat} {rs : List (Value × Strm)} {v : Value} {w : World} (h : RdsIn base rs v w) {j : Nat} {p : Value × Strm} (hj : rs[j]? = some p) :
    ∃ g cap la lc, v = .slice (some ⟨g, 0, none⟩) rs.length cap ∧ p.1 = .slice la (rdW p.2).length lc ∧ w.cell? ⟨g, j * 5, none⟩ = some (.slice la (rdW p.2).length lc) ∧ w.cell? ⟨g, j * 5 + 1, none⟩ = some (.bool (rdOv p.2)) ∧
      w.rangeAt g (j * 5 + 2) [.int .i64 (rdErr p.2).1, .int .i64 (rdErr p.2).2.1, .int .i64 (rdErr p.2).2.2] ∧ ∀ n l, (rdW p.2)[n]? = some l → ∃ gb off, la = some ⟨gb, off, none⟩ ∧ w.cell? ⟨gb, off + n, none⟩ = some (strV l) := by
  have hlt := (List.getElem?_eq_some_iff.1 hj).1
  obtain ⟨la, lc, hp1, hx⟩ := h.texts p (List.mem_of_getElem? hj)
  have h' := h.row
  rcases h'.2 with ⟨rfl, h0⟩ | ⟨g, cap, cur, hv, -⟩
  · omega
  · have hc : ∀ i u, i < 5 → (rdCells p)[i]? = some u → w.cell? ⟨g, j * 5 + i, none⟩ = some u := fun i u hi hu => by
      have := World.ownsRow.cells (hv ▸ h') (g := g) rfl (j * 5 + i) u (by rw [rdCells_at rs j i p hj hi]; exact hu)
      rwa [Addr.add_mid, Nat.zero_add] at this
    refine ⟨g, cap, la, lc, hv, hp1, hc 0 _ (by omega) (by rw [← hp1]; rfl), hc 1 _ (by omega) rfl, fun i u hu => ?_, fun n l hl => ?_⟩
    · rcases i with _ | _ | _ | i
      · cases hu; exact hc 2 _ (by omega) rfl
      · cases hu; exact hc 3 _ (by omega) rfl
      · cases hu; exact hc 4 _ (by omega) rfl
      · simp at hu
    · obtain ⟨gb, off, e, -, hh⟩ := hx n l hl
      exact ⟨gb, off, e, hh⟩
theorem texts_mono {p q : Nat → Prop} {w : World} {v : Value} {L : Lines} (h : IsTexts p w v L) (hpq : ∀ k, k < w.heap.size → p k → q k) : IsTexts q w v L := by
  obtain ⟨a, cap, rfl, hc⟩ := h
  refine ⟨a, cap, rfl, fun j b hj => ?_⟩
  obtain ⟨gb, off, e, hp, hx⟩ := hc j b hj
  exact ⟨gb, off, e, hpq _ (block_lt_of_cell hx) hp, hx⟩
/-- One more. -/
theorem wpList_append_read {ops : Array Oper} {rest : List Oper} {o : Oper} {a : Act} {w : World} {Q : Exit → Act → World → Prop} (hgd : o.guard = none) (s x : Operand) (ho : o.op = .call { callee := .builtin .append, args := #[s, x], argTypes := #[93, 93] })
    {base : Nat} {v : Value} {rs : List (Value × Strm)} (t : Value × Strm) (gy : Nat) (hs : a.eval s = v) (hr : RdsIn base rs v w) (hx : a.eval x = .slice (some ⟨gy, 0, none⟩) 1 1) (hsrc : w.heap[gy]? = some (.cells (rdCells t).toArray 95 (0, 0)))
    (hone : ∃ la lc, t.1 = .slice la (rdW t.2).length lc) (ht : IsTexts (fun k => v.ownBlock ≠ some k) w t.1 (rdW t.2)) (hlen : rs.length ≤ 1000000) (hbase : base ≤ w.heap.size)
    (h : ∀ v' w', RdsIn base (rs ++ [t]) v' w' → w.grownBy w' v.ownBlock → wpList Tryd.prog ops Q rest (a.put o.dst v') w') : wpList Tryd.prog ops Q (o :: rest) a w := by
  obtain ⟨i0, hi, hz0, hz1, hz2⟩ := info_parts Tryd.infoR
  have one : ∀ u ∈ rdCells t, u.oneCell' = true := by
    obtain ⟨tb, tc, e⟩ := hone
    intro u hu
    simp only [rdCells, List.mem_cons, List.not_mem_nil, or_false] at hu
    rcases hu with rfl | rfl | rfl | rfl | rfl
    · rw [e]; rfl
    all_goals rfl
  refine wpList_append_own_at w hgd s x 93 ho base 95 i0 (.agg #[.slice none 0 0, .bool false, .int .i64 0, .int .i64 0, .int .i64 0]) 5 56 (by kernel_rfl) hi hz0 hz1 hz2 rfl (by decide) v rs.length _ hs hr.row ⟨gy, 0, none⟩ 1 1 (rdCells t) hx rfl
    (fun j u hu => ?_) one (by unfold maxLen; omega) (by omega) hbase ?_
  · rw [Addr.add_mid, Nat.zero_add, cell_of_row _ _ _ _ _ _ hsrc]
    simpa using hu
  intro v' w' ho' hg' _ hv'
  have hf : Frame (fun k => v.ownBlock = some k) w w' := (Frame.refl _ w).grown hg' (fun k _ e => e)
  have hkept : ∀ {u : Value} {L : Lines}, IsTexts (fun k => v.ownBlock ≠ some k) w u L → IsTexts (fun k => v'.ownBlock ≠ some k) w' u L := fun {u L} hu => by
    refine texts_mono ((texts_mono hu (q := fun k => v.ownBlock ≠ some k ∧ v'.ownBlock ≠ some k) fun k hk hn => ⟨hn, fun e => ?_⟩).frame hf (fun k hk e => hk.1 e)) fun k _ hk => hk.2
    rcases hv' with e2 | e2
    · exact hn (e2 ▸ e)
    · rw [e2] at e; injection e; omega
  refine h v' w' ⟨?_, fun p hp => ?_⟩ hg'
  · rw [List.flatMap_append, List.flatMap_singleton, List.length_append]
    exact ho'
  · rcases List.mem_append.1 hp with hp | hp
    · exact hkept (hr.texts p hp)
    · rw [List.mem_singleton.1 hp]; exact hkept ht

end Go.Proofs.YteghdepedlaneaaDoor

namespace Go.Proofs.YteghdepedlaneaaDoor
open Go.RowKit

def pasteWantF (N : Nat) (A : List UInt8) (f : Nat → Strm) : Strm :=
  if (settle N A (startT f)).2.row.length < N then ⟨joinL (settle N A (startT f)).1, false, (rdErr (f (settle N A (startT f)).2.row.length)).1, (rdErr (f (settle N A (startT f)).2.row.length)).2.1, (rdErr (f (settle N A (startT f)).2.row.length)).2.2⟩
  else ⟨joinL (settle N A (startT f)).1, true, 0, 0, 0⟩
def pasteWant (N : Nat) (A _ : List UInt8) (ins : List Strm) : Strm := pasteWantF N A (insF ins)

theorem cutL_cW : ∀ (x b : List UInt8), cW (cutL b x).1 ≤ b.length + x.length
  | [], b => by simp [cutL, cW]
  | c :: r, b => by
    by_cases hc : c = 10
    · subst hc
      have := cutL_cW r []
      rw [cutL_end, cW_cons]
      simp only [List.length_nil, List.length_cons] at this ⊢
      omega
    · by_cases h64 : b.length = 64
      · rw [cutL_long b r c hc h64]; simp [cW]
      · have := cutL_cW r (b ++ [c])
        rw [cutL_put b r c hc h64]
        simp only [List.length_append, List.length_cons, List.length_nil] at this ⊢
        omega
theorem rdW_cW (i : Strm) : cW (rdW i) ≤ i.bytes.length + 1 := by
  have h1 := cutL_cW i.bytes []
  simp only [List.length_nil, Nat.zero_add] at h1
  rcases hc : cutL [] i.bytes with ⟨L, _ | d⟩
  · rw [hc] at h1
    rw [(rd_bad hc).1]
    simp only at h1
    omega
  · have h2 := cutL_count i.bytes [] L d hc
    simp only [List.length_nil, Nat.zero_add] at h2
    cases he : i.ended with
    | false => rw [(rd_open hc he).1]; omega
    | true =>
      rw [(rd_ended hc he).1, cW_append]
      split
      · simp only [cW_nil]; omega
      · rw [cW_one]; omega
/-- The text of the fields that have come, and the next one. -/
theorem join_snoc (A : List UInt8) (row : Lines) (l : List UInt8) : Lib.join (row ++ [l]) A = if row = [] then l else Lib.join row A ++ (A ++ l) := by
  cases row with
  | nil => simp [Lib.join, List.intercalate]
  | cons x r =>
    rw [if_neg (by simp), List.cons_append, Lib.join_cons, Lib.join_cons]
    simp [Lib.joinTail]

theorem strV_ten : strV [10] = .string { data := #[10] } := rfl
/-- Where the document stands: behind n rows, i fields of the next one. -/
structure DocAt (N : Nat) (f : Nat → Strm) (n : Nat) (t : PT) : Prop where
  W : ∀ j, j < N → t.W j = (rdW (f j)).drop (if j < t.row.length then n + 1 else n)
  size : cW t.row ≤ 4002 * t.row.length
  le : t.row.length ≤ N
section
variable {N : Nat} {A : List UInt8} {f : Nat → Strm} {n : Nat} {t : PT}
theorem DocAt.take (h : DocAt N f n t) (hf : ∀ j, j < N → cW (rdW (f j)) ≤ 4001) (hr : t.row.length < N) {l : List UInt8} (hl : (rdW (f t.row.length))[n]? = some l) :
    Micro (N := N) (A := A) t [] ⟨setAt t.W t.row.length ((rdW (f t.row.length)).drop (n + 1)), t.ov, t.row ++ [l], true⟩ ∧ DocAt N f n ⟨setAt t.W t.row.length ((rdW (f t.row.length)).drop (n + 1)), t.ov, t.row ++ [l], true⟩ := by
  have hw : t.W t.row.length = l :: (rdW (f t.row.length)).drop (n + 1) := by
    rw [h.W _ hr, if_neg (Nat.lt_irrefl _)]
    obtain ⟨hn, rfl⟩ := List.getElem?_eq_some_iff.1 hl
    exact List.drop_eq_getElem_cons hn
  refine ⟨.take l _ hr hw, fun j hj => ?_, ?_, by simp; omega⟩
  · simp only [List.length_append, List.length_singleton]
    by_cases he : j = t.row.length
    · subst he
      rw [setAt_self, if_pos (Nat.lt_succ_self _)]
    · rw [setAt_other _ _ he, h.W j hj]
      by_cases hlt : j < t.row.length
      · rw [if_pos hlt, if_pos (by omega)]
      · rw [if_neg hlt, if_neg (by omega)]
  · have h1 := cW_mem _ l (List.mem_of_getElem? hl)
    have h2 := hf _ hr
    have h3 := h.size
    simp only [cW_append, cW_one, List.length_append, List.length_singleton]
    omega
theorem DocAt.over (h : DocAt N f n t) (hr : t.row.length < N) (hl : (rdW (f t.row.length)).length ≤ n) (ho : t.ov t.row.length = true) :
    Micro (N := N) (A := A) t [] ⟨t.W, t.ov, t.row ++ [[]], t.given⟩ ∧ DocAt N f n ⟨t.W, t.ov, t.row ++ [[]], t.given⟩ := by
  have hw : t.W t.row.length = [] := by
    rw [h.W _ hr, if_neg (Nat.lt_irrefl _)]
    exact List.drop_eq_nil_of_le hl
  refine ⟨.over hr hw ho, fun j hj => ?_, ?_, by simp; omega⟩
  · simp only [List.length_append, List.length_singleton]
    by_cases he : j = t.row.length
    · subst he
      rw [if_pos (Nat.lt_succ_self _), hw, List.drop_eq_nil_of_le (by omega)]
    · rw [h.W j hj]
      by_cases hlt : j < t.row.length
      · rw [if_pos hlt, if_pos (by omega)]
      · rw [if_neg hlt, if_neg (by omega)]
  · have h3 := h.size
    simp only [cW_append, cW_one, List.length_append, List.length_singleton, List.length_nil]
    omega
theorem DocAt.stuck (h : DocAt N f n t) (hr : t.row.length < N) (hl : (rdW (f t.row.length)).length ≤ n) (ho : t.ov t.row.length = false) : Stuck (N := N) t :=
  .waits hr (by rw [h.W _ hr, if_neg (Nat.lt_irrefl _)]; exact List.drop_eq_nil_of_le hl) ho
theorem DocAt.tell (h : DocAt N f n t) (hr : N ≤ t.row.length) : DocAt N f (n + 1) ⟨t.W, t.ov, [], false⟩ :=
  ⟨fun j hj => by
    show t.W j = (rdW (f j)).drop (if j < 0 then n + 1 + 1 else n + 1)
    rw [if_neg (Nat.not_lt_zero _), h.W j hj, if_pos (by omega)], Nat.zero_le _, Nat.zero_le _⟩
theorem docAt_start : DocAt N f 0 (startT f) := ⟨fun j _ => by
  show rdW (f j) = (rdW (f j)).drop (if j < 0 then 0 + 1 else 0)
  rw [if_neg (Nat.not_lt_zero _), List.drop_zero], Nat.zero_le _, Nat.zero_le _⟩
theorem Steps.begins {t' : PT} {E : Lines} (h : Steps N A t E t') : (joinL E).length ≤ (joinL (Go.Proofs.YteghdepedlaneaaDoor.settle N A t).1).length ∧ E.length ≤ (Go.Proofs.YteghdepedlaneaaDoor.settle N A t).1.length := by
  rw [h.settle]
  simp only [joinL_append, List.length_append]
  omega
end
theorem doc_total {N : Nat} {A : List UInt8} (hA : A.length = 1) (h1 : 1 ≤ N) (h4 : N ≤ 4) (f : Nat → Strm) (hf : ∀ j, j < N → cW (rdW (f j)) ≤ 4001) : (joinL (settle N A (startT f)).1).length ≤ 40000 := by
  have := settle_tells hA h1 (startT f) 4001 ⟨fun j hj _ => by have h1 := hf j hj; have h2 := cW_len (rdW (f j)); show (rdW (f j)).length ≤ 4001; omega, fun j hj => by simp [startT] at hj, fun _ => by omega⟩ (Nat.zero_le _)
  have hs : sumN (fun j => cW (rdW (f j))) N ≤ sumN (fun _ => 4001) N := sumN_le N hf
  rw [sumN_const] at hs
  unfold potP at this
  have h0 : cW (startT f).row = 0 := rfl
  have h2 : sumN (fun j => cW ((startT f).W j)) N = sumN (fun j => cW (rdW (f j))) N := rfl
  rw [h0, h2] at this
  omega
theorem rows_le : ∀ L : Lines, L.length ≤ (joinL L).length := fun L => by rw [joinL_cW]; exact cW_len L

set_option maxRecDepth 100000 in
set_option maxHeartbeats 16000000 in
theorem pasteMeans_any {p : Nat → Prop} (k : Int) (N : Nat) (va vb : Value) (A B : List UInt8) (iv : Value) (ins : List Strm) (w : World) (hA : Pm.IsBytes w va A) (_ : Pm.IsBytes w vb B) (hI : IsStrms p w iv ins) (hok : pasteOk N A B) (hlen : ins.length = pasteIns N) (hl : ∀ t ∈ ins, t.bytes.length ≤ 4000) :
    Calls Tryd.prog 19 #[Pm.parV k N va vb, iv] w (OutEnd w (pasteWant N A B ins)) := by
  obtain ⟨⟨h1, h4⟩, hA1⟩ := hok
  obtain rfl : ins.length = N := hlen
  have hfc : ∀ j, j < ins.length → cW (rdW (insF ins j)) ≤ 4001 := fun j hj => by
    have hi : ins[j]? = some (ins[j]'(by omega)) := List.getElem?_eq_getElem (by omega)
    rw [insF_at hi]
    have h2 := rdW_cW (ins[j]'(by omega))
    have h3 := hl _ (List.mem_of_getElem? hi)
    omega
  have hb0 : Below w.heap.size w (w.alloc (.cells #[.int .i64 k, .int .i64 ins.length, va, vb] 24)) := (Below.refl _ _).alloc (Nat.le_refl _) _
  have hr0 := heap_alloc_last w (.cells #[.int .i64 k, .int .i64 ins.length, va, vb] 24)
  have hs0 : (w.alloc (.cells #[.int .i64 k, .int .i64 ins.length, va, vb] 24)).heap.size = w.heap.size + 1 := by simp
  obtain ⟨ai, ci, rfl, -⟩ := id hI
  obtain ⟨T, hT⟩ : ∃ T, T = pasteWantF ins.length A (insF ins) := ⟨_, rfl⟩
  rw [show pasteWant ins.length A B ins = T from hT.symm]
  have HT := Lib.hid hT
  have HFc := Lib.hid hfc
  have HTot := Lib.hid (doc_total hA1 h1 h4 (insF ins) hfc)
  have HL := Lib.hid hl
  have HA1 := Lib.hid hA1
  obtain ⟨SA, hSA⟩ : ∃ S : ByteArray, Pm.strV A = .string S := ⟨_, rfl⟩
  have HSA := Lib.hid (show strV A = .string SA from hSA)
  have hAb := hA
  clear hT hl hfc hA1
  unfold Pm.parV
  go_enter Tryd.func19, Tryd.ntmps19
  go_wp2_with fail
  generalize w.alloc (.cells #[.int .i64 k, .int .i64 ins.length, va, vb] 24) = W0 at hb0 hr0 hs0 ⊢
  have HX := Lib.hid (show ∀ W, Below W0.heap.size W0 W → W.cell? ⟨w.heap.size, 1, none⟩ = some (.int .i64 ins.length) ∧ W.cell? ⟨w.heap.size, 2, none⟩ = some va ∧ (convert 22 9 va).run Tryd.prog W = .ok (.string SA) W ∧ IsStrms p W (.slice ai ins.length ci) ins ∧ Below w.heap.size w W from fun W hb => by
    have h0 := (hb.block w.heap.size (by omega)).trans hr0
    have hw := hb0.trans (hb.mono hb0.size)
    exact ⟨by rw [cell_of_row _ _ _ _ _ _ h0]; rfl, by rw [cell_of_row _ _ _ _ _ _ h0]; rfl, by rw [← hSA]; exact Pm.conv_any (hAb.below hw), hI.below hw, hw⟩)
  clear hb0 hr0 hs0 hI hAb hA hSA
  go_loopw [5, 6] (fun lv jv wr => ∃ (u : Value) (rs : List (Value × Strm)), u = lv ∧ jv = .int .i64 rs.length ∧ rs.map (·.2) = ins.take rs.length ∧ rs.length ≤ ins.length ∧ RdsIn W0.heap.size rs u wr ∧ Below W0.heap.size W0 wr) (fun _ jv _ => ins.length - (intOf jv).toNat)
  case atStart => exact ⟨_, [], rfl, rfl, rfl, Nat.zero_le _, RdsIn.nil _ _, Below.refl _ _⟩
  case round =>
    obtain ⟨lv, rs, rfl, rfl, hrs, hrl, hrd, hbr⟩ := hrel
    rename World => WR
    obtain ⟨x1, x2, x3, x4, -⟩ := HX.out WR hbr
    by_cases hlt : rs.length < ins.length
    · obtain ⟨i, hi⟩ : ∃ i, ins[rs.length]? = some i := ⟨ins[rs.length]'hlt, List.getElem?_eq_getElem hlt⟩
      obtain ⟨_, _, e, hcs⟩ := x4
      cases e
      obtain ⟨gb, off, bv, rfl, -, c0, c1, c2, c3, c4, hby⟩ := hcs _ i hi
      have hmid : WR.rangeAt gb (off + rs.length * 5) [bv, .bool i.ended, .int .i64 i.code, .int .i64 i.stage, .int .i64 i.id] := fun j v hv => by
        rcases j with _ | _ | _ | _ | _ | j
        · cases hv; exact c0
        · cases hv; exact c1
        · cases hv; exact c2
        · cases hv; exact c3
        · cases hv; exact c4
        · simp at hv
      have hlines : Calls Tryd.prog 35 #[.agg #[bv, .bool i.ended, .int .i64 i.code, .int .i64 i.stage, .int .i64 i.id]] WR (fun e w' => ∃ v, e = .returned (.agg #[v, .bool (rdOv i), .int .i64 (rdErr i).1, .int .i64 (rdErr i).2.1, .int .i64 (rdErr i).2.2]) ∧ w'.ownsRow WR.heap.size 9 1 v (rdW i).length ((rdW i).map strV) ∧ Below WR.heap.size WR w') :=
        lines_any bv i.bytes i.ended i.code i.stage i.id WR hby (by have := HL.out i (List.mem_of_getElem? hi); omega)
      obtain ⟨ab, cb, rfl, -, -⟩ := hby
      obtain ⟨la0, lc0, hlv⟩ := owns_slice hrd.row
      subst hlv
      have HLi := Lib.hid hlines
      have HRd := Lib.hid hrd
      have HRs := Lib.hid hrs
      have HI := Lib.hid hi
      have HBr := Lib.hid hbr
      have hsz0 := hbr.size
      have q0 : (0 : Int) ≤ (rs.length : Int) := by omega
      have q1 : (rs.length : Int) < (ins.length : Int) := by omega
      have hrl4 : rs.length ≤ 4 := by omega
      clear hlines hrd hrs hi hbr hcs c0 c1 c2 c3 c4 x2 x3 hrl
      go_wp2_with (first | (refine wpList_load_mid rfl 61 (.tmp 21) rfl gb (off + rs.length * 5) rfl _ _ hmid Tryd.underlying61 rfl (by kernel_rfl) ?_))
      refine HLi.out.mono ?_
      rintro e w2 ⟨lv, rfl, hown, hb2⟩
      obtain ⟨la, lc, rfl⟩ := owns_slice hown
      have HTx := Lib.hid (isTexts_of_owns hown)
      have HB2 := Lib.hid hb2
      have hsz2 := hb2.size
      have HRd2 := Lib.hid (HRd.out.below hb2)
      clear hown hb2 x1 hmid
      go_wp2_with (at_builtin; refine wpList_append_read rfl (.tmp 18) (.tmp 24) rfl (.slice la (rdW i).length lc, i) w2.heap.size rfl (HRd2.out.below ((Below.refl w2.heap.size w2).alloc (Nat.le_refl _) _)) rfl (heap_alloc_last w2 _) ⟨_, _, rfl⟩ (texts_mono (HTx.out.below ((Below.refl w2.heap.size w2).alloc (Nat.le_refl _) _)) (fun k _ hk e => by have := (HRd.out.row.lt k e).2; omega)) (by omega) (by simp; omega) ?_; intro v' w3 hrd3 hg3; have HRd3 := Lib.hid hrd3; have HG3 := Lib.hid hg3; clear hrd3 hg3)
      go_roundw
      case rel =>
        refine ⟨_, rs ++ [(.slice la (rdW i).length lc, i)], rfl, by rw [List.length_append, List.length_singleton]; go_num, ?_, by simp; omega, HRd3.out, ?_⟩
        · rw [List.map_append, HRs.out, List.length_append, List.length_singleton, List.take_add_one, HI.out]
          rfl
        · have hb3 := (HBr.out.trans (HB2.out.mono hsz0)).alloc (by omega) (.cells #[.slice la (rdW i).length lc, .bool (rdOv i), .int .i64 (rdErr i).1, .int .i64 (rdErr i).2.1, .int .i64 (rdErr i).2.2] 95)
          exact hb3.grown HG3.out hb3.size (fun k e => (HRd.out.row.lt k e).1)
      case measure => simp [intOf]; omega
    · have hle : rs.length = ins.length := by omega
      have hmap : rs.map (·.2) = ins := by rw [hrs, hle, List.take_length]
      have q2 : ¬ (rs.length : Int) < (ins.length : Int) := by omega
      have hcell0 : ∃ G cap, lv = .slice (some ⟨G, 0, none⟩) ins.length cap ∧ ∀ j, j < ins.length → ∃ la lc, WR.cell? ⟨G, j * 5, none⟩ = some (.slice la (rdW (insF ins j)).length lc) ∧ WR.cell? ⟨G, j * 5 + 1, none⟩ = some (.bool (rdOv (insF ins j))) ∧
          WR.rangeAt G (j * 5 + 2) [.int .i64 (rdErr (insF ins j)).1, .int .i64 (rdErr (insF ins j)).2.1, .int .i64 (rdErr (insF ins j)).2.2] ∧ ∀ n l, (rdW (insF ins j))[n]? = some l → ∃ gb off, la = some ⟨gb, off, none⟩ ∧ WR.cell? ⟨gb, off + n, none⟩ = some (strV l) := by
        have hget : ∀ j, j < ins.length → ∃ lv, rs[j]? = some (lv, insF ins j) := fun j hj => by
          have h2 : rs[j]? = some (rs[j]'(by omega)) := List.getElem?_eq_getElem (by omega)
          refine ⟨(rs[j]'(by omega)).1, ?_⟩
          rw [h2]
          have h3 : (rs.map (·.2))[j]? = some (rs[j]'(by omega)).2 := by rw [List.getElem?_map, h2]; rfl
          rw [hmap] at h3
          rw [insF_at h3]
        obtain ⟨lv0, h0⟩ := hget 0 (by omega)
        obtain ⟨G, cap, _, _, hv, -⟩ := hrd.at h0
        refine ⟨G, cap, by rw [hv, hle], fun j hj => ?_⟩
        obtain ⟨lvj, hj2⟩ := hget j hj
        obtain ⟨G', cap', la, lc, hv', -, k0, k1, k2, k3⟩ := hrd.at hj2
        rw [hv] at hv'
        cases hv'
        exact ⟨la, lc, k0, k1, k2, k3⟩
      obtain ⟨G, cap, hlv, hcell⟩ := hcell0
      subst hlv
      have HCell := Lib.hid hcell
      have HBr := Lib.hid hbr
      have HSt0 : Steps ins.length A (startT (insF ins)) [] (startT (insF ins)) := .refl
      have HS0 := Lib.hid HSt0
      clear hcell hrd hrs hmap hlt hbr HSt0 hrl x4
      go_wp2_with fail
      clear hle q2
      go_loopw [7, 8] (fun sv nv wr => ∃ (E : Lines) (S : ByteArray) (t : PT), sv = .string S ∧ strV (joinL E) = .string S ∧ nv = .int .i64 E.length ∧ Steps ins.length A (startT (insF ins)) E t ∧ DocAt ins.length (insF ins) E.length t ∧ t.row = [] ∧ t.given = false ∧ wr = WR)
        (fun _ nv _ => (settle ins.length A (startT (insF ins))).1.length + 1 - (intOf nv).toNat)
      case atStart => exact ⟨[], _, startT (insF ins), rfl, rfl, rfl, HS0.out, docAt_start, rfl, rfl, rfl⟩
      case round =>
        obtain ⟨E, S, t, rfl, hS, rfl, hst, hdoc, hrow, hgiv, rfl⟩ := hrel
        rename World => WR
        have HS := Lib.hid hS
        have HSt := Lib.hid hst
        have HDoc := Lib.hid hdoc
        have HRow := Lib.hid hrow
        have HGiv := Lib.hid hgiv
        clear hS hst hdoc hrow hgiv
        go_wp2_with fail
        go_loopw [9, 10, 11] (fun rv gv iv wr => ∃ (t1 : PT) (R : ByteArray), rv = .string R ∧ strV (Lib.join t1.row A) = .string R ∧ gv = .bool t1.given ∧ iv = .int .i64 t1.row.length ∧ Steps ins.length A (startT (insF ins)) E t1 ∧ DocAt ins.length (insF ins) E.length t1 ∧ wr = WR)
          (fun _ _ iv _ => ins.length - (intOf iv).toNat)
        case atStart => exact ⟨t, _, rfl, by rw [HRow.out]; rfl, by rw [HGiv.out], by rw [HRow.out]; rfl, HSt.out, HDoc.out, rfl⟩
        case round =>
          obtain ⟨t1, R, rfl, hR, rfl, rfl, hst1, hdoc1, rfl⟩ := hrel
          rename World => WR
          obtain ⟨x1, x2, x2b, -, hbw⟩ := HX.out WR HBr.out
          have HBw := Lib.hid hbw
          have HSt1 := Lib.hid hst1
          have HDoc1 := Lib.hid hdoc1
          have hsize := hdoc1.size
          have hle1 := hdoc1.le
          have hjl := join_le A HA1.out t1.row
          have zR := strV_size hR
          have zA := strV_size HSA.out
          have hA1 := HA1.out
          have hbg := hst1.begins
          have htot := HTot.out
          have zS := strV_size HS.out
          clear hst1 hdoc1 hbw
          by_cases hlt : t1.row.length < ins.length
          · obtain ⟨la, lc, k0, k1, k2, k3⟩ := HCell.out _ hlt
            have hfc := HFc.out _ hlt
            have q0 : (0 : Int) ≤ (t1.row.length : Int) := by omega
            have q1 : (t1.row.length : Int) < (ins.length : Int) := by omega
            by_cases h0 : t1.row = []
            · have hrow0 := h0
              have q3 : ¬ (0 : Int) < (t1.row.length : Int) := by rw [h0]; simp
              have hP : strV [] = .string R := by rw [h0] at hR; exact hR
              have hPl : ∀ l, [] ++ l = Lib.join (t1.row ++ [l]) A := fun l => by rw [join_snoc, if_pos h0]; rfl
              have zP := strV_size hP
              have HPl := Lib.hid hPl
              have HP := Lib.hid hP
              clear hPl hP h0 hR hrow0
              by_cases hn : E.length < (rdW (insF ins t1.row.length)).length
              · obtain ⟨l, hl⟩ : ∃ l, (rdW (insF ins t1.row.length))[E.length]? = some l := ⟨(rdW (insF ins t1.row.length))[E.length]'hn, List.getElem?_eq_getElem hn⟩
                obtain ⟨gx, ox, rfl, hx⟩ := k3 _ l hl
                obtain ⟨Sl, hSl⟩ : ∃ S : ByteArray, strV l = .string S := ⟨_, rfl⟩
                rw [hSl] at hx
                have zl := strV_size hSl
                have hl1 := cW_mem _ l (List.mem_of_getElem? hl)
                have a2 := add_fits (S := R) (T := Sl) (by omega) (by omega)
                have hfin := strV_add HP.out hSl
                rw [HPl.out] at hfin
                have HFin := Lib.hid hfin
                obtain ⟨hm, hd⟩ := HDoc1.out.take (A := A) HFc.out hlt hl
                have HM := Lib.hid hm
                have HD := Lib.hid hd
                have q5 : (E.length : Int) < ((rdW (insF ins t1.row.length)).length : Int) := by omega
                have q6 : (0 : Int) ≤ (E.length : Int) := by omega
                clear hfin hm hd hSl hl hn k3 k2 k1 hl1 zl zP zR zS zA hA1
                go_wp2_with fail
                go_roundw
                case rel => exact ⟨_, _, rfl, HFin.out, rfl, by rw [List.length_append, List.length_singleton]; go_num, (by have := HSt1.out.step HM.out; rwa [List.append_nil] at this), HD.out, trivial⟩
                case measure => simp [intOf]; omega
              · have q5 : ¬ (E.length : Int) < ((rdW (insF ins t1.row.length)).length : Int) := by omega
                have HOv := Lib.hid (show t1.ov t1.row.length = rdOv (insF ins t1.row.length) by rw [HSt1.out.ov]; rfl)
                cases hov : rdOv (insF ins t1.row.length) with
                | true =>
                  rw [hov] at k1
                  obtain ⟨hm, hd⟩ := HDoc1.out.over (A := A) hlt (by omega) (by rw [HOv.out, hov])
                  have HM := Lib.hid hm
                  have HD := Lib.hid hd
                  have hfin := HP.out
                  have hj0 := HPl.out []
                  rw [List.append_nil] at hj0
                  rw [hj0] at hfin
                  have HFin := Lib.hid hfin
                  clear hfin hm hd hn k3 k2 hov hj0 zP zR zS zA hA1
                  go_wp2_with fail
                  go_roundw
                  case rel => exact ⟨⟨t1.W, t1.ov, t1.row ++ [[]], t1.given⟩, _, rfl, HFin.out, rfl, by rw [List.length_append, List.length_singleton]; go_num, (by have := HSt1.out.step HM.out; rwa [List.append_nil] at this), HD.out, trivial⟩
                  case measure => simp [intOf]; omega
                | false =>
                  rw [hov] at k1
                  have hstk := HDoc1.out.stuck hlt (by omega) (by rw [HOv.out, hov])
                  have hset := HSt1.out.settle
                  rw [settle_none hstk, List.append_nil] at hset
                  have hT2 : T = ⟨joinL E, false, (rdErr (insF ins t1.row.length)).1, (rdErr (insF ins t1.row.length)).2.1, (rdErr (insF ins t1.row.length)).2.2⟩ := by
                    rw [HT.out, pasteWantF, hset, if_pos hlt]
                  have HT2 := Lib.hid hT2
                  have hout := out_any (joinL E) false (rdErr (insF ins t1.row.length)).1 (rdErr (insF ins t1.row.length)).2.1 (rdErr (insF ins t1.row.length)).2.2 WR
                  rw [HS.out] at hout
                  have HOut := Lib.hid hout
                  clear hstk hset hT2 hout hn k3 hov
                  go_wp2_with (first | (refine wpList_load_mid rfl 59 (.tmp 69) rfl G (t1.row.length * 5 + 2) rfl _ _ k2 Tryd.underlying59 rfl (by kernel_rfl) ?_))
                  refine HOut.out.mono ?_
                  rintro e w5 h5
                  have h6 : OutEnd WR T e w5 := by rw [HT2.out]; exact h5
                  obtain ⟨v, rfl, hs, hb⟩ := h6.lower HBw.out
                  have HSS := Lib.hid hs
                  have HBB := Lib.hid hb
                  clear hs hb h5 h6
                  go_wp2_with fail
                  go_ret
                  exact ⟨v, rfl, HSS.out, HBB.out⟩
            · have hpos := List.length_pos_iff.2 h0
              have q3 : (0 : Int) < (t1.row.length : Int) := by omega
              have a1 := add_fits (S := R) (T := SA) (by omega) (by omega)
              have hP := strV_add hR HSA.out
              have hPl : ∀ l, (Lib.join t1.row A ++ A) ++ l = Lib.join (t1.row ++ [l]) A := fun l => by rw [join_snoc, if_neg h0, List.append_assoc]
              have zP := strV_size hP
              rw [List.length_append] at zP
              have HPl := Lib.hid hPl
              have HP := Lib.hid hP
              clear hPl hP h0 hR
              by_cases hn : E.length < (rdW (insF ins t1.row.length)).length
              · obtain ⟨l, hl⟩ : ∃ l, (rdW (insF ins t1.row.length))[E.length]? = some l := ⟨(rdW (insF ins t1.row.length))[E.length]'hn, List.getElem?_eq_getElem hn⟩
                obtain ⟨gx, ox, rfl, hx⟩ := k3 _ l hl
                obtain ⟨Sl, hSl⟩ : ∃ S : ByteArray, strV l = .string S := ⟨_, rfl⟩
                rw [hSl] at hx
                have zl := strV_size hSl
                have hl1 := cW_mem _ l (List.mem_of_getElem? hl)
                have a2 := add_fits (S := (R ++ SA)) (T := Sl) (by omega) (by omega)
                have zQ := zP
                rw [show (R ++ SA).size = R.size + SA.size from ByteArray.size_append ..] at zQ
                have b5 : R.size + SA.size + Sl.size ≤ 100000 := by omega
                have b6 : (R ++ SA).size + Sl.size ≤ 100000 := by omega
                clear zQ
                have hfin := strV_add HP.out hSl
                rw [HPl.out] at hfin
                have HFin := Lib.hid hfin
                obtain ⟨hm, hd⟩ := HDoc1.out.take (A := A) HFc.out hlt hl
                have HM := Lib.hid hm
                have HD := Lib.hid hd
                have q5 : (E.length : Int) < ((rdW (insF ins t1.row.length)).length : Int) := by omega
                have q6 : (0 : Int) ≤ (E.length : Int) := by omega
                clear hfin hm hd hSl hl hn k3 k2 k1 hl1 zl zP zR zS zA hA1
                go_wp2_with fail
                go_roundw
                case rel => exact ⟨_, _, rfl, HFin.out, rfl, by rw [List.length_append, List.length_singleton]; go_num, (by have := HSt1.out.step HM.out; rwa [List.append_nil] at this), HD.out, trivial⟩
                case measure => simp [intOf]; omega
              · have q5 : ¬ (E.length : Int) < ((rdW (insF ins t1.row.length)).length : Int) := by omega
                have HOv := Lib.hid (show t1.ov t1.row.length = rdOv (insF ins t1.row.length) by rw [HSt1.out.ov]; rfl)
                cases hov : rdOv (insF ins t1.row.length) with
                | true =>
                  rw [hov] at k1
                  obtain ⟨hm, hd⟩ := HDoc1.out.over (A := A) hlt (by omega) (by rw [HOv.out, hov])
                  have HM := Lib.hid hm
                  have HD := Lib.hid hd
                  have hfin := HP.out
                  have hj0 := HPl.out []
                  rw [List.append_nil] at hj0
                  rw [hj0] at hfin
                  have HFin := Lib.hid hfin
                  clear hfin hm hd hn k3 k2 hov hj0 zP zR zS zA hA1
                  go_wp2_with fail
                  go_roundw
                  case rel => exact ⟨⟨t1.W, t1.ov, t1.row ++ [[]], t1.given⟩, _, rfl, HFin.out, rfl, by rw [List.length_append, List.length_singleton]; go_num, (by have := HSt1.out.step HM.out; rwa [List.append_nil] at this), HD.out, trivial⟩
                  case measure => simp [intOf]; omega
                | false =>
                  rw [hov] at k1
                  have hstk := HDoc1.out.stuck hlt (by omega) (by rw [HOv.out, hov])
                  have hset := HSt1.out.settle
                  rw [settle_none hstk, List.append_nil] at hset
                  have hT2 : T = ⟨joinL E, false, (rdErr (insF ins t1.row.length)).1, (rdErr (insF ins t1.row.length)).2.1, (rdErr (insF ins t1.row.length)).2.2⟩ := by
                    rw [HT.out, pasteWantF, hset, if_pos hlt]
                  have HT2 := Lib.hid hT2
                  have hout := out_any (joinL E) false (rdErr (insF ins t1.row.length)).1 (rdErr (insF ins t1.row.length)).2.1 (rdErr (insF ins t1.row.length)).2.2 WR
                  rw [HS.out] at hout
                  have HOut := Lib.hid hout
                  clear hstk hset hT2 hout hn k3 hov
                  go_wp2_with (first | (refine wpList_load_mid rfl 59 (.tmp 69) rfl G (t1.row.length * 5 + 2) rfl _ _ k2 Tryd.underlying59 rfl (by kernel_rfl) ?_))
                  refine HOut.out.mono ?_
                  rintro e w5 h5
                  have h6 : OutEnd WR T e w5 := by rw [HT2.out]; exact h5
                  obtain ⟨v, rfl, hs, hb⟩ := h6.lower HBw.out
                  have HSS := Lib.hid hs
                  have HBB := Lib.hid hb
                  clear hs hb h5 h6
                  go_wp2_with fail
                  go_ret
                  exact ⟨v, rfl, HSS.out, HBB.out⟩
          · have hfull : ins.length ≤ t1.row.length := by omega
            have q1 : ¬ (t1.row.length : Int) < (ins.length : Int) := by omega
            cases hgv : t1.given with
            | false =>
              have hset := HSt1.out.settle
              rw [settle_none (.ended hfull hgv), List.append_nil] at hset
              have hT2 : T = ⟨joinL E, true, 0, 0, 0⟩ := by
                rw [HT.out, pasteWantF, hset, if_neg (by simp only; omega)]
              have HT2 := Lib.hid hT2
              have hout := out_any (joinL E) true 0 0 0 WR
              rw [HS.out] at hout
              have HOut := Lib.hid hout
              clear hset hT2 hout hgv zR zS
              go_wp2_with fail
              refine HOut.out.mono ?_
              rintro e w5 h5
              have h6 : OutEnd WR T e w5 := by rw [HT2.out]; exact h5
              obtain ⟨v, rfl, hs, hb⟩ := h6.lower HBw.out
              have HSS := Lib.hid hs
              have HBB := Lib.hid hb
              clear hs hb h5 h6
              go_wp2_with fail
              go_ret
              exact ⟨v, rfl, HSS.out, HBB.out⟩
            | true =>
              have hm := Micro.tell (N := ins.length) (A := A) (t := t1) hfull hgv
              have HSt2 := Lib.hid (HSt1.out.step hm)
              have HD := Lib.hid (HDoc1.out.tell hfull)
              have hbg2 := (HSt1.out.step hm).begins
              have a1 := add_fits (S := S) (T := R) (by omega) (by omega)
              have hSR := strV_add HS.out hR
              have zSR := strV_size hSR
              rw [List.length_append] at zSR
              have a2 := add_fits (S := S ++ R) (T := { data := #[10] }) (by omega) (by decide)
              have hfin := strV_add hSR strV_ten
              have hjs : joinL E ++ Lib.join t1.row A ++ [10] = joinL (E ++ [Lib.join t1.row A]) := by rw [joinL_snoc, List.append_assoc]
              rw [hjs] at hfin
              have HFin := Lib.hid hfin
              have HBg := Lib.hid hbg2
              have b3 : (S ++ R).size ≤ 100000 := by omega
              have b4 : S.size + R.size ≤ 100000 := by omega
              have q7 : (E.length : Int) ≤ 100000 := by have := rows_le E; omega
              clear hm hSR zSR hfin hjs hgv zR zS zA hA1 hR hbg2
              go_wp2_with fail
              go_roundw
              case rel => exact ⟨E ++ [Lib.join t1.row A], _, _, rfl, HFin.out, by rw [List.length_append, List.length_singleton]; go_num, HSt2.out, (by rw [List.length_append, List.length_singleton]; exact HD.out), rfl, rfl, trivial⟩
              case measure =>
                have := HBg.out.2
                simp only [List.length_append, List.length_singleton] at this
                simp [intOf]
                omega

/-! What paste comes to is what the document says. -/
theorem rdErr_bad {i : Strm} (h : rdBad i = true) : rdErr i = (20, -1, 0) ∧ rdOv i = false := by
  unfold rdBad at h
  rcases hc : cutL [] i.bytes with ⟨L, _ | d⟩
  · exact ⟨by unfold rdErr readL; rw [hc], (rd_bad hc).2.1⟩
  · rw [hc] at h; cases h
theorem rdErr_open {i : Strm} (h : rdBad i = false) (ho : rdOv i = false) : rdErr i = (i.code, i.stage, i.id) := by
  unfold rdBad at h
  rcases hc : cutL [] i.bytes with ⟨L, _ | d⟩
  · rw [hc] at h; cases h
  · cases he : i.ended with
    | true => rw [(rd_ended hc he).2.1] at ho; cases ho
    | false => unfold rdErr readL; rw [hc, he]; rfl
theorem paste_case (N : Nat) (A B : List UInt8) (ins : List Strm) (g : GotL) (hlen : ins.length = pasteIns N) (h1 : g.outs = (pasteFin N A B ins).outs) (h2 : g.need = (pasteFin N A B ins).need) (h3 : g.err = (pasteFin N A B ins).err) :
    g.outs 0 = (pasteWant N A B ins).bytes ∧ g.outs 1 = [] ∧ g.outs 2 = [] ∧ g.outs 3 = [] ∧ SameCase g ins (pasteWant N A B ins) := by
  have hb : (pasteWant N A B ins).bytes = joinL (settle N A (startT (insF ins))).1 := by
    unfold pasteWant pasteWantF
    split <;> rfl
  refine ⟨by rw [h1, hb]; rfl, by rw [h1]; rfl, by rw [h1]; rfl, by rw [h1]; rfl, ?_⟩
  have hst := settle_stuck (N := N) (A := A) (startT (insF ins))
  have hov := (settle_ext (N := N) (A := A) (fun _ => []) (fun _ => false) (startT (insF ins)) (fun _ _ => rfl)).2
  unfold SameCase pasteWant pasteWantF
  have hn : g.need = pasteNeed N (settle N A (startT (insF ins))).2 (insF ins) := h2
  have he : g.err = pasteErr N (settle N A (startT (insF ins))).2 (insF ins) := h3
  unfold pasteNeed at hn
  unfold pasteErr at he
  generalize settle N A (startT (insF ins)) = R at hst hov hn he ⊢
  by_cases hlt : R.2.row.length < N
  · rw [if_pos hlt] at hn ⊢
    obtain ⟨i, hi⟩ : ∃ i, ins[R.2.row.length]? = some i := ⟨ins[R.2.row.length]'(by rw [hlen]; exact hlt), List.getElem?_eq_getElem _⟩
    have hF := insF_at hi
    have hov2 : rdOv i = false := by
      cases hst with
      | waits k1 k2 k3 =>
        rw [hov] at k3
        rw [← hF]
        exact k3
      | ended k1 k2 => omega
    rw [hF] at hn he ⊢
    by_cases hbad : rdBad i = true
    · rw [if_pos hbad] at hn
      rw [if_pos ⟨hlt, hbad⟩] at he
      obtain ⟨e1, -⟩ := rdErr_bad hbad
      rw [e1]
      exact .inr (.inl ⟨rfl, hn, by omega, by show (20 : Int) = g.err; omega⟩)
    · rw [if_neg hbad] at hn
      rw [if_neg (fun k => hbad k.2)] at he
      have e1 := rdErr_open (by simpa using hbad) hov2
      rw [e1]
      exact .inr (.inr ⟨rfl, he, _, i, hn, hi, rfl, rfl, rfl⟩)
  · rw [if_neg hlt] at hn ⊢
    rw [if_neg (fun k => hlt k.1)] at he
    exact .inl ⟨rfl, hn, he⟩

end Go.Proofs.YteghdepedlaneaaDoor

namespace Go.Proofs.YteghdepedlaneaaDoor
open Go.RowKit

/-- The field of input j in row n. -/
def fldC (f : Nat → Strm) (n j : Nat) : List UInt8 := ((rdW (f j))[n]?).getD []
def fieldsC (f : Nat → Strm) (n : Nat) : Nat → Nat → Lines
  | _, 0 => []
  | i, k + 1 => fldC f n i :: fieldsC f n (i + 1) k
theorem fieldsC_len (f : Nat → Strm) (n : Nat) : ∀ k i, (fieldsC f n i k).length = k
  | 0, _ => rfl
  | k + 1, i => by rw [fieldsC, List.length_cons, fieldsC_len f n k]
/-- What stands behind the field of input j. -/
def endsC (N : Nat) (A : List UInt8) (j : Nat) : List UInt8 := if j + 1 = N then [10] else A
def tailC (N : Nat) (A : List UInt8) (f : Nat → Strm) (n : Nat) : Nat → Nat → List UInt8
  | _, 0 => []
  | i, k + 1 => (fldC f n i ++ endsC N A i) ++ tailC N A f n (i + 1) k
def rowsC (N : Nat) (A : List UInt8) (f : Nat → Strm) : Nat → Nat → List UInt8
  | _, 0 => []
  | n, k + 1 => tailC N A f n 0 N ++ rowsC N A f (n + 1) k
def maxN (f : Nat → Nat) : Nat → Nat
  | 0 => 0
  | n + 1 => max (maxN f n) (f n)
theorem maxN_lt (f : Nat → Nat) (m : Nat) : ∀ n, m < maxN f n ↔ ∃ j, j < n ∧ m < f j
  | 0 => ⟨fun h => absurd h (Nat.not_lt_zero _), fun ⟨j, h, _⟩ => absurd h (Nat.not_lt_zero _)⟩
  | n + 1 => by
    have ih := maxN_lt f m n
    constructor
    · intro h
      have h' : m < maxN f n ∨ m < f n := by rw [maxN] at h; omega
      rcases h' with h' | h'
      · obtain ⟨j, h1, h2⟩ := ih.1 h'
        exact ⟨j, by omega, h2⟩
      · exact ⟨n, by omega, h'⟩
    · rintro ⟨j, h1, h2⟩
      by_cases hj : j = n
      · subst hj; rw [maxN]; omega
      · have := ih.2 ⟨j, by omega, h2⟩
        rw [maxN]; omega
section
variable {N : Nat} {A : List UInt8} {f : Nat → Strm}
theorem join_two (x y : List UInt8) (r : Lines) : Lib.join (x :: y :: r) A = x ++ (A ++ Lib.join (y :: r) A) := by
  rw [Lib.join_cons, Lib.join_cons]
  simp [Lib.joinTail]
theorem tailC_join (n : Nat) : ∀ k i, i + k = N → 0 < k → tailC N A f n i k = Lib.join (fieldsC f n i k) A ++ [10]
  | 0, _, _, h => absurd h (Nat.lt_irrefl _)
  | 1, i, h, _ => by
    rw [tailC, tailC, fieldsC, fieldsC, endsC, if_pos h, Lib.join_one, List.append_nil]
  | k + 2, i, h, _ => by
    have ih := tailC_join n (k + 1) (i + 1) (by omega) (by omega)
    rw [tailC, ih, endsC, if_neg (by omega), show fieldsC f n i (k + 2) = fldC f n i :: fldC f n (i + 1) :: fieldsC f n (i + 1 + 1) k from rfl, join_two, show fieldsC f n (i + 1) (k + 1) = fldC f n (i + 1) :: fieldsC f n (i + 1 + 1) k from rfl]
    simp only [List.append_assoc]
/-- The row is filled. -/
theorem fill_all (hf : ∀ j, j < N → cW (rdW (f j)) ≤ 4001) (n : Nat) : ∀ (k : Nat) (t : PT), DocAt N f n t → t.row.length + k = N → (∀ j, j < N → t.ov j = true) →
    ∃ t', Steps N A t [] t' ∧ DocAt N f n t' ∧ t'.row = t.row ++ fieldsC f n t.row.length k ∧ (t'.given = true ↔ t.given = true ∨ ∃ j, t.row.length ≤ j ∧ j < N ∧ n < (rdW (f j)).length)
  | 0, t, hd, hk, _ => ⟨t, .refl, hd, by simp [fieldsC], ⟨.inl, fun h => h.elim id fun ⟨j, h1, h2, _⟩ => by omega⟩⟩
  | k + 1, t, hd, hk, ho => by
    have hlt : t.row.length < N := by omega
    by_cases hn : n < (rdW (f t.row.length)).length
    · obtain ⟨l, hl⟩ : ∃ l, (rdW (f t.row.length))[n]? = some l := ⟨(rdW (f t.row.length))[n]'hn, List.getElem?_eq_getElem hn⟩
      obtain ⟨hm, hd2⟩ := hd.take (A := A) hf hlt hl
      obtain ⟨t', h1, h2, h3, h4⟩ := fill_all hf n k _ hd2 (by simp; omega) ho
      refine ⟨t', (Steps.refl.more hm).trans h1, h2, ?_, ?_⟩
      · rw [h3, fieldsC, fldC, hl]
        simp
      · rw [h4]
        exact ⟨fun _ => .inr ⟨_, Nat.le_refl _, hlt, hn⟩, fun _ => .inl rfl⟩
    · obtain ⟨hm, hd2⟩ := hd.over (A := A) hlt (by omega) (ho _ hlt)
      obtain ⟨t', h1, h2, h3, h4⟩ := fill_all hf n k _ hd2 (by simp; omega) ho
      refine ⟨t', (Steps.refl.more hm).trans h1, h2, ?_, ?_⟩
      · rw [h3, fieldsC, fldC, List.getElem?_eq_none (by omega)]
        simp
      · rw [h4]
        simp only [List.length_append, List.length_singleton]
        refine ⟨fun h => h.elim .inl fun ⟨j, h1, h2, h3⟩ => .inr ⟨j, by omega, h2, h3⟩, fun h => h.elim .inl fun ⟨j, h1, h2, h3⟩ => .inr ⟨j, ?_, h2, h3⟩⟩
        by_cases e : j = t.row.length
        · subst e; omega
        · omega
/-- All rows. -/
theorem columns (hf : ∀ j, j < N → cW (rdW (f j)) ≤ 4001) (h1 : 1 ≤ N) : ∀ (k n : Nat) (t : PT), DocAt N f n t → t.row = [] → t.given = false → (∀ j, j < N → t.ov j = true) → n + k = maxN (fun j => (rdW (f j)).length) N ∨ (k = 0 ∧ maxN (fun j => (rdW (f j)).length) N ≤ n) →
    joinL (settle N A t).1 = rowsC N A f n k ∧ N ≤ (settle N A t).2.row.length
  | 0, n, t, hd, hr, hg, ho, hk => by
    obtain ⟨t', s1, s2, s3, s4⟩ := fill_all (A := A) hf n N t hd (by rw [hr]; simp) ho
    have hlen : N ≤ t'.row.length := by rw [s3, hr, List.nil_append, fieldsC_len]; exact Nat.le_refl _
    have hng : t'.given = false := by
      cases hgv : t'.given with
      | false => rfl
      | true =>
        obtain h | ⟨j, -, h2, h3⟩ := s4.1 hgv
        · rw [hg] at h; cases h
        · have := (maxN_lt (fun j => (rdW (f j)).length) n N).2 ⟨j, h2, h3⟩
          omega
    rw [s1.settle, settle_none (.ended hlen hng)]
    exact ⟨rfl, hlen⟩
  | k + 1, n, t, hd, hr, hg, ho, hk => by
    have hk' : n + (k + 1) = maxN (fun j => (rdW (f j)).length) N := by
      rcases hk with h | h
      · exact h
      · omega
    obtain ⟨t', s1, s2, s3, s4⟩ := fill_all (A := A) hf n N t hd (by rw [hr]; simp) ho
    have hrow : t'.row = fieldsC f n 0 N := by rw [s3, hr]; rfl
    have hlen : N ≤ t'.row.length := by rw [hrow, fieldsC_len]; exact Nat.le_refl _
    have hgv : t'.given = true := by
      obtain ⟨j, h2, h3⟩ := (maxN_lt (fun j => (rdW (f j)).length) n N).1 (by omega)
      exact s4.2 (.inr ⟨j, by rw [hr]; exact Nat.zero_le _, h2, h3⟩)
    have hm := Micro.tell (N := N) (A := A) (t := t') hlen hgv
    have hov : ∀ j, j < N → t'.ov j = true := fun j hj => by rw [s1.ov]; exact ho j hj
    obtain ⟨i1, i2⟩ := columns hf h1 k (n + 1) _ (s2.tell hlen) rfl rfl hov (.inl (by omega))
    rw [s1.settle, settle_some hm]
    refine ⟨?_, i2⟩
    simp only [List.nil_append, List.singleton_append]
    rw [show ∀ (x : List UInt8) (L : Lines), joinL (x :: L) = (x ++ [10]) ++ joinL L from fun x L => by simp [joinL], i1, rowsC, hrow, tailC_join n N 0 (by omega) h1]
end

/-! The law's slice of slices of texts. -/
theorem Tryd.infoT : (Tryd.prog.info? 65).map (fun i => (i.zero, i.size, i.bytes)) = some (some (.slice none 0 0), 1, 24) := by kernel_rfl
structure AllIn (base : Nat) (rs : List (Value × Lines)) (v : Value) (w : World) : Prop where
  row : w.ownsRow base 65 1 v rs.length (rs.map (·.1))
  texts : ∀ p ∈ rs, (∃ la lc, p.1 = .slice la p.2.length lc ∧ p.2.length ≤ lc) ∧ IsTexts (fun k => v.ownBlock ≠ some k) w p.1 p.2
theorem AllIn.nil (base : Nat) (w : World) : AllIn base [] (.slice none 0 0) w := ⟨World.ownsRow_nil w base _ 1, fun p h => by cases h⟩
theorem AllIn.below {base : Nat} {rs : List (Value × Lines)} {v : Value} {w w' : World} (h : AllIn base rs v w) (hb : Below w.heap.size w w') : AllIn base rs v w' :=
  ⟨(Below.toFrame hb fun _ => False).owns h.row (fun _ _ h => h), fun p hp => ⟨(h.texts p hp).1, (h.texts p hp).2.below hb⟩⟩
theorem AllIn.at {base : Nat} {rs : List (Value × Lines)} {v : Value} {w : World} (h : AllIn base rs v w) {j : Nat} {p : Value × Lines} (hj : rs[j]? = some p) :
    ∃ g cap la lc, v = .slice (some ⟨g, 0, none⟩) rs.length cap ∧ w.cell? ⟨g, j, none⟩ = some (.slice la p.2.length lc) ∧ ∀ n l, p.2[n]? = some l → ∃ gb off, la = some ⟨gb, off, none⟩ ∧ w.cell? ⟨gb, off + n, none⟩ = some (strV l) := by
  have hlt := (List.getElem?_eq_some_iff.1 hj).1
  obtain ⟨⟨la, lc, hp1, hc⟩, _, _, e, hx⟩ := h.texts p (List.mem_of_getElem? hj)
  rw [hp1] at e
  cases e
  have h' := h.row
  rcases h'.2 with ⟨rfl, h0⟩ | ⟨g, cap, cur, hv, -⟩
  · omega
  · have := World.ownsRow.cells (hv ▸ h') (g := g) rfl j p.1 (by rw [List.getElem?_map, hj]; rfl)
    rw [Addr.add_mid, Nat.zero_add, hp1] at this
    exact ⟨g, cap, la, lc, hv, this, fun n l hl => by
      obtain ⟨gb, off, e, -, hh⟩ := hx n l hl
      exact ⟨gb, off, e, hh⟩⟩
theorem wpList_append_all {ops : Array Oper} {rest : List Oper} {o : Oper} {a : Act} {w : World} {Q : Exit → Act → World → Prop} (hgd : o.guard = none) (s x : Operand) (ho : o.op = .call { callee := .builtin .append, args := #[s, x], argTypes := #[64, 64] })
    {base : Nat} {v : Value} {rs : List (Value × Lines)} (t : Value × Lines) (gy : Nat) (hs : a.eval s = v) (hr : AllIn base rs v w) (hx : a.eval x = .slice (some ⟨gy, 0, none⟩) 1 1) (hsrc : w.heap[gy]? = some (.cells #[t.1] 65 (0, 0)))
    (hone : ∃ la lc, t.1 = .slice la t.2.length lc ∧ t.2.length ≤ lc) (ht : IsTexts (fun k => v.ownBlock ≠ some k) w t.1 t.2) (hlen : rs.length ≤ 1000000) (hbase : base ≤ w.heap.size)
    (h : ∀ v' w', AllIn base (rs ++ [t]) v' w' → w.grownBy w' v.ownBlock → wpList Tryd.prog ops Q rest (a.put o.dst v') w') : wpList Tryd.prog ops Q (o :: rest) a w := by
  obtain ⟨i0, hi, hz0, hz1, hz2⟩ := info_parts Tryd.infoT
  refine wpList_append_own_at w hgd s x 64 ho base 65 i0 (.slice none 0 0) 1 24 (by kernel_rfl) hi hz0 hz1 hz2 rfl (by decide) v rs.length _ hs hr.row ⟨gy, 0, none⟩ 1 1 [t.1] hx rfl
    (fun j u hu => ?_) (fun u hu => by
      rw [List.mem_singleton.1 hu]
      obtain ⟨tb, tc, e, -⟩ := hone
      rw [e]
      rfl) (by unfold maxLen; omega) (by omega) hbase ?_
  · rw [Addr.add_mid, Nat.zero_add, cell_of_row _ _ _ _ _ _ hsrc]
    simpa using hu
  intro v' w' ho' hg' _ hv'
  have hf : Frame (fun k => v.ownBlock = some k) w w' := (Frame.refl _ w).grown hg' (fun k _ e => e)
  have hkept : ∀ {u : Value} {L : Lines}, IsTexts (fun k => v.ownBlock ≠ some k) w u L → IsTexts (fun k => v'.ownBlock ≠ some k) w' u L := fun {u L} hu => by
    refine texts_mono ((texts_mono hu (q := fun k => v.ownBlock ≠ some k ∧ v'.ownBlock ≠ some k) fun k hk hn => ⟨hn, fun e => ?_⟩).frame hf (fun k hk e => hk.1 e)) fun k _ hk => hk.2
    rcases hv' with e2 | e2
    · exact hn (e2 ▸ e)
    · rw [e2] at e; injection e; omega
  refine h v' w' ⟨?_, fun p hp => ?_⟩ hg'
  · rw [List.map_append, List.length_append]
    exact ho'
  · rcases List.mem_append.1 hp with hp | hp
    · exact ⟨(hr.texts p hp).1, hkept (hr.texts p hp).2⟩
    · rw [List.mem_singleton.1 hp]; exact ⟨hone, hkept ht⟩

end Go.Proofs.YteghdepedlaneaaDoor
