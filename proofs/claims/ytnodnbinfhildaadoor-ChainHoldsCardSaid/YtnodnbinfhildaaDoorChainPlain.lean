/- Plainly: chain. -/
import Derived.Test.YtnodnbinfhildaaDoorBytem
import Derived.Test.YtnodnbinfhildaaDoorTellBytes
import Derived.Test.YtnodnbinfhildaaDoorRB
namespace Go.Proofs.YtnodnbinfhildaaDoor

/-- The state: which input is read; N, when all have ended. -/
def chainMach (N : Nat) : Mach Nat where
  need s := if s < N then (s : Int) else -1
  held _ := 0
  feed s x := (s, bytesO 0 x, 0)
  fin s := (s + 1, [], 0)
  more s := (s, [], 0)

/-- The inputs, one behind the other, up to the first that has not ended. -/
def chainL : List Strm → List UInt8
  | [] => []
  | i :: r => i.bytes ++ if i.ended then chainL r else []
/-- Which that is. -/
def chainK : List Strm → Nat
  | [] => 0
  | i :: r => if i.ended then chainK r + 1 else 0
def chainFin (_ : Nat) (_ _ : List UInt8) (ins : List Strm) : Fin := ⟨fun j => if j = 0 then chainL ins else [], if chainK ins < ins.length then (chainK ins : Int) else -1, 0⟩

/-- How many bytes are still to come. -/
def restN (ins : List Strm) (s t : Nat) : Nat := ((ins.drop s).map (·.bytes.length)).sum - t
theorem drop_strm {ins : List Strm} {s : Nat} {i : Strm} (h : ins[s]? = some i) : ins.drop s = i :: ins.drop (s + 1) := by
  obtain ⟨hk, rfl⟩ := List.getElem?_eq_some_iff.1 h
  exact List.drop_eq_getElem_cons hk

theorem chain_drive_to (ins : List Strm) (cuts : List Int) : ∀ (f n : Nat) (x : DS Nat), x.got.need = (chainMach ins.length).need x.s → x.s ≤ ins.length → x.got.err = 0 → (∀ j, x.s ≤ j → x.told j = false) → (∀ j, x.s < j → x.got.taken j = 0) → (∀ t, ins[x.s]? = some t → x.got.taken x.s ≤ t.bytes.length) →
    (x.s = ins.length → x.got.taken x.s = 0) → restN ins x.s (x.got.taken x.s) + (ins.length - x.s) + 1 ≤ f →
    (drive (chainMach ins.length) ins cuts f n x).got.outs = (fun j => if j = 0 then x.got.outs 0 ++ (chainL (ins.drop x.s)).drop (x.got.taken x.s) else x.got.outs j) ∧ (drive (chainMach ins.length) ins cuts f n x).got.err = 0 ∧
    (drive (chainMach ins.length) ins cuts f n x).got.need = if x.s + chainK (ins.drop x.s) < ins.length then ((x.s + chainK (ins.drop x.s) : Nat) : Int) else -1 := by
  intro f
  induction f with
  | zero => intro n x _ _ _ _ _ _ _ h; omega
  | succ f ih =>
    intro n x hn hs he ho ht hb hz hf
    by_cases hlt : x.s < ins.length
    · obtain ⟨i, hi⟩ : ∃ i, ins[x.s]? = some i := ⟨ins[x.s], List.getElem?_eq_getElem hlt⟩
      have hd := drop_strm hi
      have hle := hb i hi
      have hn0 : x.got.need = (x.s : Int) := by rw [hn]; exact if_pos hlt
      have hk : x.got.need.toNat = x.s := by rw [hn0]; rfl
      rw [drive, if_pos ⟨he, by rw [hn0]; omega⟩]
      by_cases hmore : x.got.taken x.s < i.bytes.length
      · have hst : step (chainMach ins.length) ins cuts n x = some (after (chainMach ins.length) (took x x.s (toAt cuts x n x.s i.bytes)) ((chainMach ins.length).feed x.s (chunkAt cuts x n x.s i.bytes))) := by
          rw [step, if_neg (by rw [hn0]; omega), hk, hi]
          simp only
          rw [if_pos hmore]
        rw [hst]
        simp only
        have hc := cutAt_le cuts n
        have hq1 : x.got.taken x.s < toAt cuts x n x.s i.bytes := by unfold toAt; omega
        have hq2 : toAt cuts x n x.s i.bytes ≤ i.bytes.length := by unfold toAt; omega
        have hch : chunkAt cuts x n x.s i.bytes = (i.bytes.take (toAt cuts x n x.s i.bytes)).drop (x.got.taken x.s) := rfl
        generalize toAt cuts x n x.s i.bytes = q at hq1 hq2 hch ⊢
        generalize chunkAt cuts x n x.s i.bytes = ch at hch ⊢
        have hsplit : (chainL (ins.drop x.s)).drop (x.got.taken x.s) = ch ++ (chainL (ins.drop x.s)).drop q := by
          rw [hd, chainL, hch, List.drop_append_of_le_length (by omega), List.drop_append_of_le_length hq2, ← List.append_assoc]
          congr 1
          have h1 := List.take_append_drop q i.bytes
          have h2 := congrArg (List.drop (x.got.taken x.s)) h1
          rw [List.drop_append_of_le_length (by simp; omega)] at h2
          exact h2.symm
        have hy1 : (after (chainMach ins.length) (took x x.s q) ((chainMach ins.length).feed x.s ch)).got.taken x.s = q := if_pos rfl
        have := ih (n + 1) (after (chainMach ins.length) (took x x.s q) ((chainMach ins.length).feed x.s ch)) rfl hs rfl ho (fun j hj => by
            show (if j = x.s then q else x.got.taken j) = 0
            have hj' : x.s < j := hj
            rw [if_neg (by omega)]
            exact ht j hj') (fun t h => by
            have h' : ins[x.s]? = some t := h
            rw [hi] at h'
            cases h'
            rw [show (after (chainMach ins.length) (took x x.s q) ((chainMach ins.length).feed x.s ch)).s = x.s from rfl, hy1]
            exact hq2) (fun e => by
            have e' : x.s = ins.length := e
            omega) (by
            rw [show (after (chainMach ins.length) (took x x.s q) ((chainMach ins.length).feed x.s ch)).s = x.s from rfl, hy1]
            have hsum : i.bytes.length ≤ ((ins.drop x.s).map (·.bytes.length)).sum := by rw [hd]; simp
            unfold restN at hf ⊢
            omega)
        rw [show (after (chainMach ins.length) (took x x.s q) ((chainMach ins.length).feed x.s ch)).s = x.s from rfl, hy1] at this
        obtain ⟨g1, g2, g3⟩ := this
        refine ⟨?_, g2, g3⟩
        rw [g1, hsplit]
        have hp : (after (chainMach ins.length) (took x x.s q) ((chainMach ins.length).feed x.s ch)).got.outs = fun j => if j = 0 then x.got.outs j ++ ch else x.got.outs j := putOuts_single 0 ch x.got.outs
        rw [hp]
        funext j
        by_cases hj : j = 0
        · subst hj
          simp
        · simp [hj]
      · have ht0 : x.got.taken x.s = i.bytes.length := by omega
        by_cases hend : i.ended = true
        · have hst : step (chainMach ins.length) ins cuts n x = some (after (chainMach ins.length) (tells x x.s) ((chainMach ins.length).fin x.s)) := by
            rw [step, if_neg (by rw [hn0]; omega), hk, hi]
            simp only
            rw [if_neg hmore, if_pos ⟨hend, ho _ (Nat.le_refl _)⟩]
          rw [hst]
          simp only
          have hys : (after (chainMach ins.length) (tells x x.s) ((chainMach ins.length).fin x.s)).s = x.s + 1 := rfl
          have hyt : (after (chainMach ins.length) (tells x x.s) ((chainMach ins.length).fin x.s)).got.taken = x.got.taken := rfl
          have h0 : x.got.taken (x.s + 1) = 0 := ht _ (by omega)
          have := ih (n + 1) (after (chainMach ins.length) (tells x x.s) ((chainMach ins.length).fin x.s)) rfl (by rw [hys]; omega) rfl (fun j hj => by
              rw [hys] at hj
              show (if j = x.s then true else x.told j) = false
              rw [if_neg (by omega)]
              exact ho j (by omega)) (fun j hj => by rw [hys] at hj; rw [hyt]; exact ht j (by omega)) (fun t _ => by rw [hys, hyt, h0]; exact Nat.zero_le _) (fun _ => by rw [hys, hyt, h0]) (by
              rw [hys, hyt, h0]
              unfold restN at hf ⊢
              rw [hd, List.map_cons, List.sum_cons] at hf
              omega)
          rw [hys, hyt, h0] at this
          obtain ⟨g1, g2, g3⟩ := this
          refine ⟨?_, g2, ?_⟩
          · rw [g1, hd, chainL, if_pos hend, ht0, List.drop_left, List.drop_zero]
            rfl
          · rw [g3, hd, chainK, if_pos hend]
            rw [show x.s + 1 + chainK (ins.drop (x.s + 1)) = x.s + (chainK (ins.drop (x.s + 1)) + 1) by omega]
        · have hst : step (chainMach ins.length) ins cuts n x = none := by
            rw [step, if_neg (by rw [hn0]; omega), hk, hi]
            simp only
            rw [if_neg hmore, if_neg (fun h => hend h.1)]
          rw [hst]
          simp only
          refine ⟨?_, he, ?_⟩
          · rw [hd, chainL, if_neg hend, ht0, List.append_nil, List.drop_length]
            funext j
            by_cases hj : j = 0
            · subst hj
              simp
            · simp [hj]
          · rw [hd, chainK, if_neg hend, Nat.add_zero, if_pos hlt, hn0]
    · have hse : x.s = ins.length := by omega
      have hn1 : x.got.need = -1 := by rw [hn]; exact if_neg hlt
      have hz0 := hz hse
      rw [hse] at hz0
      rw [drive_stop _ _ _ _ _ _ (fun h => h.2 hn1), hse, hz0, List.drop_length]
      refine ⟨?_, he, ?_⟩
      · funext j
        by_cases hj : j = 0
        · subst hj
          simp [chainL]
        · simp [hj]
      · rw [hn1, chainK, if_neg (by omega)]

theorem sum_le (L : List Strm) (h : ∀ t ∈ L, t.bytes.length ≤ 4000) : (L.map (·.bytes.length)).sum ≤ 4000 * L.length := by
  induction L with
  | nil => simp
  | cons i r ih =>
    have h1 := h i (List.mem_cons_self ..)
    have h2 := ih (fun t ht => h t (List.mem_cons_of_mem _ ht))
    simp only [List.map_cons, List.sum_cons, List.length_cons]
    omega
theorem chain_driven_to (N : Nat) (A B : List UInt8) (ins : List Strm) (cuts : List Int) (h4 : N ≤ 4) (hlen : ins.length = N) (hl : ∀ t ∈ ins, t.bytes.length ≤ 4000) :
    (drive (chainMach N) ins cuts 100000 0 (start (chainMach N) 0)).got.outs = (chainFin N A B ins).outs ∧ (drive (chainMach N) ins cuts 100000 0 (start (chainMach N) 0)).got.need = (chainFin N A B ins).need ∧ (drive (chainMach N) ins cuts 100000 0 (start (chainMach N) 0)).got.err = (chainFin N A B ins).err := by
  subst hlen
  have hs := sum_le ins hl
  obtain ⟨h1, h2, h3⟩ := chain_drive_to ins cuts 100000 0 (start (chainMach ins.length) 0) rfl (Nat.zero_le _) rfl (fun _ _ => rfl) (fun _ _ => rfl) (fun _ _ => Nat.zero_le _) (fun _ => rfl) (by
    show restN ins 0 0 + (ins.length - 0) + 1 ≤ 100000
    unfold restN
    rw [List.drop_zero]
    omega)
  refine ⟨?_, ?_, h2⟩
  · rw [h1]
    funext j
    show (if j = 0 then [] ++ (chainL (ins.drop 0)).drop 0 else []) = if j = 0 then chainL ins else []
    simp
  · rw [h3]
    show (if 0 + chainK (ins.drop 0) < ins.length then ((0 + chainK (ins.drop 0) : Nat) : Int) else -1) = if chainK ins < ins.length then (chainK ins : Int) else -1
    simp
theorem chain_kept (N : Nat) (ins : List Strm) (cuts : List Int) : (drive (chainMach N) ins cuts 100000 0 (start (chainMach N) 0)).got.held ≤ 0 :=
  (drive_inv (chainMach N) (fun _ => True) 0 (fun _ _ => Int.le_refl 0) (fun _ _ _ => trivial) (fun _ _ => trivial) (fun _ _ => trivial) ins cuts 100000 0 (start (chainMach N) 0) trivial (Int.le_refl 0)).2

end Go.Proofs.YtnodnbinfhildaaDoor
