/- Plainly: of two inputs whose keys rise, join tells all pairs of lines of one key. -/
import Derived.Test.YtchepmikbnnnhaaDoorJnA
namespace Go.Proofs.YtchepmikbnnnhaaDoor

theorem lessL_trans : ∀ x y z : List UInt8, lessL x y = true → lessL z y = false → lessL x z = true
  | [], [], _, h, _ => by cases h
  | [], _ :: _, [], _, h => by cases h
  | [], _ :: _, _ :: _, _, _ => rfl
  | _ :: _, [], _, h, _ => by cases h
  | a :: x, b :: y, [], _, h => by cases h
  | a :: x, b :: y, c :: z, h1, h2 => by
    have ih := lessL_trans x y z
    unfold lessL at h1 h2 ih ⊢
    rw [Op.bytesLess] at h1 h2 ⊢
    simp only [Bool.or_eq_true, decide_eq_true_eq, Bool.and_eq_true, beq_iff_eq, Bool.or_eq_false_iff, decide_eq_false_iff_not, Bool.and_eq_false_iff] at h1 h2 ⊢
    obtain ⟨k1, k2⟩ := h2
    have hbc : b ≤ c := UInt8.not_lt.1 k1
    rcases h1 with h1 | ⟨rfl, h1⟩
    · exact .inl (UInt8.lt_of_lt_of_le h1 hbc)
    · by_cases e : a = c
      · subst e
        exact .inr ⟨rfl, ih h1 (k2.resolve_left (by simp))⟩
      · exact .inl (UInt8.lt_of_le_of_ne hbc e)

/-! The law's rises. -/
def riseL (a : UInt8) (N : Nat) : Nat → List UInt8 → Lines → Bool
  | _, _, [] => true
  | run, o, l :: r => if lessL (keyL a l) (keyL a o) = true then false else if N < (if lessL (keyL a o) (keyL a l) = true then 1 else run + 1) then false else riseL a N (if lessL (keyL a o) (keyL a l) = true then 1 else run + 1) l r
def risesL (a : UInt8) (N : Nat) : Lines → Bool
  | [] => true
  | l :: r => riseL a N 1 l r
section
variable {N : Nat} {a : UInt8}
theorem rise_ge : ∀ (W : Lines) (run : Nat) (o : List UInt8), riseL a N run o W = true → ∀ x ∈ W, lessL (keyL a x) (keyL a o) = false
  | [], _, _, _ => fun x hx => by cases hx
  | l :: r, run, o, h => fun x hx => by
    rw [riseL] at h
    by_cases h1 : lessL (keyL a l) (keyL a o) = true
    · rw [if_pos h1] at h
      cases h
    rw [if_neg h1] at h
    generalize (if lessL (keyL a o) (keyL a l) = true then 1 else run + 1) = run' at h
    by_cases h2 : N < run'
    · rw [if_pos h2] at h
      cases h
    rw [if_neg h2] at h
    have h1' : lessL (keyL a l) (keyL a o) = false := by simpa using h1
    rcases List.mem_cons.1 hx with rfl | hx
    · exact h1'
    · have h3 := rise_ge r _ l h x hx
      cases hc : lessL (keyL a x) (keyL a o) with
      | false => rfl
      | true =>
        have := lessL_trans _ _ _ hc h1'
        rw [this] at h3
        cases h3
/-- A whole group, and what waits behind it. -/
structure Whole (N : Nat) (a : UInt8) (W G : Lines) : Prop where
  ne : G ≠ []
  again : readG N a true W G = (W, G, 1)
  rises : risesL a N W = true
  keyed : Keyed a G
  above : ∀ x ∈ W, lessL (keyG a G) (keyL a x) = true
theorem read_rise : ∀ (W G : Lines) (o : List UInt8), G ≠ [] → Keyed a G → keyL a o = keyG a G → riseL a N G.length o W = true → Whole N a (readG N a true W G).1 (readG N a true W G).2.1 ∧ (readG N a true W G).2.2 = 1
  | [], G, o, hG, hk, ho, _ => by
    have e : readG N a true [] G = ([], G, 1) := by simp [readG, hG]
    rw [e]
    exact ⟨⟨hG, e, rfl, hk, fun x hx => by cases hx⟩, rfl⟩
  | l :: r, G, o, hG, hk, ho, h => by
    rw [riseL] at h
    split at h
    · cases h
    rename_i h1
    have h1' : lessL (keyL a l) (keyL a o) = false := by simpa using h1
    by_cases h2 : lessL (keyL a o) (keyL a l) = true
    · rw [if_pos h2] at h
      split at h
      · cases h
      have e : readG N a true (l :: r) G = (l :: r, G, 1) := readG_whole true l r G hG (by rw [gtrL_iff, ← ho]; exact h2)
      rw [e]
      refine ⟨⟨hG, e, h, hk, fun x hx => ?_⟩, rfl⟩
      rw [← ho]
      rcases List.mem_cons.1 hx with rfl | hx
      · exact h2
      · exact lessL_trans _ _ _ h2 (rise_ge r _ l h x hx)
    · rw [if_neg h2] at h
      split at h
      · cases h
      rename_i h3
      have h2' : lessL (keyL a o) (keyL a l) = false := by simpa using h2
      have he : keyL a l = keyL a o := eq_of_not h1' (by rw [gtrL_iff]; exact h2')
      rw [readG_more true l r G hG (by rw [gtrL_iff, ← ho]; exact h2') (by rw [← ho]; exact h1') (by omega)]
      refine read_rise r (G ++ [l]) l (by simp) (fun x hx => ?_) (by rw [keyG_snoc a G l hG, he, ho]) (by rw [List.length_append, List.length_singleton]; exact h)
      rw [keyG_snoc a G l hG]
      rcases List.mem_append.1 hx with hx | hx
      · exact hk x hx
      · rw [List.mem_singleton.1 hx, he, ho]
def SideJ (N : Nat) (a : UInt8) (W G : Lines) : Prop := (G = [] ∧ risesL a N W = true) ∨ Whole N a W G
theorem SideJ.read {W G : Lines} (h : SideJ N a W G) : (readG N a true W G = ([], [], 2) ∧ G ++ W = []) ∨ (Whole N a (readG N a true W G).1 (readG N a true W G).2.1 ∧ (readG N a true W G).2.2 = 1) := by
  rcases h with ⟨rfl, h⟩ | h
  · cases W with
    | nil => exact .inl ⟨by simp [readG], rfl⟩
    | cons l r =>
      rw [readG_first]
      exact .inr (read_rise r [l] l (by simp) (fun x hx => by rw [List.mem_singleton.1 hx]; rfl) rfl h)
  · rw [h.again]
    exact .inr ⟨h, rfl⟩
/-- All pairs of lines of one key. -/
def allP (a : UInt8) (X Y : Lines) : Lines := X.flatMap fun l => (Y.filter fun m => decide (keyL a m = keyL a l)).map fun m => pairL a l m
theorem allP_append (X X' Y : Lines) : allP a (X ++ X') Y = allP a X Y ++ allP a X' Y := by
  unfold allP
  rw [List.flatMap_append]
theorem allP_none {X Y : Lines} (h : ∀ l ∈ X, ∀ m ∈ Y, keyL a m ≠ keyL a l) : allP a X Y = [] := by
  unfold allP
  rw [List.flatMap_eq_nil_iff]
  intro l hl
  rw [List.map_eq_nil_iff, List.filter_eq_nil_iff]
  exact fun m hm => by simp [h l hl m hm]
theorem allP_right {X Y Y' : Lines} (h : ∀ l ∈ X, ∀ m ∈ Y, keyL a m ≠ keyL a l) : allP a X (Y ++ Y') = allP a X Y' := by
  unfold allP
  induction X with
  | nil => rfl
  | cons l X ih =>
    rw [List.flatMap_cons, List.flatMap_cons, ih (fun x hx => h x (List.mem_cons_of_mem _ hx)), List.filter_append]
    have : (Y.filter fun m => decide (keyL a m = keyL a l)) = [] := by
      rw [List.filter_eq_nil_iff]
      exact fun m hm => by simp [h l List.mem_cons_self m hm]
    rw [this, List.nil_append]
theorem allP_left {X Y Y' : Lines} (h : ∀ l ∈ X, ∀ m ∈ Y', keyL a m ≠ keyL a l) : allP a X (Y ++ Y') = allP a X Y := by
  unfold allP
  induction X with
  | nil => rfl
  | cons l X ih =>
    rw [List.flatMap_cons, List.flatMap_cons, ih (fun x hx => h x (List.mem_cons_of_mem _ hx)), List.filter_append]
    have : (Y'.filter fun m => decide (keyL a m = keyL a l)) = [] := by
      rw [List.filter_eq_nil_iff]
      exact fun m hm => by simp [h l List.mem_cons_self m hm]
    rw [this, List.append_nil]
theorem allP_one {X Y : Lines} (h : ∀ l ∈ X, ∀ m ∈ Y, keyL a m = keyL a l) : allP a X Y = pairsJ a X Y := by
  unfold allP pairsJ
  induction X with
  | nil => rfl
  | cons l X ih =>
    rw [List.flatMap_cons, List.flatMap_cons, ih (fun x hx => h x (List.mem_cons_of_mem _ hx))]
    congr 2
    rw [List.filter_eq_self]
    exact fun m hm => by simp [h l List.mem_cons_self m hm]
/-- Keys that lie apart. -/
theorem apart {k x y : List UInt8} (h1 : x = k) (h2 : lessL k y = true) : y ≠ x := fun e => by
  rw [e, h1, lessL_self] at h2
  cases h2
theorem pairs_all : ∀ (n : Nat) (t : JT), leftJ t < n → (∀ j, j < 2 → t.ov j = true) → (∀ j, j < 2 → SideJ N a (t.W j) (t.G j)) → (settleJ N a t).1 = allP a (t.G 0 ++ t.W 0) (t.G 1 ++ t.W 1) ∧ (settleJ N a t).2.2 = .ends 0
  | 0, t, h, _, _ => absurd h (Nat.not_lt_zero _)
  | n + 1, t, hn, ho, hs => by
    have e0 : sideR N a t 0 = readG N a true (t.W 0) (t.G 0) := by unfold sideR; rw [ho 0 (by decide)]
    have e1 : sideR N a t 1 = readG N a true (t.W 1) (t.G 1) := by unfold sideR; rw [ho 1 (by decide)]
    have kp0 := readG_keeps (N := N) (a := a) true (t.W 0) (t.G 0)
    have kp1 := readG_keeps (N := N) (a := a) true (t.W 1) (t.G 1)
    have r0 := (hs 0 (by decide)).read
    have r1 := (hs 1 (by decide)).read
    rw [← e0] at kp0 r0
    rw [← e1] at kp1 r1
    rcases r0 with ⟨r0, z0⟩ | ⟨w0, c0⟩
    · have hr := round_halt0 (t := t) (N := N) (a := a) (by rw [r0]; decide)
      rw [r0, haltJ_else 0 (show (([], [], 2) : Lines × Lines × Int).2.2 ≠ 0 by decide)] at hr
      rw [settleJ_ends hr, z0]
      exact ⟨rfl, rfl⟩
    rcases r1 with ⟨r1, z1⟩ | ⟨w1, c1⟩
    · have hr := round_halt1 (t := t) (N := N) (a := a) c0 (by rw [r1]; decide)
      rw [r1, haltJ_else 1 (show (([], [], 2) : Lines × Lines × Int).2.2 ≠ 0 by decide)] at hr
      rw [settleJ_ends hr, z1]
      exact ⟨(allP_none fun l _ m hm => by cases hm).symm, rfl⟩
    obtain ⟨g0, g1, v0, v1⟩ := both_G (N := N) (a := a) t
    have hb := leftJ_both (N := N) (a := a) t
    have hr := round_meet c0 c1
    rw [← g0] at w0 kp0
    rw [← v0] at w0 kp0
    rw [← g1] at w1 kp1
    rw [← v1] at w1 kp1
    have hov : (readJ N a (readJ N a t 0) 1).ov = t.ov := rfl
    generalize readJ N a (readJ N a t 0) 1 = u at hb hr w0 w1 kp0 kp1 hov
    rw [← kp0, ← kp1]
    unfold meetJ at hr
    by_cases hl : lessL (keyG a (u.G 0)) (keyG a (u.G 1)) = true
    · rw [if_pos hl] at hr
      have hlt := leftJ_drop u 0 (by decide) w0.ne
      obtain ⟨i1, i2⟩ := pairs_all n (dropJ u 0) (by omega) (fun j hj => by show u.ov j = true; rw [hov]; exact ho j hj) (fun j hj => by
        obtain rfl | rfl : j = 0 ∨ j = 1 := by omega
        · exact .inl ⟨(show setAt u.G 0 [] 0 = [] from setAt_self _ _ _), w0.rises⟩
        · have : (dropJ u 0).G 1 = u.G 1 := (show setAt u.G 0 [] 1 = u.G 1 from setAt_other _ _ (show 1 ≠ 0 by decide))
          rw [this]
          exact .inr w1)
      rw [settleJ_again hr]
      refine ⟨?_, i2⟩
      rw [i1]
      have q0 : (dropJ u 0).G 0 = [] := (show setAt u.G 0 [] 0 = [] from setAt_self _ _ _)
      have q1 : (dropJ u 0).G 1 = u.G 1 := (show setAt u.G 0 [] 1 = u.G 1 from setAt_other _ _ (show 1 ≠ 0 by decide))
      rw [q0, q1, List.nil_append, show (dropJ u 0).W 0 = u.W 0 from rfl, show (dropJ u 0).W 1 = u.W 1 from rfl, allP_append]
      have hz : allP a (u.G 0) (u.G 1 ++ u.W 1) = [] := allP_none fun l hl' m hm => by
        refine apart (w0.keyed l hl') ?_
        rcases List.mem_append.1 hm with hm | hm
        · rw [w1.keyed m hm]; exact hl
        · exact lessL_trans _ _ _ hl (lessL_asymm _ _ (w1.above m hm))
      rw [hz]
      rfl
    · rw [if_neg hl] at hr
      have hl' : lessL (keyG a (u.G 0)) (keyG a (u.G 1)) = false := by simpa using hl
      by_cases hk : gtrL (keyG a (u.G 0)) (keyG a (u.G 1)) = true
      · rw [if_pos hk] at hr
        rw [gtrL_iff] at hk
        have hlt := leftJ_drop u 1 (by decide) w1.ne
        obtain ⟨i1, i2⟩ := pairs_all n (dropJ u 1) (by omega) (fun j hj => by show u.ov j = true; rw [hov]; exact ho j hj) (fun j hj => by
          obtain rfl | rfl : j = 0 ∨ j = 1 := by omega
          · have : (dropJ u 1).G 0 = u.G 0 := (show setAt u.G 1 [] 0 = u.G 0 from setAt_other _ _ (show 0 ≠ 1 by decide))
            rw [this]
            exact .inr w0
          · exact .inl ⟨(show setAt u.G 1 [] 1 = [] from setAt_self _ _ _), w1.rises⟩)
        rw [settleJ_again hr]
        refine ⟨?_, i2⟩
        rw [i1]
        have q0 : (dropJ u 1).G 0 = u.G 0 := (show setAt u.G 1 [] 0 = u.G 0 from setAt_other _ _ (show 0 ≠ 1 by decide))
        have q1 : (dropJ u 1).G 1 = [] := (show setAt u.G 1 [] 1 = [] from setAt_self _ _ _)
        rw [q0, q1]
        refine (allP_right fun l hl2 m hm => ?_).symm
        refine fun e => apart (w1.keyed m hm) ?_ e.symm
        rcases List.mem_append.1 hl2 with hl2 | hl2
        · rw [w0.keyed l hl2]; exact hk
        · exact lessL_trans _ _ _ hk (lessL_asymm _ _ (w0.above l hl2))
      · rw [if_neg hk] at hr
        have he := eq_of_not hl' (by simpa using hk)
        have hlt := leftJ_drops u w0.ne
        obtain ⟨i1, i2⟩ := pairs_all n (drops u) (by omega) (fun j hj => by show u.ov j = true; rw [hov]; exact ho j hj) (fun j hj => by
          obtain rfl | rfl : j = 0 ∨ j = 1 := by omega
          · refine .inl ⟨?_, w0.rises⟩
            show setAt (setAt u.G 0 []) 1 [] 0 = []
            rw [setAt_other _ _ (show 0 ≠ 1 by decide), setAt_self]
          · exact .inl ⟨(show setAt (setAt u.G 0 []) 1 [] 1 = [] from setAt_self _ _ _), w1.rises⟩)
        rw [settleJ_tells hr]
        refine ⟨?_, i2⟩
        simp only
        rw [i1]
        have q0 : (drops u).G 0 = [] := by
          show setAt (setAt u.G 0 []) 1 [] 0 = []
          rw [setAt_other _ _ (show 0 ≠ 1 by decide), setAt_self]
        have q1 : (drops u).G 1 = [] := (show setAt (setAt u.G 0 []) 1 [] 1 = [] from setAt_self _ _ _)
        rw [q0, q1, List.nil_append, List.nil_append, show (drops u).W 0 = u.W 0 from rfl, show (drops u).W 1 = u.W 1 from rfl, allP_append]
        rw [allP_left (X := u.G 0) (Y := u.G 1) fun l hl2 m hm => apart (w0.keyed l hl2) (by rw [he]; exact w1.above m hm)]
        rw [allP_right (X := u.W 0) (Y := u.G 1) fun l hl2 m hm => fun e => apart (w1.keyed m hm) (by rw [← he]; exact w0.above l hl2) e.symm]
        rw [allP_one (X := u.G 0) (Y := u.G 1) fun l hl2 m hm => by rw [w0.keyed l hl2, w1.keyed m hm, he]]
end

end Go.Proofs.YtchepmikbnnnhaaDoor
