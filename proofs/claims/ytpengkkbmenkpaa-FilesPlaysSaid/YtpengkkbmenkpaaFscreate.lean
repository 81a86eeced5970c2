/- A disk: what Create does. -/
import Derived.Test.YtpengkkbmenkpaaFscount
namespace Go.Proofs.Ytpengkkbmenkpaa
open Go.RowKit

/-- Is a map nil? -/
theorem eql_map (m : Option Nat) (w : World) : (binOp .eql 53 (.map m) (.map none)).run Try.prog w = .ok (.bool m.isNone) w := by
  have h : ∀ d : Nat, (Op.equalIn (d + 1) 53 (.map m) (.map none)).run Try.prog w = .ok m.isNone w := fun d => by
    cases m <;> simp [Op.equalIn, run_underlying Try.underlying53]
  simp only [binOp]
  simp [Op.equal, Op.maxDepth, h 9999]
theorem get_snoc {α : Type} {L : List α} {x : α} {k : Nat} {y : α} (h : (L ++ [x])[k]? = some y) : L[k]? = some y ∨ (k = L.length ∧ y = x) := by
  rcases Nat.lt_trichotomy k L.length with h1 | h1 | h1
  · rw [List.getElem?_append_left h1] at h
    exact .inl h
  · subst h1
    simp at h
    exact .inr ⟨rfl, h.symm⟩
  · rw [List.getElem?_append_right (by omega)] at h
    have := (List.getElem?_eq_some_iff.1 h).1
    simp at this
    omega

section
variable {base g : Nat} {own : Nat → Nat} {S : Script} {s : DSt} {bf : Nat} {mf : Option Nat} {F : List (Nat × Value)} {w : World}
theorem filesF_snoc {T : List (List UInt8 × Bool)} {F : List (Nat × Value)} (hl : F.length = T.length) (t : List UInt8) (X : Nat) (v : Value) (c : Int) :
    filesF (T ++ [(t, true)]) (F ++ [(X, v)]) c = if c = (T.length : Int) + 1 then some (.lit (.int .i64 X)) else filesF T F c := by
  by_cases h1 : 1 ≤ c
  · obtain ⟨k, rfl⟩ : ∃ k : Nat, c = (k : Int) + 1 := ⟨(c - 1).toNat, by omega⟩
    by_cases hk : k = T.length
    · subst hk
      rw [if_pos rfl]
      exact filesF_some (t := t) (v := v) (by simp) (by rw [← hl]; simp)
    · rw [if_neg (by omega)]
      unfold filesF
      rw [show ((k : Int) + 1 - 1).toNat = k by omega, if_pos h1, if_pos h1]
      by_cases hlt : k < T.length
      · rw [List.getElem?_append_left hlt, List.getElem?_append_left (by omega)]
      · have e1 : (T ++ [(t, true)])[k]? = none := by rw [List.getElem?_eq_none_iff]; simp; omega
        have e2 : T[k]? = none := by rw [List.getElem?_eq_none_iff]; omega
        rw [e1, e2]
  · rw [if_neg (by omega)]
    unfold filesF
    rw [if_neg h1, if_neg h1]

/-- A file more. -/
theorem Disk.added {m : Nat} (h : Disk base g own S s bf (some m) F w) {w' : World} (X : Nat) (hX : w.heap.size ≤ X)
    (hg : w'.heap[g]? = some (.cells #[.map (some m), .int .i64 ((s.T.length : Int) + 1), .map (some bf), .int .i64 s.n, .int .i64 s.id] 55 (0, 0)))
    (hx : w'.heap[X]? = some (.cells #[.slice Option.none 0 0] 65 (0, 0)))
    (hm : IsMapOf ptrElem m (s.T.length + 1) (fun x => if x = (s.T.length : Int) + 1 then some (.lit (.int .i64 X)) else filesF s.T F x) w') (hf : Frame (fun k => k = g ∨ k = m) w w') :
    Disk base g (fun k => if k = X then 4 + 2 * s.T.length else own k) S { s with T := s.T ++ [([], true)] } bf (some m) (F ++ [(X, .slice Option.none 0 0)]) w' := by
  have hlo : ∀ k, own k ≠ 0 → k ≠ X := fun k hk e => by have := (h.bnd k hk).2; omega
  have og := h.og
  have om := (h.files m rfl).2
  have of := h.of
  refine ⟨?_, ?_, fun e => (by cases e), fun b e => ?_, by simp [h.len], fun k t b v h1 h2 => ?_, ?_, ?_, fun k hk => ?_⟩
  · rw [hg]
    simp
  · exact h.fails.frame hf (fun e => by rcases e with e | e <;> rw [e] at of <;> omega)
  · cases e
    refine ⟨?_, by rw [if_neg (hlo m (by omega))]; exact om⟩
    have := hm.congr (fun c => filesF_snoc h.len [] X (.slice Option.none 0 0) c)
    simpa using this
  · rcases get_snoc h1 with h1 | ⟨rfl, e⟩
    · have hk := (List.getElem?_eq_some_iff.1 h1).1
      rw [List.getElem?_append_left (by rw [h.len]; exact hk)] at h2
      obtain ⟨f1, f2, f3, f4⟩ := h.file k t b v h1 h2
      refine ⟨hf.heap f1 (fun e => by rcases e with e | e <;> rw [e] at f3 <;> omega), hf.owns f2 (fun r hr e => by have := f4 r hr; rcases e with e | e <;> rw [e] at this <;> omega), ?_, fun r hr => ?_⟩
      · rw [if_neg (hlo b (by omega))]
        exact f3
      · rw [if_neg (hlo r (by rw [f4 r hr]; omega))]
        exact f4 r hr
    · rw [← h.len] at h2
      simp at h2
      obtain ⟨rfl, rfl⟩ := h2
      cases e
      exact ⟨hx, World.ownsRow_nil _ _ _ _, if_pos rfl, fun r hr => by cases hr⟩
  · show (if g = X then _ else own g) = 1
    rw [if_neg (hlo g (by omega))]
    exact og
  · show (if bf = X then _ else own bf) = 2
    rw [if_neg (hlo bf (by omega))]
    exact of
  · by_cases hk' : k = X
    · subst hk'
      have := (h.bnd g (by omega))
      exact ⟨by omega, (Array.getElem?_eq_some_iff.1 hx).1⟩
    · simp only [hk', if_false] at hk
      exact ⟨(h.bnd k hk).1, Nat.lt_of_lt_of_le (h.bnd k hk).2 hf.size⟩

/-- The first map. -/
theorem Disk.mapped (h : Disk base g own S s bf Option.none F w) {w' : World} (m : Nat) (hm : w.heap.size ≤ m)
    (hg : w'.heap[g]? = some (.cells #[.map (some m), .int .i64 s.T.length, .map (some bf), .int .i64 s.n, .int .i64 s.id] 55 (0, 0)))
    (hi : IsMapOf ptrElem m 0 (fun _ => Option.none) w') (hf : Frame (· = g) w w') : Disk base g (fun k => if k = m then 3 else own k) S s bf (some m) F w' := by
  have hT := h.none rfl
  have hlo : ∀ k, own k ≠ 0 → k ≠ m := fun k hk e => by have := (h.bnd k hk).2; omega
  have og := h.og
  have of := h.of
  refine ⟨hg, h.fails.frame hf (fun e => by rw [e] at of; omega), fun e => (by cases e), fun b e => ?_, h.len, fun k t b v h1 h2 => ?_, ?_, ?_, fun k hk => ?_⟩
  · cases e
    refine ⟨(hi.mono (Nat.zero_le _)).congr (fun c => ?_), if_pos rfl⟩
    unfold filesF
    rw [hT]
    split <;> simp
  · rw [hT] at h1
    simp at h1
  · show (if g = m then _ else own g) = 1
    rw [if_neg (hlo g (by omega))]
    exact og
  · show (if bf = m then _ else own bf) = 2
    rw [if_neg (hlo bf (by omega))]
    exact of
  · by_cases hk' : k = m
    · subst hk'
      have := (h.bnd g (by omega))
      exact ⟨by omega, hi.lt⟩
    · simp only [hk', if_false] at hk
      exact ⟨(h.bnd k hk).1, Nat.lt_of_lt_of_le (h.bnd k hk).2 hf.size⟩

set_option maxRecDepth 100000 in
set_option maxHeartbeats 1000000 in
theorem create_nil (w : World) : Calls Try.prog 16 #[.pointer Option.none] w fun e w' => e = .returned (.tuple #[.int .i64 0, .int .i64 1]) ∧ w' = w := by
  go_enter Try.func16, Try.ntmps16
  go_wp2_with fail
  go_ret2
  exact ⟨rfl, rfl⟩

set_option maxRecDepth 100000 in
set_option maxHeartbeats 1000000 in
theorem create_many (h : Disk base g own S s bf mf F w) (hm : 64 ≤ s.T.length) :
    Calls Try.prog 16 #[.pointer (some ⟨g, 0, Option.none⟩)] w fun e w' => e = .returned (.tuple #[.int .i64 0, .int .i64 17]) ∧ w' = w := by
  have c1 := h.c1
  have q1 : (64 : Int) ≤ (s.T.length : Int) := by omega
  clear h hm
  go_enter Try.func16, Try.ntmps16
  go_wp2_with fail
  go_ret2
  exact ⟨rfl, rfl⟩

set_option maxRecDepth 100000 in
set_option maxHeartbeats 1000000 in
theorem create_fail (h : Disk base g own S s bf mf F w) (hs : Small s) (hm : ¬ 64 ≤ s.T.length) (he : cntE S s ≠ 0) :
    Calls Try.prog 16 #[.pointer (some ⟨g, 0, Option.none⟩)] w fun e w' => e = .returned (.tuple #[.int .i64 0, .int .i64 (cntE S s)]) ∧ Disk base g own S (cntS S s) bf mf F w' ∧ Frame (· = g) w w' := by
  have c1 := h.c1
  have q1 : ¬ (64 : Int) ≤ (s.T.length : Int) := by omega
  have HC := Lib.hid (count_any h hs.n)
  obtain ⟨E, hE⟩ : ∃ E, E = cntE S s := ⟨_, rfl⟩
  rw [← hE] at HC he ⊢
  have g1 : (E != 0) = true := by simpa using he
  clear h hm hs hE he
  go_enter Try.func16, Try.ntmps16
  go_wp2_with fail
  refine HC.out.mono ?_
  rintro e w1 ⟨rfl, hd, hf⟩
  have HD := Lib.hid hd
  have HF := Lib.hid hf
  clear hd hf
  go_wp2_with fail
  go_ret2
  exact ⟨rfl, HD.out, HF.out⟩

set_option maxRecDepth 100000 in
set_option maxHeartbeats 1000000 in
theorem create_yes (h : Disk base g own S s bf mf F w) (hs : Small s) (hm : ¬ 64 ≤ s.T.length) (he : cntE S s = 0) :
    Calls Try.prog 16 #[.pointer (some ⟨g, 0, Option.none⟩)] w fun e w' => e = .returned (.tuple #[.int .i64 ((s.T.length : Int) + 1), .int .i64 0]) ∧
      DiskLeft base g own S { cntS S s with T := s.T ++ [([], true)] } w w' := by
  have c1 := h.c1
  have q1 : ¬ (64 : Int) ≤ (s.T.length : Int) := by omega
  have HC := Lib.hid (count_any h hs.n)
  have HH := Lib.hid h
  rw [he] at HC
  have hmm := @run_makeMap Try.prog
  have hq := eql_map
  clear h hs he
  go_enter Try.func16, Try.ntmps16
  go_wp2_with fail
  refine HC.out.mono ?_
  rintro e w1 ⟨rfl, hd, hf⟩
  have HD := Lib.hid hd
  have HF := Lib.hid hf
  have c0 := hd.c0
  cases mf with
  | none =>
    have hdm := hd.below ((Below.refl w1.heap.size w1).alloc (Nat.le_refl _) (.map #[] 0))
    have c0m := hdm.c0
    have z0m := hdm.froz 0
    have HDM := Lib.hid hdm
    clear hd hf hdm
    go_upto_region 10 with fail
    have hd1 := HD.out.mapped (w' := (w1.alloc (.map #[] 0)).setCell ⟨g, 0, Option.none⟩ (.map (some w1.heap.size))) w1.heap.size (Nat.le_refl _) (by rw [setCell_row HDM.out.heap]; rfl)
      ((isMap_new w1 ptrElem).frame (Frame.cell _ _ _) (by have := (HD.out.bnd g (by rw [HD.out.og]; omega)).2; show ¬ w1.heap.size = g; omega)) ((Below.toFrame ((Below.refl _ w1).alloc (Nat.le_refl _) _) _).trans (Frame.cell _ ⟨g, 0, Option.none⟩ _))
    have hf1 : Frame (· = g) w ((w1.alloc (.map #[] 0)).setCell ⟨g, 0, Option.none⟩ (.map (some w1.heap.size))) := HF.out.trans ((Below.toFrame ((Below.refl _ w1).alloc (Nat.le_refl _) _) _).trans (Frame.cell _ ⟨g, 0, Option.none⟩ _))
    have hown1 : ∀ k, k < w.heap.size → (if k = w1.heap.size then 3 else own k) = own k := fun k hk => if_neg (by have := HF.out.size; omega)
    obtain ⟨m, hm0⟩ : ∃ m, m = w1.heap.size := ⟨_, rfl⟩
    rw [← hm0] at hd1 hf1 hown1 ⊢
    generalize hown : (fun k => if k = m then 3 else own k) = own1 at hd1
    replace hown1 : ∀ k, k < w.heap.size → own1 k = own k := fun k hk => by rw [← hown]; exact hown1 k hk
    generalize (w1.alloc (.map #[] 0)).setCell ⟨g, 0, Option.none⟩ (.map (some m)) = W at hd1 hf1 ⊢
    have HF1 := Lib.hid hf1
    have HO1 := Lib.hid hown1
    clear hf1 hown1 hown hm0 c0 c0m z0m HD HDM HF
    have c0 := hd1.c0
    have c1 : W.cell? ⟨g, 1, Option.none⟩ = some (.int .i64 (s.T.length : Int)) := hd1.c1
    have z1 := hd1.froz 1
    have hg1 := hd1.heap
    have hlt1 : g < W.heap.size := (Array.getElem?_eq_some_iff.1 hg1).1
    have HD1 := Lib.hid hd1
    have HG1 := Lib.hid hg1
    clear hd1 hg1
    go_upto_region 11 with fail
    have hg2 := setCell_row HG1.out 1 (.int .i64 ((s.T.length : Int) + 1))
    have hf2 : Frame (· = g) W (W.setCell ⟨g, 1, Option.none⟩ (.int .i64 ((s.T.length : Int) + 1))) := Frame.cell W ⟨g, 1, Option.none⟩ _
    have hm2 := (HD1.out.files m rfl).1.frame hf2 (fun e => by have h1 := HD1.out.og; have h2 := (HD1.out.files m rfl).2; rw [e] at h2; omega)
    have hs2 : (W.setCell ⟨g, 1, Option.none⟩ (.int .i64 ((s.T.length : Int) + 1))).heap.size = W.heap.size := by simp [World.setCell]
    generalize W.setCell ⟨g, 1, Option.none⟩ (.int .i64 ((s.T.length : Int) + 1)) = W2 at hg2 hf2 hm2 hs2 ⊢
    have c0 : W2.cell? ⟨g, 0, Option.none⟩ = some (.map (some m)) := by rw [cell_of_row _ _ _ _ _ _ hg2]; rfl
    have c1 : W2.cell? ⟨g, 1, Option.none⟩ = some (.int .i64 ((s.T.length : Int) + 1)) := by rw [cell_of_row _ _ _ _ _ _ hg2]; rfl
    have c0' : (W2.alloc (.cells #[.slice Option.none 0 0] 65)).cell? ⟨g, 0, Option.none⟩ = some (.map (some m)) := by rw [Below.cell ((Below.refl _ W2).alloc (Nat.le_refl _) _) (show g < W2.heap.size by omega)]; exact c0
    have c1' : (W2.alloc (.cells #[.slice Option.none 0 0] 65)).cell? ⟨g, 1, Option.none⟩ = some (.int .i64 ((s.T.length : Int) + 1)) := by rw [Below.cell ((Below.refl _ W2).alloc (Nat.le_refl _) _) (show g < W2.heap.size by omega)]; exact c1
    have hb3 : Below W2.heap.size W2 (W2.alloc (.cells #[.slice Option.none 0 0] 65)).drew := ((Below.refl _ W2).alloc (Nat.le_refl _) _).drew
    have hm3 := hm2.frame (Below.toFrame hb3 fun _ => False) (fun h => h)
    obtain ⟨W4, hr4, hm4, hg4⟩ := hm3.put Try.underlying53 (c := (s.T.length : Int) + 1) (by show s.T.length < 2000000; omega) ⟨by omega, by omega⟩ (show ptrElem (.pointer (some ⟨W2.heap.size, 0, Option.none⟩)) = _ from rfl)
    have HG2 := Lib.hid hg2
    have HF2 := Lib.hid hf2
    have HS2 := Lib.hid hs2
    have HB3 := Lib.hid hb3
    have HM4 := Lib.hid hm4
    have HG4 := Lib.hid hg4
    clear hg2 hf2 hm2 hs2 hb3 hm3 hm4 hg4
    go_region
    have hgm : g ≠ m := fun e => by have h1 := HD1.out.og; have h2 := (HD1.out.files m rfl).2; rw [e] at h1; omega
    have hb4 : Frame (· = m) W2 W4 := (Below.toFrame HB3.out _).grown HG4.out (fun k _ e => by cases e; rfl)
    have hg4 := hb4.heap HG2.out hgm
    have hx4 : W4.heap[W2.heap.size]? = some (.cells #[.slice Option.none 0 0] 65 (0, 0)) := by
      rw [HG4.out.block W2.heap.size (by simp [World.drew]) (by intro e; cases e; have := (HD1.out.files _ rfl).1.lt; have := HS2.out; omega)]
      exact heap_alloc_last W2 _
    have hf4 : Frame (fun k => k = g ∨ k = m) W W4 := (HF2.out.mono (fun k _ e => .inl e)).trans (hb4.mono (fun k _ e => .inr e))
    have hd4 := HD1.out.added (w' := W4) W2.heap.size (by have := HS2.out; omega) hg4 hx4 HM4.out hf4
    have hl4 : ∀ k, k < w.heap.size → (if k = W2.heap.size then 4 + 2 * (cntS S s).T.length else own1 k) = own k := fun k hk => by
      have h1 := HF1.out.size
      have h2 := HS2.out
      rw [if_neg (by omega)]
      exact HO1.out k hk
    have hf5 : Frame (fun k => own k ≠ 0) w W4 := (HF1.out.mono (fun k hk e => by have h1 := HO1.out k hk; have h2 := HD1.out.og; show own k ≠ 0; rw [e] at h1 ⊢; omega)).then hf4 (fun k hk e => by
      have h1 := HO1.out k hk
      have h2 := HD1.out.og
      have h3 := (HD1.out.files m rfl).2
      rcases e with e | e <;> rw [e] at h1 ⊢ <;> omega)
    have c1 : W4.cell? ⟨g, 1, Option.none⟩ = some (.int .i64 ((s.T.length : Int) + 1)) := by rw [cell_of_row _ _ _ _ _ _ hg4]; rfl
    have HD4 := Lib.hid hd4
    have HL4 := Lib.hid hl4
    have HF5 := Lib.hid hf5
    clear hgm hb4 hg4 hx4 hf4 hd4 hl4 hf5 hr4 HB3 HM4 HG4 c0' c1'
    go_wp2_with fail
    go_ret2
    exact ⟨rfl, _, ⟨_, _, _, HD4.out⟩, HL4.out, HF5.out⟩
  | some m =>
    have hd1 := hd
    have HF1 := Lib.hid hf
    obtain ⟨own1, hown⟩ : ∃ own1, own1 = own := ⟨_, rfl⟩
    have HO1 := Lib.hid (show ∀ k, k < w.heap.size → own1 k = own k from fun _ _ => by rw [hown])
    rw [← hown] at hd1
    clear hown
    obtain ⟨W, hW⟩ : ∃ W, W = w1 := ⟨_, rfl⟩
    clear hd hf HF HD
    go_upto_region 10 with fail
    rw [← hW] at hd1 HF1 ⊢
    clear hW c0
    have c0 := hd1.c0
    have c1 : W.cell? ⟨g, 1, Option.none⟩ = some (.int .i64 (s.T.length : Int)) := hd1.c1
    have z1 := hd1.froz 1
    have hg1 := hd1.heap
    have hlt1 : g < W.heap.size := (Array.getElem?_eq_some_iff.1 hg1).1
    have HD1 := Lib.hid hd1
    have HG1 := Lib.hid hg1
    clear hd1 hg1
    go_upto_region 11 with fail
    have hg2 := setCell_row HG1.out 1 (.int .i64 ((s.T.length : Int) + 1))
    have hf2 : Frame (· = g) W (W.setCell ⟨g, 1, Option.none⟩ (.int .i64 ((s.T.length : Int) + 1))) := Frame.cell W ⟨g, 1, Option.none⟩ _
    have hm2 := (HD1.out.files m rfl).1.frame hf2 (fun e => by have h1 := HD1.out.og; have h2 := (HD1.out.files m rfl).2; rw [e] at h2; omega)
    have hs2 : (W.setCell ⟨g, 1, Option.none⟩ (.int .i64 ((s.T.length : Int) + 1))).heap.size = W.heap.size := by simp [World.setCell]
    generalize W.setCell ⟨g, 1, Option.none⟩ (.int .i64 ((s.T.length : Int) + 1)) = W2 at hg2 hf2 hm2 hs2 ⊢
    have c0 : W2.cell? ⟨g, 0, Option.none⟩ = some (.map (some m)) := by rw [cell_of_row _ _ _ _ _ _ hg2]; rfl
    have c1 : W2.cell? ⟨g, 1, Option.none⟩ = some (.int .i64 ((s.T.length : Int) + 1)) := by rw [cell_of_row _ _ _ _ _ _ hg2]; rfl
    have c0' : (W2.alloc (.cells #[.slice Option.none 0 0] 65)).cell? ⟨g, 0, Option.none⟩ = some (.map (some m)) := by rw [Below.cell ((Below.refl _ W2).alloc (Nat.le_refl _) _) (show g < W2.heap.size by omega)]; exact c0
    have c1' : (W2.alloc (.cells #[.slice Option.none 0 0] 65)).cell? ⟨g, 1, Option.none⟩ = some (.int .i64 ((s.T.length : Int) + 1)) := by rw [Below.cell ((Below.refl _ W2).alloc (Nat.le_refl _) _) (show g < W2.heap.size by omega)]; exact c1
    have hb3 : Below W2.heap.size W2 (W2.alloc (.cells #[.slice Option.none 0 0] 65)).drew := ((Below.refl _ W2).alloc (Nat.le_refl _) _).drew
    have hm3 := hm2.frame (Below.toFrame hb3 fun _ => False) (fun h => h)
    obtain ⟨W4, hr4, hm4, hg4⟩ := hm3.put Try.underlying53 (c := (s.T.length : Int) + 1) (by show s.T.length < 2000000; omega) ⟨by omega, by omega⟩ (show ptrElem (.pointer (some ⟨W2.heap.size, 0, Option.none⟩)) = _ from rfl)
    have HG2 := Lib.hid hg2
    have HF2 := Lib.hid hf2
    have HS2 := Lib.hid hs2
    have HB3 := Lib.hid hb3
    have HM4 := Lib.hid hm4
    have HG4 := Lib.hid hg4
    clear hg2 hf2 hm2 hs2 hb3 hm3 hm4 hg4
    go_region
    have hgm : g ≠ m := fun e => by have h1 := HD1.out.og; have h2 := (HD1.out.files m rfl).2; rw [e] at h1; omega
    have hb4 : Frame (· = m) W2 W4 := (Below.toFrame HB3.out _).grown HG4.out (fun k _ e => by cases e; rfl)
    have hg4 := hb4.heap HG2.out hgm
    have hx4 : W4.heap[W2.heap.size]? = some (.cells #[.slice Option.none 0 0] 65 (0, 0)) := by
      rw [HG4.out.block W2.heap.size (by simp [World.drew]) (by intro e; cases e; have := (HD1.out.files _ rfl).1.lt; have := HS2.out; omega)]
      exact heap_alloc_last W2 _
    have hf4 : Frame (fun k => k = g ∨ k = m) W W4 := (HF2.out.mono (fun k _ e => .inl e)).trans (hb4.mono (fun k _ e => .inr e))
    have hd4 := HD1.out.added (w' := W4) W2.heap.size (by have := HS2.out; omega) hg4 hx4 HM4.out hf4
    have hl4 : ∀ k, k < w.heap.size → (if k = W2.heap.size then 4 + 2 * (cntS S s).T.length else own1 k) = own k := fun k hk => by
      have h1 := HF1.out.size
      have h2 := HS2.out
      rw [if_neg (by omega)]
      exact HO1.out k hk
    have hf5 : Frame (fun k => own k ≠ 0) w W4 := (HF1.out.mono (fun k hk e => by have h1 := HO1.out k hk; have h2 := HD1.out.og; show own k ≠ 0; rw [e] at h1 ⊢; omega)).then hf4 (fun k hk e => by
      have h1 := HO1.out k hk
      have h2 := HD1.out.og
      have h3 := (HD1.out.files m rfl).2
      rcases e with e | e <;> rw [e] at h1 ⊢ <;> omega)
    have c1 : W4.cell? ⟨g, 1, Option.none⟩ = some (.int .i64 ((s.T.length : Int) + 1)) := by rw [cell_of_row _ _ _ _ _ _ hg4]; rfl
    have HD4 := Lib.hid hd4
    have HL4 := Lib.hid hl4
    have HF5 := Lib.hid hf5
    clear hgm hb4 hg4 hx4 hf4 hd4 hl4 hf5 hr4 HB3 HM4 HG4 c0' c1'
    go_wp2_with fail
    go_ret2
    exact ⟨rfl, _, ⟨_, _, _, HD4.out⟩, HL4.out, HF5.out⟩
end
end Go.Proofs.Ytpengkkbmenkpaa
