/- A disk: what Live tells. -/
import Derived.Test.YtpengkkbmenkpaaFslays
namespace Go.Proofs.Ytpengkkbmenkpaa
open Go.Shelf Go.RowKit Go.Maps Go.Sort

theorem mem_liveFrom : ∀ (T : List (List UInt8 × Bool)) (k : Nat) (x : Int), x ∈ liveFrom k T ↔ ∃ j t, T[j]? = some (t, true) ∧ x = ((k + j : Nat) : Int) + 1
  | [], k, x => by simp [liveFrom]
  | t :: r, k, x => by
    have ih := mem_liveFrom r (k + 1) x
    obtain ⟨b, f⟩ := t
    cases f with
    | true =>
      simp only [liveFrom, if_true, List.mem_cons, ih]
      constructor
      · rintro (rfl | ⟨j, u, hj, rfl⟩)
        · exact ⟨0, b, rfl, by simp⟩
        · exact ⟨j + 1, u, by simpa using hj, by omega⟩
      · rintro ⟨j, u, hj, rfl⟩
        cases j with
        | zero => exact .inl (by simp)
        | succ j => exact .inr ⟨j, u, by simpa using hj, by omega⟩
    | false =>
      simp only [liveFrom, Bool.false_eq_true, if_false, ih]
      constructor
      · rintro ⟨j, u, hj, rfl⟩
        exact ⟨j + 1, u, by simpa using hj, by omega⟩
      · rintro ⟨j, u, hj, rfl⟩
        cases j with
        | zero => simp at hj
        | succ j => exact ⟨j, u, by simpa using hj, by omega⟩
theorem live_rises : ∀ (T : List (List UInt8 × Bool)) (k : Nat), (liveFrom k T).Pairwise (· < ·)
  | [], k => by simp [liveFrom]
  | t :: r, k => by
    have ih := live_rises r (k + 1)
    unfold liveFrom
    split
    · refine List.pairwise_cons.2 ⟨fun x hx => ?_, ih⟩
      obtain ⟨j, u, -, rfl⟩ := (mem_liveFrom r (k + 1) x).1 hx
      omega
    · exact ih
theorem live_len : ∀ (T : List (List UInt8 × Bool)) (k : Nat), (liveFrom k T).length ≤ T.length
  | [], k => by simp [liveFrom]
  | t :: r, k => by
    have ih := live_len r (k + 1)
    unfold liveFrom
    split <;> simp <;> omega
theorem mem_live {T : List (List UInt8 × Bool)} {F : List (Nat × Value)} (hl : F.length = T.length) (x : Int) : x ∈ liveL T ↔ (filesF T F x).isSome = true := by
  unfold liveL
  rw [mem_liveFrom]
  constructor
  · rintro ⟨j, t, hj, rfl⟩
    have hlt := (List.getElem?_eq_some_iff.1 hj).1
    obtain ⟨f, hf⟩ : ∃ f, F[j]? = some f := ⟨F[j]'(by omega), List.getElem?_eq_getElem (by omega)⟩
    rw [show ((0 + j : Nat) : Int) + 1 = (j : Int) + 1 by omega, filesF_some (b := f.1) (v := f.2) hj hf]
    rfl
  · intro h
    rcases fileAt_cases T x with ⟨k, t, rfl, hk, -⟩ | hn
    · exact ⟨k, t, hk, by omega⟩
    · rw [filesF_none hn] at h
      cases h

section
variable {base g : Nat} {own : Nat → Nat} {S : Script} {s : DSt} {w : World}
/-- The keys, in order. -/
theorem sorted_keys {P : Program} {k n b : Nat} {R : Value → Option (DataW Unit × List MemPlace)} {D : DataW Unit} {w : World} (hown : w.ownsMap P k R b n D) (hk : P.underlying k = some (.int .i64)) {T : List (List UInt8 × Bool)}
    (hm : ∀ x, x ∈ liveL T ↔ Maps.has D (.int .i64 x) = true) {ss : List Int} (hs : ss.Perm (intKeys D)) : ss.mergeSort (fun x y => decide (x ≤ y)) = liveL T := by
  have hnd : (liveL T).Nodup := (live_rises T 0).imp (fun h e => by omega)
  have hC : CollectedI D (fun _ => false) (liveL T) := ⟨hnd, fun x => by rw [hm]; simp⟩
  have hp := hC.perm hown (int_keyed hk) hk (fun _ => rfl)
  have h1 := mergeSort_of_perm_i hs
  have h2 := mergeSort_of_perm_i hp
  rw [h1, ← h2]
  exact List.mergeSort_of_pairwise ((live_rises T 0).imp (fun h => by simpa using Int.le_of_lt h))

set_option maxRecDepth 100000 in
set_option maxHeartbeats 1000000 in
theorem live_any (h : DiskAt base g own S s w) (hT : s.T.length ≤ 64) :
    Calls Try.prog 11 #[.pointer (some ⟨g, 0, none⟩)] w fun e w' => ∃ v, e = .returned v ∧ w'.ownsRow w.heap.size 3 1 v (liveL s.T).length ((liveL s.T).map (Value.int .i64)) ∧ Below w.heap.size w w' := by
  obtain ⟨bf, mf, F, h⟩ := h
  have c0 := h.c0
  cases mf with
  | none =>
    have hT0 := h.none rfl
    have hL : liveL s.T = [] := by rw [hT0]; rfl
    rw [hL]
    clear h hT hT0 hL
    refine (callsIn_wide (n := 6)).1 ?_
    have hseq : SeqGives Fence.wide 2 Try.prog 35 #[.pointer (some ⟨w.heap.size, 0, none⟩)] encZ (fun ss : List Int => ss = []) 0 (w.alloc (.cells #[.map none] 53)) :=
      AnyZI.keys_gives_nil (ρ := keysA_ren) { keysA with } Fence.wide _ trivial rfl w.heap.size _ (by simp) (by simp)
    have cK : ∀ mb W, CallsIn Fence.wide 5 Try.prog 25 #[.map mb] W fun e w' => e = .returned (.func (.func 35) #[] #[.pointer (some ⟨W.heap.size, 0, none⟩)]) ∧ w' = W.alloc (.cells #[.map mb] 53) := fun mb W => AnyZI.keys_in keysA Fence.wide 5 trivial rfl mb W
    have cS := AnyZI.sorted_in sortedA Fence.wide 5 trivial trivial trivial trivial rfl (by omega) (sortsA _) (enters_of Try.func34 (by kernel_rfl) rfl) 35 #[.pointer (some ⟨w.heap.size, 0, none⟩)] trivial (enters_of Try.func35 (by kernel_rfl) rfl) _ 0 (Nat.zero_le _) (by omega) _ hseq
    change CallsIn _ _ Try.prog 24 _ _ _ at cS
    have hfK : Fence.wide.fn 25 := trivial
    have hfS : Fence.wide.fn 24 := trivial
    refine callsIn_of_wp Try.func11 rfl trivial ?_ rfl
    simp only [Try.ntmps11, List.size_toArray, List.length_cons, List.length_nil, Nat.reduceAdd, Nat.reduceSub, Array.replicate_succ, Array.replicate_zero, List.push_toArray, List.append_toArray, List.nil_append, List.cons_append]
    gi_wp2_with (first | (gi_at_call 25; refine (cK _ _).mono ?_; rintro e w' ⟨rfl, rfl⟩) | (gi_at_call 24; refine cS.mono ?_; rintro e w' ⟨v, ss, rfl, rfl, hrow, hnil, hb⟩; obtain rfl : v = .slice none 0 0 := hnil.2 rfl))
    go_ret
    exact ⟨_, rfl, World.ownsRow_nil _ _ _ _, ((Below.refl _ w).alloc (Nat.le_refl _) _).trans (hb.mono (by simp))⟩
  | some m =>
    obtain ⟨⟨D, hown, hhas, -⟩, -⟩ := h.files m rfl
    have hmem : ∀ x, x ∈ liveL s.T ↔ Maps.has D (.int .i64 x) = true := fun x => by rw [hhas]; exact mem_live h.len x
    have hkeys := fun ss (hs : List.Perm ss (intKeys D)) => sorted_keys hown Try.underlying3 hmem hs
    have HK := Lib.hid hkeys
    have hsz := hown.size_le
    have hmax : Maps.size D ≤ maxLen := by unfold maxLen; omega
    have hbytes : Maps.size D * 8 ≤ 140737488355328 := by omega
    have hbl := hown.lt
    clear hkeys hmem hhas h
    refine (callsIn_wide (n := 6)).1 ?_
    have hseq : SeqGives Fence.wide 2 Try.prog 35 #[.pointer (some ⟨w.heap.size, 0, none⟩)] encZ (fun ss => ss.Perm (intKeys D)) (Maps.size D) (w.alloc (.cells #[.map (some m)] 53)) :=
      AnyZI.keys_gives (ρ := keysA_ren) { keysA with } Fence.wide _ trivial rfl (by omega) w.heap.size m _ D _ (by simp) (by simp) (by
        obtain ⟨es, clock, hb, Ft, hs, hD⟩ := hown
        exact ⟨es, clock, (Below.heap_alloc _ _ m hbl).trans hb, Ft, hs, hD⟩)
    have cK : ∀ mb W, CallsIn Fence.wide 5 Try.prog 25 #[.map mb] W fun e w' => e = .returned (.func (.func 35) #[] #[.pointer (some ⟨W.heap.size, 0, none⟩)]) ∧ w' = W.alloc (.cells #[.map mb] 53) := fun mb W => AnyZI.keys_in keysA Fence.wide 5 trivial rfl mb W
    have cS := AnyZI.sorted_in sortedA Fence.wide 5 trivial trivial trivial trivial rfl (by omega) (sortsA _) (enters_of Try.func34 (by kernel_rfl) rfl) 35 #[.pointer (some ⟨w.heap.size, 0, none⟩)] trivial (enters_of Try.func35 (by kernel_rfl) rfl) _ _ hmax hbytes _ hseq
    change CallsIn _ _ Try.prog 24 _ _ _ at cS
    have hfK : Fence.wide.fn 25 := trivial
    have hfS : Fence.wide.fn 24 := trivial
    clear hown hsz hmax hbytes
    refine callsIn_of_wp Try.func11 rfl trivial ?_ rfl
    simp only [Try.ntmps11, List.size_toArray, List.length_cons, List.length_nil, Nat.reduceAdd, Nat.reduceSub, Array.replicate_succ, Array.replicate_zero, List.push_toArray, List.append_toArray, List.nil_append, List.cons_append]
    gi_wp2_with (first | (gi_at_call 25; refine (cK _ _).mono ?_; rintro e w' ⟨rfl, rfl⟩) | (gi_at_call 24; refine cS.mono ?_; rintro e w' ⟨v, ss, rfl, hS, hrow, hnil, hb⟩))
    go_ret
    refine ⟨v, rfl, ?_, ((Below.refl _ w).alloc (Nat.le_refl _) _).trans (hb.mono (by simp))⟩
    have h1 := HK.out ss hS
    have hr := ownsRow_base_a (base' := w.heap.size) hrow (by simp)
    rw [h1] at hr
    have hlen : ss.length = (liveL s.T).length := by rw [← h1, List.length_mergeSort]
    rw [hlen] at hr
    exact hr
end
end Go.Proofs.Ytpengkkbmenkpaa
