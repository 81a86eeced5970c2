/- A disk: what New does. -/
import Derived.Test.YtpengkkbmenkpaaFscount
namespace Go.Proofs.Ytpengkkbmenkpaa
open Go.RowKit

/-- The value is a script, in blocks of p. -/
def IsScript (p : Nat → Prop) (w : World) (v : Value) (S : Script) : Prop :=
  ∃ a cap, v = .slice a S.length cap ∧ ∀ j f, S[j]? = some f → ∃ gb off, a = some ⟨gb, off, none⟩ ∧ p gb ∧ w.cell? ⟨gb, off + j * 2, none⟩ = some (.int .i64 f.1) ∧ w.cell? ⟨gb, off + j * 2 + 1, none⟩ = some (.int .i64 f.2)
theorem IsScript.frame {p q : Nat → Prop} {w w' : World} {v : Value} {S : Script} (h : IsScript p w v S) (hf : Frame q w w') (hpq : ∀ k, p k → ¬ q k) : IsScript p w' v S := by
  obtain ⟨a, cap, rfl, hc⟩ := h
  refine ⟨a, cap, rfl, fun j c hj => ?_⟩
  obtain ⟨gb, off, rfl, hp, hx, hy⟩ := hc j c hj
  exact ⟨gb, off, rfl, hp, hf.cell? hx (hpq _ hp), hf.cell? hy (hpq _ hp)⟩
theorem IsScript.below {p : Nat → Prop} {w w' : World} {v : Value} {S : Script} (h : IsScript p w v S) (hb : Below w.heap.size w w') : IsScript p w' v S := h.frame (Below.toFrame hb fun _ => False) (fun _ _ h => h)
theorem IsScript.mono {p q : Nat → Prop} {w : World} {v : Value} {S : Script} (h : IsScript p w v S) (hpq : ∀ k, k < w.heap.size → p k → q k) : IsScript q w v S := by
  obtain ⟨a, cap, rfl, hc⟩ := h
  refine ⟨a, cap, rfl, fun j c hj => ?_⟩
  obtain ⟨gb, off, rfl, hp, hx, hy⟩ := hc j c hj
  exact ⟨gb, off, rfl, hpq _ (block_lt_of_cell hx) hp, hx, hy⟩
/-- Numbers that ints may hold. -/
def Script64 (S : Script) : Prop := ∀ f ∈ S, I64 f.1 ∧ I64 f.2

abbrev failF (S : Script) : NumF := fun c => (failAt S c).map fun i => .lit (.int .i64 i)
theorem Try.built_disk (b : Nat) : Try.prog.built 55 [(2, .map (some b))] = some #[.map none, .int .i64 0, .map (some b), .int .i64 0, .int .i64 0] := by kernel_rfl
/-- What holds ahead of each round. -/
structure NewInv (w : World) (S : Script) (k : Nat) (wr : World) : Prop where
  le : k ≤ S.length
  map : IsMapOf (plainElem Try.prog 3) w.heap.size k (failF (S.take k)) wr
  heap : wr.heap[w.heap.size + 1]? = some (.cells #[.map none, .int .i64 0, .map (some w.heap.size), .int .i64 0, .int .i64 0] 55 (0, 0))
  bel : Below w.heap.size w wr
theorem NewInv.c2 {w : World} {S : Script} {k : Nat} {wr : World} (h : NewInv w S k wr) : wr.cell? ⟨w.heap.size + 1, 2, none⟩ = some (.map (some w.heap.size)) := by rw [cell_of_row _ _ _ _ _ _ h.heap]; rfl
theorem NewInv.below {w : World} {S : Script} {k : Nat} {wr wr' : World} (h : NewInv w S k wr) (hb : Below wr.heap.size wr wr') : NewInv w S k wr' :=
  ⟨h.le, h.map.frame (Below.toFrame hb fun _ => False) (fun h => h), (hb.block _ (Array.getElem?_eq_some_iff.1 h.heap).1).trans h.heap, h.bel.trans (hb.mono h.bel.size)⟩
theorem NewInv.lt {w : World} {S : Script} {k : Nat} {wr : World} (h : NewInv w S k wr) : w.heap.size + 1 < wr.heap.size := (Array.getElem?_eq_some_iff.1 h.heap).1
/-- The disk that is made. -/
theorem NewInv.made {w : World} {S : Script} {wr : World} (h : NewInv w S S.length wr) (hl : S.length ≤ 1000000) :
    DiskAt w.heap.size (w.heap.size + 1) (fun k => if k = w.heap.size + 1 then 1 else if k = w.heap.size then 2 else 0) S dst0 wr := by
  refine ⟨w.heap.size, none, [], ?_, ?_, (fun _ => rfl), (fun b e => by cases e), rfl, (fun k t b v e => by simp [dst0] at e), (by simp), (by simp), fun k hk => ?_⟩
  · exact h.heap
  · have := h.map
    rw [List.take_length] at this
    exact this.mono hl
  · have := h.lt
    by_cases h1 : k = w.heap.size + 1
    · omega
    · by_cases h2 : k = w.heap.size
      · omega
      · simp [h1, h2] at hk
/-- An Id that is the first one of its call is put. -/
theorem NewInv.put {w : World} {S : Script} {k : Nat} {wr w' : World} (h : NewInv w S k wr) {f : Int × Int} (hf : S[k]? = some f) (hn : failAt (S.take k) f.1 = none)
    (hm : IsMapOf (plainElem Try.prog 3) w.heap.size (k + 1) (fun x => if x = f.1 then some (.lit (.int .i64 f.2)) else failF (S.take k) x) w') (hg : wr.grownBy w' (some w.heap.size)) : NewInv w S (k + 1) w' where
  le := (List.getElem?_eq_some_iff.1 hf).1
  map := hm.congr (fun c => by
    show (failAt (S.take (k + 1)) c).map _ = _
    rw [take_snoc hf, failAt_snoc]
    by_cases hc : c = f.1
    · subst hc
      simp [hn]
    · have hc' : ¬ f.1 = c := fun e => hc e.symm
      cases hh : failAt (S.take k) c <;> simp [hc, hc', hh, failF])
  heap := (hg.block _ h.lt (by simp)).trans h.heap
  bel := h.bel.grown hg h.bel.size (fun j e => by cases e; exact Nat.le_refl _)
theorem NewInv.skip {w : World} {S : Script} {k : Nat} {wr : World} (h : NewInv w S k wr) {f : Int × Int} (hf : S[k]? = some f) (hn : (failAt (S.take k) f.1).isSome = true) : NewInv w S (k + 1) wr where
  le := (List.getElem?_eq_some_iff.1 hf).1
  map := (h.map.mono (Nat.le_succ _)).congr (fun c => by
    show (failAt (S.take (k + 1)) c).map _ = (failAt (S.take k) c).map _
    rw [take_snoc hf, failAt_snoc]
    by_cases hc : (failAt (S.take k) c).isSome = true
    · rw [if_pos hc]
    · rw [if_neg hc, if_neg (fun e => hc (by rw [← e]; exact hn))]
      cases hh : failAt (S.take k) c with
      | none => rfl
      | some i => rw [hh] at hc; exact absurd rfl hc)
  heap := h.heap
  bel := h.bel

set_option maxRecDepth 100000 in
set_option maxHeartbeats 1000000 in
theorem new_any {p : Nat → Prop} (v : Value) (S : Script) (w : World) (hS : IsScript p w v S) (hl : S.length ≤ 1000000) (hI : Script64 S) :
    Calls Try.prog 8 #[v] w fun e w' => ∃ g own, e = .returned (.pointer (some ⟨g, 0, none⟩)) ∧ DiskAt w.heap.size g own S dst0 w' ∧ Below w.heap.size w w' := by
  have hmm := @run_makeMap Try.prog
  have HB := Lib.hid Try.built_disk
  obtain ⟨a, cap, rfl, hc⟩ := id hS
  have HS := Lib.hid hS
  have HI := Lib.hid hI
  clear hS hc hI
  go_enter Try.func8, Try.ntmps8
  go_wp2_with fail
  have hi0 : NewInv w S 0 ((w.alloc (.map #[] 0)).alloc (.cells #[.map none, .int .i64 0, .map (some w.heap.size), .int .i64 0, .int .i64 0] 55)) :=
    ⟨Nat.zero_le _, ((isMap_new w _).congr (fun c => by simp [failF, failAt_nil])).same (by rw [Below.heap_alloc _ _ _ (by simp)]), heap_at (by simp), ((Below.refl _ w).alloc (Nat.le_refl _) _).alloc (by simp) _⟩
  have HI0 := Lib.hid hi0
  clear hi0
  go_loopw [13] (fun i wr => ∃ k : Nat, i = .int .i64 k ∧ NewInv w S k wr) (fun i _ => S.length - (intOf i).toNat)
  case atStart => exact ⟨0, rfl, HI0.out⟩
  case round =>
    clear HI0
    obtain ⟨k, rfl, hinv⟩ := hrel
    by_cases hlt : k < S.length
    · have q1 : (0 : Int) ≤ (k : Int) := by omega
      have q2 : (k : Int) < (S.length : Int) := by omega
      obtain ⟨f, hf⟩ : ∃ f, S[k]? = some f := ⟨S[k], by simp⟩
      obtain ⟨a', cap', e, hc⟩ := HS.out.below hinv.bel
      obtain ⟨gb, off, rfl, -, hx, hy⟩ := hc k f hf
      cases e
      obtain ⟨hi1, hi2⟩ := HI.out f (List.mem_of_getElem? hf)
      have HV := Lib.hid hinv
      have HF := Lib.hid hf
      have HL := Lib.hid hi1
      have HL2 := Lib.hid hi2
      clear hf hc hi1 hi2 hinv
      go_upto_region 5 with fail
      have hinv1 := HV.out.below ((Below.refl wr.heap.size wr).alloc (Nat.le_refl _) (.cells #[.int .i64 f.1, .int .i64 f.2] 51))
      have hh := heap_alloc_last wr (.cells #[.int .i64 f.1, .int .i64 f.2] 51)
      have hne := HV.out.lt
      generalize wr.alloc (.cells #[.int .i64 f.1, .int .i64 f.2] 51) = W1 at hinv1 hh ⊢
      generalize wr.heap.size = G at hh hne ⊢
      have c2 := hinv1.c2
      have d0 : W1.cell? ⟨G, 0, none⟩ = some (.int .i64 f.1) := by rw [cell_of_row _ _ _ _ _ _ hh]; rfl
      have d1 : W1.cell? ⟨G, 1, none⟩ = some (.int .i64 f.2) := by rw [cell_of_row _ _ _ _ _ _ hh]; rfl
      have hl1 := look_int (w := W1.drew) (hinv1.map.same rfl) HL.out
      have hinv2 : NewInv w S k W1.drew := hinv1.below (Below.drew (Below.refl _ _))
      have hinv3 : NewInv w S k W1.drew.drew := hinv2.below (Below.drew (Below.refl _ _))
      obtain ⟨W2, hr2, hm2, hg2⟩ := hinv3.map.put Try.underlying52 (by omega) HL.out (plainElem_int Try.underlying3 (wf_of HL2.out))
      have HV2 := Lib.hid hinv2
      have HV3 := Lib.hid hinv3
      have HM2 := Lib.hid hm2
      have HG2 := Lib.hid hg2
      clear hinv1 hinv2 hinv3 hh hm2 hg2 HV hx hy
      cases hi : failAt (S.take k) f.1 with
      | none =>
        rw [hi] at hl1
        simp only [Option.getD_none, Option.isSome_none] at hl1
        have HN := Lib.hid hi
        clear hi
        go_region
        go_wp2_with fail
        go_region
        go_wp2_with fail
        exact ⟨⟨k + 1, by go_num, HV3.out.put HF.out HN.out HM2.out HG2.out⟩, by simp [intOf]; omega⟩
      | some i =>
        rw [hi] at hl1
        simp only [Option.getD_some, Option.isSome_some] at hl1
        have HN := Lib.hid hi
        clear hi
        go_region
        go_wp2_with fail
        exact ⟨⟨k + 1, by go_num, HV2.out.skip HF.out (by rw [HN.out]; rfl)⟩, by simp [intOf]; omega⟩
    · obtain rfl : k = S.length := by have := hinv.le; omega
      have HV := Lib.hid hinv
      clear hinv
      go_wp2_with fail
      go_ret
      exact ⟨_, _, rfl, HV.out.made hl, HV.out.bel⟩

end Go.Proofs.Ytpengkkbmenkpaa
