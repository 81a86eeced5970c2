/- What the document's Pop does. -/
import Derived.Test.YtgipgeeiibkjjaaRefpush
namespace Go.Proofs.Ytgipgeeiibkjjaa
open Go.RowKit

def RefPopped (w : World) (c : Nat) (b : List UInt8) (M : Chunks) (e : Ending) (w' : World) : Prop :=
  ∃ v, e = .returned (.tuple #[refV c v, strV b, .int .i64 0]) ∧ IsTexts w' v M ∧ Below w.heap.size w w'

theorem ret_ref3 {fn : Func} {p u x : Tmp} (hr : fn.results = #[.cell p 36, .tmp u, .tmp x]) {a : Act} {w : World} {R : Ending → World → Prop} {B : Nat} {cs : Array Value} {t : TypeId} {fr : Nat × Nat}
    (hd : a.defers = []) (hp : a.tmps.getD p undef = .pointer (some ⟨B, 0, none⟩)) (hg : w.heap[B]? = some (.cells cs t fr)) (hs : cs.size = 2)
    (h : R (.returned (.tuple #[.agg cs, a.tmps.getD u undef, a.tmps.getD x undef])) w) : bodyPost Try.prog fn R .ret a w := by
  refine bodyPost_ret (v := .tuple #[.agg cs, a.tmps.getD u undef, a.tmps.getD x undef]) ?_ hd h
  have hp' : a.tmps[p]?.getD undef = .pointer (some ⟨B, 0, none⟩) := by simpa using hp
  have hl := run_loadVar_row (P := Try.prog) w B t 36 cs fr _ hg Try.underlying36 rfl (by rw [Try.size36, hs])
  simp [results, hr, hp', asAddr, hl]

set_option maxRecDepth 100000 in
set_option maxHeartbeats 400000 in
theorem refPop_no (c : Nat) (v : Value) (w : World) (hT : IsTexts w v []) :
    Calls Try.prog 24 #[refV c v] w fun e w' => ∃ v', e = .returned (.tuple #[refV c v', .string ByteArray.empty, .int .i64 3]) ∧ IsTexts w' v' [] ∧ Below w.heap.size w w' := by
  have hT2 := hT.below (below2 w (.cells #[.int .i64 c, v] 36) (.cells #[.int .i64 c, v] 36))
  have hv : ∃ a cap, v = .slice a 0 cap := by
    rcases hT.slice with ⟨g, cap, rfl, _⟩ | ⟨rfl, _⟩
    · exact ⟨_, _, rfl⟩
    · exact ⟨_, _, rfl⟩
  obtain ⟨a, cap, rfl⟩ := hv
  have HT := Lib.hid hT2
  clear hT hT2
  go_enter Try.func24, Try.ntmps24
  go_wp2_with fail
  exact ret_ref3 rfl rfl rfl (heap_alloc2_new w _ _) rfl ⟨_, rfl, HT.out, below2 w _ _⟩

set_option maxRecDepth 100000 in
set_option maxHeartbeats 4000000 in
theorem refPop_yes (c : Nat) (v : Value) (b : List UInt8) (M : Chunks) (w : World) (hl : M.length ≤ 8) (hT : IsTexts w v (b :: M)) :
    Calls Try.prog 24 #[refV c v] w (RefPopped w c b M) := by
  have hM : Made w c v (.slice none 0 0) (b :: M) [] ((w.alloc (.cells #[.int .i64 c, v] 36)).alloc (.cells #[.int .i64 0, .slice none 0 0] 36)) :=
    ⟨heap_alloc2_old w _ _, ⟨_, rfl, heap_alloc2_new w _ _⟩, ⟨none, 0, rfl, fun j x hj => by simp at hj⟩, hT.below (below2 w _ _), below2 w _ _⟩
  rcases hT.slice with ⟨g, cap, rfl, hcap, _⟩ | ⟨_, h⟩
  case inr => cases h
  clear hT
  simp only [List.length_cons] at hcap hM ⊢
  have g0 : (((M.length : Int) + 1) == 0) = false := by simp; omega
  have g1 : (1 : Int) ≤ (M.length : Int) + 1 := by omega
  have HM := Lib.hid hM
  clear hM
  go_enter Try.func24, Try.ntmps24
  go_upto_region 3 with (fail)
  have hM := HM.out
  clear HM
  generalize (w.alloc (.cells #[.int .i64 c, .slice (some ⟨g, 0, none⟩) (M.length + 1) cap] 36)).alloc (.cells #[.int .i64 0, .slice none 0 0] 36) = W1 at hM ⊢
  obtain ⟨St, hSt⟩ : ∃ St : ByteArray, St = ⟨b.toArray⟩ := ⟨_, rfl⟩
  have hstr : strV b = .string St := by rw [hSt]; rfl
  clear hSt
  refine wp_region_noPanic ?_
  refine wp_region_held (S := Made w c (.slice (some ⟨g, 0, none⟩) (M.length + 1) cap) (.slice none 0 0) (b :: M) []) (by kernel_rfl) ?_
  change wpAnyH _ _ _ _ _ _ _ _ W1.drew
  have hM2 := hM.below (Below.drew (Below.refl _ _))
  clear hM
  generalize W1.drew = W2 at hM2 ⊢
  have hcells : ∀ W, Made w c (.slice (some ⟨g, 0, none⟩) (M.length + 1) cap) (.slice none 0 0) (b :: M) [] W → ∀ j x, (b :: M)[j]? = some x → W.cell? ⟨g, j, none⟩ = some (strV x) := fun W h j x hj => by
    rcases h.txt.slice with ⟨g', cap', e, _, hc⟩ | ⟨e, _⟩
    · cases e
      exact hc j x hj
    · cases e
  obtain ⟨sv, hsv, hsvc⟩ : ∃ sv : Value, (∀ W, (Instr.sliceAt 34 (.slice (some ⟨g, 0, none⟩) (M.length + 1) cap) (some (.int .i64 1)) none none).run Try.prog W = .ok sv W) ∧
      ∃ ad cp, sv = .slice (some ad) M.length cp ∧ ∀ W, Made w c (.slice (some ⟨g, 0, none⟩) (M.length + 1) cap) (.slice none 0 0) (b :: M) [] W → ∀ j u, (M.map strV)[j]? = some u → W.cell? (ad.add j) = some u := by
    by_cases h1 : cap = 1
    · have hM0 : M = [] := List.eq_nil_of_length_eq_zero (by omega)
      subst hM0
      subst h1
      refine ⟨.slice (some ⟨g, 0, none⟩) 0 0, fun W => by go_simp, ⟨g, 0, none⟩, 0, rfl, fun W _ j u hu => by simp at hu⟩
    · have hcp : (1 : Int) ≤ (cap : Int) := by omega
      have hne : ¬ cap = 1 := h1
      have hne2 : ¬ cap - 1 = 0 := by omega
      refine ⟨.slice (some ⟨g, 1, none⟩) M.length (cap - 1), fun W => by go_simp, ⟨g, 1, none⟩, cap - 1, rfl, fun W h j u hu => ?_⟩
      simp only [List.getElem?_map, Option.map_eq_some_iff] at hu
      obtain ⟨x, hx, rfl⟩ := hu
      rw [Addr.add_mid, Nat.add_comm]
      exact hcells W h (j + 1) x (by simpa using hx)
  refine take_now (i := 0) (.pointer (some ⟨w.heap.size, 0, none⟩)) rfl (by kernel_rfl) (by kernel_rfl) (by kernel_rfl) rfl (fun _ _ => by go_simp) hM2 ?_
  refine take_now (i := 1) (.int .i64 c) rfl (by kernel_rfl) (by kernel_rfl) (by kernel_rfl) rfl (fun W h => by have hc := h.cell0; go_simp) hM2 ?_
  refine take_now (i := 3) (.pointer (some ⟨w.heap.size, 1, none⟩)) rfl (by kernel_rfl) (by kernel_rfl) (by kernel_rfl) rfl (fun _ _ => by go_simp) hM2 ?_
  refine take_now (i := 4) (.slice (some ⟨g, 0, none⟩) (M.length + 1) cap) rfl (by kernel_rfl) (by kernel_rfl) (by kernel_rfl) rfl (fun W h => by have hc := h.cell1; go_simp) hM2 ?_
  simp only [Act.put]
  refine take_now (i := 5) sv rfl (by kernel_rfl) (by kernel_rfl) (by kernel_rfl) rfl (fun W h => by go_simp) hM2 ?_
  refine take_now (i := 8) (.pointer (some ⟨w.heap.size, 1, none⟩)) rfl (by kernel_rfl) (by kernel_rfl) (by kernel_rfl) rfl (fun _ _ => by go_simp) hM2 ?_
  refine take_now (i := 9) (.slice (some ⟨g, 0, none⟩) (M.length + 1) cap) rfl (by kernel_rfl) (by kernel_rfl) (by kernel_rfl) rfl (fun W h => by have hc := h.cell1; go_simp) hM2 ?_
  refine take_now (i := 10) (.pointer (some ⟨g, 0, none⟩)) rfl (by kernel_rfl) (by kernel_rfl) (by kernel_rfl) rfl (fun W h => by go_simp) hM2 ?_
  refine take_now (i := 11) (.string St) rfl (by kernel_rfl) (by kernel_rfl) (by kernel_rfl) rfl (fun W h => by have hc := hcells W h 0 b rfl; rw [hstr] at hc; go_simp) hM2 ?_
  clear hsv
  obtain ⟨ad, cp, rfl, hsrc⟩ := hsvc
  obtain ⟨n2, hn2⟩ : ∃ n2, n2 = W2.heap.size := ⟨_, rfl⟩
  have keep : ∀ W, Below n2 W2 W → Made w c (.slice (some ⟨g, 0, none⟩) (M.length + 1) cap) (.slice none 0 0) (b :: M) [] W := fun W hb => hM2.below (hn2 ▸ hb)
  refine one_now (i := 2) rfl (by kernel_rfl) rfl ?_
  have HSRC := Lib.hid hsrc
  have HC := Lib.hid hcells
  clear hsrc hcells
  go_wp2_with fail
  have hbA : Below n2 W2 (W2.alloc (.cells #[] 9)) := (Below.refl _ _).alloc (Nat.le_of_eq hn2) _
  have hoA := World.ownsRow_made (base := n2) (e := 9) (size := 1) W2 #[] 0 (Nat.le_of_eq hn2) (by decide) rfl
  refine ⟨keep _ hbA, ?_⟩
  refine one_now (i := 6) rfl (by kernel_rfl) rfl ?_
  obtain ⟨i0, hi, hz0, hz1, hz2⟩ := info_parts Try.info9
  refine wp_append_own (P := Try.prog) _ (.tmp 12) (.tmp 15) 34 rfl n2 9 i0 (.string ByteArray.empty) 1 16 Try.underlying34 hi hz0 hz1 hz2 rfl (by decide) (.slice (some ⟨W2.heap.size, 0, none⟩) 0 0) 0 [] rfl hoA ad M.length cp (M.map strV) rfl (by simp)
      (HSRC.out _ (keep _ hbA)) (fun u hu => by obtain ⟨y, _, rfl⟩ := List.mem_map.1 hu; rfl) (by unfold maxLen; omega) (by omega) (by rw [hn2]; simp) ?_
  intro v6 W6 ho6 hg6 hnil
  have hb6 : Below n2 W2 W6 := hbA.grown hg6 (by rw [hn2]; simp) (fun j ej => (hoA.lt j ej).1)
  simp only [Nat.zero_add, List.nil_append] at ho6
  have hv6 : ∃ g6 cap6, v6 = .slice (some ⟨g6, 0, none⟩) M.length cap6 := by
    rcases ho6.2 with ⟨h, _⟩ | ⟨g6, cap6, _, h, _⟩
    · exact absurd (hnil.1 h).1 (by simp)
    · exact ⟨g6, cap6, h⟩
  obtain ⟨g6, cap6, rfl⟩ := hv6
  have hM6 := keep W6 hb6
  refine ⟨hM6, ?_⟩
  simp only [Act.put]
  refine take_now (i := 7) (.agg #[.int .i64 c, .slice (some ⟨g6, 0, none⟩) M.length cap6]) rfl (by kernel_rfl) (by kernel_rfl) (by kernel_rfl) rfl (fun _ _ => by go_simp) hM6 ?_
  refine one_now (i := 12) rfl (by kernel_rfl) rfl ?_
  obtain ⟨cs, hcs, hres⟩ := hM6.res
  refine wp_store_row 36 (.tmp 2) (.tmp 17) rfl (w.heap.size + 1) #[.int .i64 c, .slice (some ⟨g6, 0, none⟩) M.length cap6] rfl rfl 36 cs hres (by rw [Try.size36]; rfl) hcs (by simp [Value.oneCell']) ?_
  have hMs := hM6.stored #[.int .i64 c, .slice (some ⟨g6, 0, none⟩) M.length cap6] rfl
  have hos := IsTexts.stored hM6 (ownsRow_base ho6 (Nat.zero_le _)) #[.int .i64 c, .slice (some ⟨g6, 0, none⟩) M.length cap6]
  refine ⟨hMs, ?_⟩
  refine one_now (i := 13) rfl (by kernel_rfl) rfl ?_
  go_wp2_with fail
  refine one_now (i := 14) rfl (by kernel_rfl) rfl ?_
  go_wp2_with fail
  refine wpAnyH_done (by kernel_rfl) (NoPanic.normal ?_) _
  go_wp2_with fail
  exact ret_ref3 rfl rfl rfl (setRow_heap _ _ _ _ 36 _ hres) rfl ⟨_, by rw [hstr]; rfl, hos, hMs.bel⟩

end Go.Proofs.Ytgipgeeiibkjjaa
