/- What Push answers, in all cases. -/
import Derived.Test.YtgipgeeiibkjjaaPush
namespace Go.Proofs.Ytgipgeeiibkjjaa
open Go.RowKit

def pushE (c : Nat) (L : Chunks) (bs : List UInt8) : Nat := if bs.length < 1 ∨ 32 < bs.length ∨ c = 0 then 1 else if L.length = c then 2 else 0
def pushL (c : Nat) (L : Chunks) (bs : List UInt8) : Chunks := if pushE c L bs = 0 then L ++ [bs] else L

set_option maxRecDepth 100000 in
set_option maxHeartbeats 800000 in
theorem push_arg1 (c : Nat) (L : Chunks) (a : Option Addr) (n cap : Nat) (w : World) (hG : Good c L) (h : n < 1) :
    Calls Try.prog 12 #[.agg (ringA c L), .slice a n cap] w fun e w' => e = .returned (.tuple #[.agg (ringA c L), .int .i64 1]) ∧ Below w.heap.size w w' := by
  have r0 := ringA_0 c L
  have hz := Try.zero30
  have g1 : (n : Int) < 1 := by omega
  go_enter Try.func12, Try.ntmps12
  go_wp2_with (first
      | (with_reducible refine wpList_load_row rfl 30 (.tmp 2) rfl w.heap.size rfl 30 (ringA c L) (0, 0) _ (heap_alloc2_old w _ _) Try.underlying30 rfl (by rw [Try.size30, size_ringA hG]) ?_)
      | (with_reducible refine wpList_store_at rfl 30 (.tmp 4) (.tmp 20) rfl (ringA c L) (ringA 0 []) 30 (w.heap.size + 1) (by simp) rfl rfl 266 Try.size30 (size_ringA hG) size_zero (one_ringA _ _) ?_))
  exact ret_ring rfl rfl rfl (heap_alloc2_new w _ _) (size_ringA hG) ⟨rfl, ((Below.refl _ _).alloc (Nat.le_refl _) _).alloc (by simp) _⟩

set_option maxRecDepth 100000 in
set_option maxHeartbeats 800000 in
theorem push_arg2 (c : Nat) (L : Chunks) (a : Option Addr) (n cap : Nat) (w : World) (hG : Good c L) (h2 : 32 < n) :
    Calls Try.prog 12 #[.agg (ringA c L), .slice a n cap] w fun e w' => e = .returned (.tuple #[.agg (ringA c L), .int .i64 1]) ∧ Below w.heap.size w w' := by
  have r0 := ringA_0 c L
  have hz := Try.zero30
  have g1 : ¬ (n : Int) < 1 := by omega
  have g2 : (32 : Int) < n := by omega
  go_enter Try.func12, Try.ntmps12
  go_wp2_with (first
      | (with_reducible refine wpList_load_row rfl 30 (.tmp 2) rfl w.heap.size rfl 30 (ringA c L) (0, 0) _ (heap_alloc2_old w _ _) Try.underlying30 rfl (by rw [Try.size30, size_ringA hG]) ?_)
      | (with_reducible refine wpList_store_at rfl 30 (.tmp 4) (.tmp 20) rfl (ringA c L) (ringA 0 []) 30 (w.heap.size + 1) (by simp) rfl rfl 266 Try.size30 (size_ringA hG) size_zero (one_ringA _ _) ?_))
  exact ret_ring rfl rfl rfl (heap_alloc2_new w _ _) (size_ringA hG) ⟨rfl, ((Below.refl _ _).alloc (Nat.le_refl _) _).alloc (by simp) _⟩

set_option maxRecDepth 100000 in
set_option maxHeartbeats 800000 in
theorem push_arg3 (c : Nat) (L : Chunks) (a : Option Addr) (n cap : Nat) (w : World) (hG : Good c L) (h : 1 ≤ n) (h2 : n ≤ 32) (h0 : c = 0) :
    Calls Try.prog 12 #[.agg (ringA c L), .slice a n cap] w fun e w' => e = .returned (.tuple #[.agg (ringA c L), .int .i64 1]) ∧ Below w.heap.size w w' := by
  have r0 := ringA_0 c L
  have hz := Try.zero30
  have g1 : ¬ (n : Int) < 1 := by omega
  have g2 : ¬ (32 : Int) < n := by omega
  have g3 : ((c : Int) == 0) = true := by simp [h0]
  clear h0
  go_enter Try.func12, Try.ntmps12
  go_wp2_with (first
      | (with_reducible refine wpList_load_row rfl 30 (.tmp 2) rfl w.heap.size rfl 30 (ringA c L) (0, 0) _ (heap_alloc2_old w _ _) Try.underlying30 rfl (by rw [Try.size30, size_ringA hG]) ?_)
      | (with_reducible refine wpList_store_at rfl 30 (.tmp 4) (.tmp 20) rfl (ringA c L) (ringA 0 []) 30 (w.heap.size + 1) (by simp) rfl rfl 266 Try.size30 (size_ringA hG) size_zero (one_ringA _ _) ?_))
  exact ret_ring rfl rfl rfl (heap_alloc2_new w _ _) (size_ringA hG) ⟨rfl, ((Below.refl _ _).alloc (Nat.le_refl _) _).alloc (by simp) _⟩

set_option maxRecDepth 100000 in
set_option maxHeartbeats 800000 in
theorem push_full (c : Nat) (L : Chunks) (a : Option Addr) (n cap : Nat) (w : World) (hG : Good c L) (h : 1 ≤ n) (h2 : n ≤ 32) (h0 : c ≠ 0) (hl : L.length = c) :
    Calls Try.prog 12 #[.agg (ringA c L), .slice a n cap] w fun e w' => e = .returned (.tuple #[.agg (ringA c L), .int .i64 2]) ∧ Below w.heap.size w w' := by
  have r0 := ringA_0 c L
  have r1 := ringA_1 c L
  have hz := Try.zero30
  have g1 : ¬ (n : Int) < 1 := by omega
  have g2 : ¬ (32 : Int) < n := by omega
  have g3 : ((c : Int) == 0) = false := by simp [h0]
  have g4 : ((L.length : Int) == (c : Int)) = true := by simp [hl]
  clear h0 hl
  go_enter Try.func12, Try.ntmps12
  go_wp2_with (first
      | (with_reducible refine wpList_load_row rfl 30 (.tmp 2) rfl w.heap.size rfl 30 (ringA c L) (0, 0) _ (heap_alloc2_old w _ _) Try.underlying30 rfl (by rw [Try.size30, size_ringA hG]) ?_)
      | (with_reducible refine wpList_store_at rfl 30 (.tmp 4) (.tmp 26) rfl (ringA c L) (ringA 0 []) 30 (w.heap.size + 1) (by simp) rfl rfl 266 Try.size30 (size_ringA hG) size_zero (one_ringA _ _) ?_))
  exact ret_ring rfl rfl rfl (heap_alloc2_new w _ _) (size_ringA hG) ⟨rfl, ((Below.refl _ _).alloc (Nat.le_refl _) _).alloc (by simp) _⟩

/-- THE CONTRACT. -/
theorem push_any (c : Nat) (L : Chunks) (v : Value) (bs : List UInt8) (w : World) (hG : Good c L) (hB : IsBytes w v bs) :
    Calls Try.prog 12 #[.agg (ringA c L), v] w fun e w' => e = .returned (.tuple #[.agg (ringA c (pushL c L bs)), .int .i64 (pushE c L bs)]) ∧ Below w.heap.size w w' := by
  obtain ⟨a, cap, rfl, hb⟩ := hB
  unfold pushL pushE
  by_cases h1 : bs.length < 1
  · simp only [h1, true_or, if_true]
    exact push_arg1 c L a _ cap w hG h1
  by_cases h2 : 32 < bs.length
  · simp only [h2, true_or, or_true, if_true]
    exact push_arg2 c L a _ cap w hG h2
  by_cases h3 : c = 0
  · have : (bs.length < 1 ∨ 32 < bs.length ∨ c = 0) := .inr (.inr h3)
    rw [if_pos this, if_neg (by decide)]
    exact push_arg3 c L a _ cap w hG (by omega) (by omega) h3
  have hn : ¬ (bs.length < 1 ∨ 32 < bs.length ∨ c = 0) := by omega
  rw [if_neg hn]
  by_cases h4 : L.length = c
  · rw [if_pos h4, if_neg (by decide)]
    exact push_full c L a _ cap w hG (by omega) (by omega) h3 h4
  · rw [if_neg h4, if_pos rfl]
    obtain ⟨x, hx⟩ : ∃ x, bs[0]? = some x := ⟨bs[0], by simp⟩
    obtain ⟨ad, rfl, _⟩ := hb 0 x hx
    exact push_yes c L ad _ cap bs w hG rfl (fun j x hx => by obtain ⟨ad', e, h⟩ := hb j x hx; cases e; exact h) (by omega) (by omega) (by have := hG.len; omega)

theorem Good.pushed {c : Nat} {L : Chunks} (h : Good c L) (bs : List UInt8) : Good c (pushL c L bs) := by
  unfold pushL pushE
  by_cases h1 : bs.length < 1 ∨ 32 < bs.length ∨ c = 0
  · rw [if_pos h1, if_neg (by decide)]; exact h
  · rw [if_neg h1]
    by_cases h4 : L.length = c
    · rw [if_pos h4, if_neg (by decide)]; exact h
    · rw [if_neg h4, if_pos rfl]
      exact h.push (by have := h.len; omega) (by omega) (by omega)

end Go.Proofs.Ytgipgeeiibkjjaa
