/- What same does of two lists that hold the same texts: true. -/
import Derived.Test.YtgipgeeiibkjjaaTold
import Derived.Deep.QuietTactic
import Derived.BigQuiet
namespace Go.Proofs.Ytgipgeeiibkjjaa
open Go.RowKit

/-- Nothing in memory has turned. -/
def Quiet (w w' : World) : Prop := ∃ n, w' = w.drewN n
def TrueQuietly (w : World) (e : Ending) (w' : World) : Prop := e = .returned (.bool true) ∧ Quiet w w'

set_option maxRecDepth 100000 in
set_option maxHeartbeats 400000 in
theorem same0 (a b : Option Addr) (ca cb : Nat) (w : World) : Calls Try.prog 15 #[.slice a 0 ca, .slice b 0 cb] w (TrueQuietly w) := by
  go_enter Try.func15, Try.ntmps15
  go_wp2
  go_loop [5] (fun i => i = .int .i64 0) (fun _ => 0)
  case atStart => rfl
  case round =>
    obtain rfl := hrel
    go_wp2
    go_ret
    exact ⟨rfl, 0, rfl⟩

set_option maxRecDepth 100000 in
set_option maxHeartbeats 400000 in
theorem same1 (ga gb n ca cb : Nat) (ss : List ByteArray) (w : World) (hn : ss.length = n) (h63 : n ≤ 1000000000)
    (hA : ∀ j s, ss[j]? = some s → w.cell? ⟨ga, j, none⟩ = some (.string s)) (hB : ∀ j s, ss[j]? = some s → w.cell? ⟨gb, j, none⟩ = some (.string s)) :
    Calls Try.prog 15 #[.slice (some ⟨ga, 0, none⟩) n ca, .slice (some ⟨gb, 0, none⟩) n cb] w (TrueQuietly w) := by
  have HA := Lib.hid hA
  have HB := Lib.hid hB
  have HN := Lib.hid hn
  clear hA hB hn
  have g0 : ((n : Int) != (n : Int)) = false := by simp
  go_enter Try.func15, Try.ntmps15
  go_wp2
  go_loopw [5] (fun i wr => ∃ k q : Nat, k ≤ n ∧ i = .int .i64 k ∧ wr = w.drewN q) (fun i _ => n - (intOf i).toNat)
  case atStart => exact ⟨0, 0, Nat.zero_le _, rfl, rfl⟩
  case round =>
    obtain ⟨k, q, hk, rfl, rfl⟩ := hrel
    by_cases hlt : k < n
    · obtain ⟨s, hs⟩ : ∃ s, ss[k]? = some s := ⟨ss[k]'(by rw [HN.out]; exact hlt), by simp⟩
      have cA := HA.out k s hs
      have cB := HB.out k s hs
      have g1 : (0 : Int) ≤ (k : Int) := by omega
      have g2 : (k : Int) < (n : Int) := by omega
      clear hs
      go_wp2
      go_quiet (fail)
      go_wp2
      go_roundw
      case rel => exact ⟨k + 1, _, by omega, by go_num, rfl⟩
      case measure => simp [intOf]; omega
    · have g2 : ¬ (k : Int) < (n : Int) := by omega
      clear hlt
      go_wp2
      go_ret
      exact ⟨rfl, q, rfl⟩

theorem Quiet.below {w w' : World} (h : Quiet w w') (B : Nat) : Below B w w' := by
  obtain ⟨n, rfl⟩ := h
  exact ⟨rfl, rfl, rfl, Nat.le_refl _, fun _ _ => rfl⟩

/-- THE CONTRACT. -/
theorem same_true (va vb : Value) (n ba bb : Nat) (ss : List ByteArray) (w : World) (h63 : n ≤ 1000000000) (hA : w.ownsRow ba 9 1 va n (ss.map .string)) (hB : w.ownsRow bb 9 1 vb n (ss.map .string)) :
    Calls Try.prog 15 #[va, vb] w (TrueQuietly w) := by
  by_cases h0 : n = 0
  · subst h0
    have hz : ∀ {v : Value} {b : Nat}, w.ownsRow b 9 1 v 0 (ss.map .string) → ∃ a c, v = .slice a 0 c := fun h => by
      rcases h.2 with ⟨rfl, _⟩ | ⟨g, cap, cur, rfl, _⟩
      · exact ⟨none, 0, rfl⟩
      · exact ⟨_, cap, rfl⟩
    obtain ⟨a, ca, rfl⟩ := hz hA
    obtain ⟨b, cb, rfl⟩ := hz hB
    exact same0 a b ca cb w
  · have hz : ∀ {v : Value} {b : Nat}, w.ownsRow b 9 1 v n (ss.map .string) → ∃ g c, v = .slice (some ⟨g, 0, none⟩) n c ∧ ∀ j s, ss[j]? = some s → w.cell? ⟨g, j, none⟩ = some (.string s) := fun h => by
      have h' := h
      rcases h.2 with ⟨_, h1⟩ | ⟨g, cap, cur, rfl, _⟩
      · omega
      · refine ⟨g, cap, rfl, fun j s hs => ?_⟩
        have := h'.cells (g := g) rfl j (.string s) (by simp [hs])
        rwa [Addr.add_mid, Nat.zero_add] at this
    have hl := hA.1
    simp at hl
    obtain ⟨ga, ca, rfl, cA⟩ := hz hA
    obtain ⟨gb, cb, rfl, cB⟩ := hz hB
    exact same1 ga gb n ca cb ss w hl h63 cA cB

end Go.Proofs.Ytgipgeeiibkjjaa
