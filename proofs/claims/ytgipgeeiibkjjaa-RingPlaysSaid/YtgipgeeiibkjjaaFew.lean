/- What few does: whether calls are few enough. -/
import Derived.Test.YtgipgeeiibkjjaaSame
namespace Go.Proofs.Ytgipgeeiibkjjaa
open Go.RowKit

/-- A call, as the law is handed it: what it does, and its bytes. -/
structure Call where
  op : Int
  bytes : List UInt8

/-- The cells of the calls, from a place on. -/
def CallsAt (w : World) (b off : Nat) (l : List Call) : Prop :=
  ∀ j x, l[j]? = some x → ∃ bv, w.cell? ⟨b, off + j * 2, none⟩ = some (.int .i64 x.op) ∧ w.cell? ⟨b, off + j * 2 + 1, none⟩ = some bv ∧ IsBytes w bv x.bytes
/-- The value is a list of these calls. -/
def IsCalls (w : World) (v : Value) (l : List Call) : Prop :=
  (l = [] ∧ ∃ a cap, v = .slice a 0 cap) ∨ ∃ b off cap, v = .slice (some ⟨b, off, none⟩) l.length cap ∧ CallsAt w b off l

theorem CallsAt.below {w w' : World} {b off : Nat} {l : List Call} (h : CallsAt w b off l) (hb : Below w.heap.size w w') : CallsAt w' b off l := by
  intro j x hj
  obtain ⟨bv, h1, h2, h3⟩ := h j x hj
  exact ⟨bv, cell_below hb h1, cell_below hb h2, h3.below hb⟩

def total (l : List Call) : Nat := (l.map fun x => x.bytes.length).sum
theorem total_snoc (l : List Call) (x : Call) : total (l ++ [x]) = total l + x.bytes.length := by simp [total]

def Short (l : List Call) : Prop := l.length ≤ 500 ∧ total l ≤ 65536
def FewEnd (w : World) (l : List Call) (e : Ending) (w' : World) : Prop := ∃ b, e = .returned (.bool b) ∧ (b = true → Short l) ∧ w = w'

theorem IsBytes.slice {w : World} {v : Value} {bs : List UInt8} (h : IsBytes w v bs) : ∃ a cap, v = .slice a bs.length cap := by
  obtain ⟨a, cap, rfl, _⟩ := h
  exact ⟨a, cap, rfl⟩

set_option maxRecDepth 100000 in
set_option maxHeartbeats 400000 in
theorem few_nil (a : Option Addr) (cap : Nat) (w : World) : Calls Try.prog 6 #[.slice a 0 cap] w (FewEnd w []) := by
  go_enter Try.func6, Try.ntmps6
  go_wp2
  go_loop [3, 4] (fun n i => n = .int .i64 0 ∧ i = .int .i64 0) (fun _ _ => 0)
  case atStart => exact ⟨rfl, rfl⟩
  case round =>
    obtain ⟨rfl, rfl⟩ := hrel
    go_wp2
    go_ret
    exact ⟨true, rfl, fun _ => ⟨by simp, by simp [total]⟩, rfl⟩

set_option maxRecDepth 100000 in
set_option maxHeartbeats 800000 in
theorem few_some (b off n cap : Nat) (l : List Call) (w : World) (hn : l.length = n) (h63 : n ≤ 140737488355328) (hl : ∀ x ∈ l, x.bytes.length ≤ 140737488355328) (hc : CallsAt w b off l) :
    Calls Try.prog 6 #[.slice (some ⟨b, off, none⟩) n cap] w (FewEnd w l) := by
  have HC := Lib.hid hc
  have HL := Lib.hid hl
  have HN := Lib.hid hn
  clear hc hl hn
  by_cases h5 : (500 : Int) < (n : Int)
  · go_enter Try.func6, Try.ntmps6
    go_wp2
    go_ret
    exact ⟨false, rfl, (fun h => by cases h), rfl⟩
  go_enter Try.func6, Try.ntmps6
  go_wp2
  go_loop [3, 4] (fun t i => ∃ k : Nat, k ≤ n ∧ i = .int .i64 k ∧ t = .int .i64 (total (l.take k)) ∧ total (l.take k) ≤ 65536) (fun _ i => n - (intOf i).toNat)
  case atStart => exact ⟨0, Nat.zero_le _, rfl, by simp [total], by simp [total]⟩
  case round =>
    obtain ⟨k, hk, rfl, rfl, ht⟩ := hrel
    by_cases hlt : k < n
    · obtain ⟨x, hx⟩ : ∃ x, l[k]? = some x := ⟨l[k]'(by rw [HN.out]; exact hlt), by simp⟩
      obtain ⟨bv, _, h2, h3⟩ := HC.out k x hx
      obtain ⟨a3, c3, rfl⟩ := h3.slice
      have hxl := HL.out x (List.mem_of_getElem? hx)
      have hs : total (l.take (k + 1)) = total (l.take k) + x.bytes.length := by
        obtain ⟨hk', rfl⟩ := List.getElem?_eq_some_iff.1 hx
        rw [List.take_succ_eq_append_getElem hk', total_snoc]
      obtain ⟨T, hT⟩ : ∃ T, T = total (l.take k) := ⟨_, rfl⟩
      rw [← hT] at ht hs ⊢
      have HS := Lib.hid hs
      have HT := Lib.hid hT
      clear hs hT h3 hx
      have g1 : (0 : Int) ≤ (k : Int) := by omega
      have g2 : (k : Int) < (n : Int) := by omega
      by_cases hbig : 65536 < T + x.bytes.length
      · have hb' : (65536 : Int) < (T : Int) + (x.bytes.length : Int) := by omega
        go_wp2
        go_ret
        exact ⟨false, rfl, (fun h => by cases h), rfl⟩
      · have hb' : ¬ (65536 : Int) < (T : Int) + (x.bytes.length : Int) := by omega
        go_wp2
        go_round
        case rel => exact ⟨k + 1, by omega, by go_num, by rw [HS.out]; go_num, by rw [HS.out]; omega⟩
        case measure => simp [intOf]; omega
    · obtain rfl : k = n := by omega
      go_wp2
      go_ret
      refine ⟨true, rfl, fun _ => ⟨by rw [HN.out]; omega, ?_⟩, rfl⟩
      rwa [List.take_of_length_le (by rw [HN.out]; exact Nat.le_refl _)] at ht

/-- THE CONTRACT. -/
theorem few_any (v : Value) (l : List Call) (w : World) (hc : IsCalls w v l) (h63 : l.length ≤ 140737488355328) (hl : ∀ x ∈ l, x.bytes.length ≤ 140737488355328) : Calls Try.prog 6 #[v] w (FewEnd w l) := by
  rcases hc with ⟨rfl, a, cap, rfl⟩ | ⟨b, off, cap, rfl, hc⟩
  · exact few_nil a cap w
  · exact few_some b off _ cap l w rfl h63 hl hc

end Go.Proofs.Ytgipgeeiibkjjaa
