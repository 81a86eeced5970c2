/- The plain model of a ring of chunks: its cells as a list of values. No conditions. -/
import Derived.Test.YtgipgeeiibkjjaaRows
import Derived.WalkKit
import Derived.WalkSpells
import Derived.WalkLawsBesides
import Derived.Deep.MidRow
import Derived.Deep.WholeRow
import Derived.Lib.Hide
namespace Go.Proofs.Ytgipgeeiibkjjaa
open Go.RowKit

abbrev Chunks := List (List UInt8)

/-- The bytes as cells. -/
def bytesL (b : List UInt8) : List Value := b.map fun c => .int .u8 c.toNat
/-- One cell of a ring: how many bytes, and 32 places. -/
def cellL (b : List UInt8) : List Value := .int .i64 b.length :: (bytesL b ++ List.replicate (32 - b.length) (.int .u8 0))
/-- All eight of them. -/
def cellsL (L : Chunks) : List Value := (L ++ List.replicate (8 - L.length) []).flatMap cellL
/-- The whole ring. -/
def ringL (c : Nat) (L : Chunks) : List Value := .int .i64 c :: .int .i64 L.length :: cellsL L
def ringA (c : Nat) (L : Chunks) : Array Value := (ringL c L).toArray

/-- A ring that may be: 'c' from 0 to 8, no more chunks than that, each from 1 to 32 bytes. -/
structure Good (c : Nat) (L : Chunks) : Prop where
  cap : c ≤ 8
  len : L.length ≤ c
  each : ∀ b ∈ L, 1 ≤ b.length ∧ b.length ≤ 32

theorem length_bytesL (b : List UInt8) : (bytesL b).length = b.length := by simp [bytesL]
theorem length_cellL (b : List UInt8) (h : b.length ≤ 32) : (cellL b).length = 33 := by simp [cellL, length_bytesL]; omega
theorem length_flat : ∀ (L : Chunks), (∀ b ∈ L, b.length ≤ 32) → (L.flatMap cellL).length = 33 * L.length
  | [], _ => rfl
  | b :: r, h => by
    rw [List.flatMap_cons, List.length_append, length_cellL b (h b (by simp)), length_flat r (fun x hx => h x (by simp [hx])), List.length_cons]; omega
theorem pad_le {L : Chunks} (h : ∀ b ∈ L, b.length ≤ 32) : ∀ b ∈ L ++ List.replicate (8 - L.length) [], b.length ≤ 32 := by
  intro b hb
  rcases List.mem_append.1 hb with hb | hb
  · exact h b hb
  · rw [(List.mem_replicate.1 hb).2]; simp
theorem Good.le {c : Nat} {L : Chunks} (h : Good c L) : ∀ b ∈ L, b.length ≤ 32 := fun b hb => (h.each b hb).2
theorem length_cellsL {c : Nat} {L : Chunks} (h : Good c L) : (cellsL L).length = 264 := by
  have hc := h.cap
  have hl := h.len
  unfold cellsL
  rw [length_flat _ (pad_le h.le), List.length_append, List.length_replicate]; omega
theorem length_ringL {c : Nat} {L : Chunks} (h : Good c L) : (ringL c L).length = 266 := by
  simp [ringL, length_cellsL h]
theorem size_ringA {c : Nat} {L : Chunks} (h : Good c L) : (ringA c L).size = 266 := by
  simp [ringA, length_ringL h]
theorem one_bytesL (b : List UInt8) : ∀ v ∈ bytesL b, v.oneCell' = true := by
  intro v hv
  obtain ⟨c, _, rfl⟩ := List.mem_map.1 hv
  rfl
theorem one_cellL (b : List UInt8) : ∀ v ∈ cellL b, v.oneCell' = true := by
  intro v hv
  rcases List.mem_cons.1 hv with rfl | hv
  · rfl
  · rcases List.mem_append.1 hv with hv | hv
    · exact one_bytesL b v hv
    · rw [(List.mem_replicate.1 hv).2]; rfl
theorem one_ringL (c : Nat) (L : Chunks) : ∀ v ∈ ringL c L, v.oneCell' = true := by
  intro v hv
  rcases List.mem_cons.1 hv with rfl | hv
  · rfl
  · rcases List.mem_cons.1 hv with rfl | hv
    · rfl
    · obtain ⟨b, _, hb⟩ := List.mem_flatMap.1 hv
      exact one_cellL b v hb
theorem one_ringA (c : Nat) (L : Chunks) : (ringA c L).all (·.oneCell') = true := all_oneCell_toArray (one_ringL c L)

theorem good_empty {c : Nat} (h : c ≤ 8) : Good c [] := ⟨h, Nat.zero_le _, fun _ h => by cases h⟩

/-! The type's own facts. -/
theorem Try.info30 : (Try.prog.info? 30).map (fun i => (i.zero, i.size)) = some (some (.agg (ringA 0 [])), 266) := by kernel_rfl
theorem Try.zero30 (w : World) : (zeroValue 30).run Try.prog w = .ok (.agg (ringA 0 [])) w := (zero_of_info Try.info30).1 w
theorem Try.size30 : (Try.prog.info? 30).map (·.size) = some 266 := (zero_of_info Try.info30).2
theorem Try.built30 (n : Nat) : Try.prog.built 30 [(0, .int .i64 n)] = some (ringA n []) := by kernel_rfl
theorem Try.built30_zero : Try.prog.built 30 [] = some (ringA 0 []) := by kernel_rfl
theorem Try.info27 : (Try.prog.info? 27).map (fun i => (i.zero, i.size)) = some (some (.agg (cellL []).toArray), 33) := by kernel_rfl
theorem Try.size27 : (Try.prog.info? 27).map (·.size) = some 33 := (zero_of_info Try.info27).2
theorem Try.built27 (n : Nat) : Try.prog.built 27 [(0, .int .i64 n)] = some (Value.int .i64 n :: List.replicate 32 (.int .u8 0)).toArray := by kernel_rfl

end Go.Proofs.Ytgipgeeiibkjjaa
