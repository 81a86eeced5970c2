/- What the document's Copy does, of one stream: the same, in memory of its own. -/
import Derived.Test.YtpgigpajpcianaaGreatDoorZGlaws
import Derived.Test.YtpgigpajpcianaaGreatDoorZSame
import Derived.Test.YtpgigpajpcianaaGreatDoorZGopen
import Derived.Outline
namespace Go.Proofs.YtpgigpajpcianaaGreatDoor
open Go.RowKit

structure OwnStrm (base : Nat) (i : Strm) (v : Value) (w : World) : Prop where
  ex : ∃ gs cap bv cs, v = .slice (some ⟨gs, 0, none⟩) 1 cap ∧ base ≤ gs ∧ w.heap[gs]? = some (.cells (#[bv, .bool i.ended, .int .i64 i.code, .int .i64 i.stage, .int .i64 i.id] ++ cs) 59 (0, 0)) ∧
    w.ownsRow base 5 1 bv i.bytes.length (bytesL i.bytes) ∧ bv.ownBlock ≠ some gs
end Go.Proofs.YtpgigpajpcianaaGreatDoor
namespace Go.Proofs.YtpgigpajpcianaaGreatDoor
open Go.RowKit

theorem texts_take {p : Nat → Prop} {w : World} {la : Option Addr} {lc : Nat} {L : Lines} (h : IsTexts p w (.slice la L.length lc) L) (k : Nat) (hk : k ≤ L.length) : IsTexts p w (.slice la k lc) (L.take k) := by
  obtain ⟨a, c, e, hc⟩ := h
  cases e
  refine ⟨la, lc, by rw [List.length_take, Nat.min_eq_left hk], fun j b hj => ?_⟩
  rw [List.getElem?_take] at hj
  split at hj
  · exact hc j b hj
  · cases hj
end Go.Proofs.YtpgigpajpcianaaGreatDoor
