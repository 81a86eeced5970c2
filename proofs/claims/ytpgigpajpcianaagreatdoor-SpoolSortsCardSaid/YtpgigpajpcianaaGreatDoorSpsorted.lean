/- Plainly: what a sort on a disk that does not fail comes to. -/
import Derived.Test.YtpgigpajpcianaaGreatDoorSpF
import Derived.Test.YtpgigpajpcianaaGreatDoorSpG
namespace Go.Proofs.YtpgigpajpcianaaGreatDoor
open Go.RowKit

theorem readL_all (i : Strm) (hi : i.ended = true) (h : (cutL [] i.bytes).2 ≠ none) : (readL i.bytes i.ended (i.code, i.stage, i.id)).2.1 = true := by
  rcases hc : cutL [] i.bytes with ⟨L, _ | d⟩
  · rw [hc] at h; exact absurd rfl h
  · rw [readL_is i hc]
    unfold rdOf
    rw [hi]
    rfl
theorem readL_not (i : Strm) (h : (cutL [] i.bytes).2 = none) : (readL i.bytes i.ended (i.code, i.stage, i.id)).2.1 = false := by
  rcases hc : cutL [] i.bytes with ⟨L, _ | d⟩
  · rw [readL_is i hc]; rfl
  · rw [hc] at h; cases h
/-- Of an input that has ended: its lines in order, and no file is left; or one of two errors. -/
theorem sorts_plain (F : Bool) (i : Strm) (hi : i.ended = true) :
    ((spOut [] F i).err = 0 → (spOut [] F i).told.Perm (readL i.bytes i.ended (i.code, i.stage, i.id)).1 ∧ SortedL F (spOut [] F i).told ∧ FineL (spOut [] F i).told ∧ liveL (spOut [] F i).d.T = []) ∧
    ((spOut [] F i).err = 0 ∨ (spOut [] F i).err = 17 ∨ (spOut [] F i).err = 20) := by
  have htk := takes_is (S := []) (readL i.bytes i.ended (i.code, i.stage, i.id)).1 (x0 dst0) [] (rdOk_start (F := F)) (readL_fineL i.bytes i.ended (i.code, i.stage, i.id))
  obtain ⟨-, a2, a3⟩ := htk
  by_cases h0 : (takesD [] F (x0 dst0) (readL i.bytes i.ended (i.code, i.stage, i.id)).1).2 = 0
  · obtain ⟨Ms, hok, hp⟩ := a3 h0
    by_cases hc : (cutL [] i.bytes).2 = none
    · rw [spOut_long [] F i rfl h0 (readL_not i hc) hc]
      exact ⟨fun e => (by cases e), .inr (.inr rfl)⟩
    · rw [spOut_end [] F i rfl h0 (readL_all i hi hc)]
      obtain ⟨b1, b2, b3, b4⟩ := endD_is (S := []) hok
      refine ⟨fun e => ?_, ?_⟩
      · obtain ⟨c1, c2, c3⟩ := b4 e
        exact ⟨c1.trans (by simpa [x0] using hp), c2, b3, liveL_nil.2 c3⟩
      · rcases b2 with e | e | e
        · exact .inl e
        · exact .inr (.inl e)
        · exact absurd rfl e.2
  · rw [spOut_fail [] F i rfl h0]
    refine ⟨fun e => absurd e h0, ?_⟩
    rcases a2 with e | e | e
    · exact .inl e
    · exact .inr (.inl e)
    · exact absurd rfl e.2
/-- Neighbours stand in order. -/
theorem sorted_next {F : Bool} {L : Lines} (h : SortedL F L) {k : Nat} {a b : List UInt8} (ha : L[k]? = some a) (hb : L[k + 1]? = some b) : aheadB F b a = false := by
  have h1 := (List.getElem?_eq_some_iff.1 ha)
  have h2 := (List.getElem?_eq_some_iff.1 hb)
  have := List.pairwise_iff_getElem.1 h k (k + 1) h1.1 h2.1 (by omega)
  rw [h1.2, h2.2] at this
  exact this

end Go.Proofs.YtpgigpajpcianaaGreatDoor
