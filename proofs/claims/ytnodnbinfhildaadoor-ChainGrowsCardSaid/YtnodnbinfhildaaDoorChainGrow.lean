/- Plainly: chain, with more of its inputs. -/
import Derived.Test.YtnodnbinfhildaaDoorChainFace
import Derived.Test.YtnodnbinfhildaaDoorGrowm
namespace Go.Proofs.YtnodnbinfhildaaDoor

theorem chainK_le : ∀ ins : List Strm, chainK ins ≤ ins.length
  | [] => Nat.le_refl _
  | i :: r => by
    have := chainK_le r
    rw [chainK]
    split <;> simp only [List.length_cons] <;> omega
/-- More comes; and where all had ended, nothing does. -/
theorem chainL_more : ∀ ins ins' : List Strm, LongerAll ins ins' → (∃ r, chainL ins' = chainL ins ++ r) ∧ (chainK ins = ins.length → ins' = ins)
  | [], [], _ => ⟨⟨[], rfl⟩, fun _ => rfl⟩
  | [], i' :: r', h => by have := h.1; simp at this
  | i :: r, [], h => by have := h.1; simp at this
  | i :: r, i' :: r', h => by
    obtain ⟨h0, hr⟩ := h.cons
    obtain ⟨⟨q, hq⟩, hk⟩ := chainL_more r r' hr
    have hkr := chainK_le r
    rcases h0 with rfl | ⟨he, y, e, rfl⟩
    · refine ⟨?_, fun h => ?_⟩
      · rw [chainL, chainL]
        by_cases hi : i'.ended = true
        · exact ⟨q, by rw [if_pos hi, if_pos hi, hq, List.append_assoc]⟩
        · exact ⟨[], by simp [hi]⟩
      · rw [chainK] at h
        split at h
        · rw [hk (by simp only [List.length_cons] at h; omega)]
        · simp only [List.length_cons] at h; omega
    · refine ⟨?_, fun h => ?_⟩
      · rw [chainL, chainL, he]
        exact ⟨y ++ (if e = true then chainL r' else []), by simp⟩
      · rw [chainK, he] at h
        simp at h
theorem chain_some (N : Nat) (A B : List UInt8) (hok : chainOk N A B) : 0 < chainIns N := hok.1
theorem chain_grows (N : Nat) (A B : List UInt8) (ins ins' : List Strm) (h : LongerAll ins ins') : GrowsTo (chainFin N A B ins) (chainFin N A B ins') := by
  obtain ⟨⟨q, hq⟩, hk⟩ := chainL_more ins ins' h
  refine ⟨fun j => ?_, fun hn => ?_⟩
  · unfold chainFin
    by_cases hj : j = 0
    · exact ⟨q, by simp only [if_pos hj]; exact hq⟩
    · exact ⟨[], by simp [hj]⟩
  · have hle := chainK_le ins
    have he : chainK ins = ins.length := by
      unfold chainFin at hn
      simp only at hn
      split at hn
      · omega
      · omega
    rw [hk he]
    exact ⟨rfl, hn, rfl⟩

end Go.Proofs.YtnodnbinfhildaaDoor
