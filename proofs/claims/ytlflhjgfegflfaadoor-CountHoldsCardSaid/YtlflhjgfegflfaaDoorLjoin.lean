/- What Join, and the document's, do, of every list of texts. -/
import Derived.Test.YtlflhjgfegflfaaDoorLB
namespace Go.Proofs.YtlflhjgfegflfaaDoor
open Go.RowKit

set_option maxRecDepth 100000 in
set_option maxHeartbeats 2000000 in
theorem join_any (v : Value) (L : Lines) (w : World) (hT : IsTexts (fun _ => True) w v L) (hl : L.length ≤ 1000000) (hsz : (joinL L).length ≤ 100000000) : Calls Tryd.prog 90 #[v] w (Fresh w (joinL L)) := by
  have HT := Lib.hid hT
  obtain ⟨a, cap, rfl, -⟩ := hT
  obtain ⟨i0, hi, hz0, hz1, hz2⟩ := info_parts Tryd.info5
  go_enter Tryd.func90, Tryd.ntmps90
  go_wp2
  go_loopw [3, 8] (fun jv i wr => ∃ (k : Nat) (u : Value), u = jv ∧ i = .int .i64 k ∧ JoinInv L w u k wr) (fun _ i _ => L.length - (intOf i).toNat)
  case atStart => exact ⟨0, _, rfl, rfl, JoinInv.start L w⟩
  case round =>
    obtain ⟨k, jv, rfl, rfl, hk, hown, hbel⟩ := hrel
    have hle := joinL_le L
    by_cases hlt : k < L.length
    · obtain ⟨b, hb⟩ : ∃ b, L[k]? = some b := ⟨L[k], by simp⟩
      obtain ⟨_, _, e, hcell⟩ := HT.out.below hbel
      cases e
      obtain ⟨gb, off, rfl, _, hx⟩ := hcell k b hb
      have hj := joinL_take hb
      have hl1 := hle (k + 1)
      obtain ⟨S, hS⟩ : ∃ S : ByteArray, strV b = .string S := ⟨_, rfl⟩
      obtain ⟨hS1, hS2⟩ := strCells_eq hS
      rw [hS] at hx
      rw [hj] at hl1
      simp only [List.length_append, List.length_singleton] at hl1
      obtain ⟨J, hJ⟩ : ∃ J, J = joinL (L.take k) := ⟨_, rfl⟩
      rw [← hJ] at hj hl1 hown
      have HJ := Lib.hid hj
      have HO := Lib.hid hown
      have HS1 := Lib.hid hS1
      have g1 : (0 : Int) ≤ (k : Int) := by omega
      have g2 : (k : Int) < (L.length : Int) := by omega
      have hw := hbel.size
      clear hj hown hS1 hS hb hJ hcell hle
      go_wp2_with (first
        | (at_builtin; refine Lib.wpList_append_own_string _ rfl (.tmp 12) (.tmp 13) 22 9 rfl w.heap.size 5 i0 Tryd.underlying22 Tryd.underlying9 hi hz0 hz1 hz2 _ _ _ rfl HO.out S rfl (by unfold maxLen; omega) (by omega) hw ?_; intro v1 w1 hown1 hgrow1 _; have hbel1 := owns_below_of HO.out hbel hgrow1; have HO1 := Lib.hid hown1; have hw1 := hbel1.size; clear hown1 hgrow1)
        | (at_builtin; refine wpList_append_own _ rfl (.tmp 15) (.tmp 16) 22 rfl w.heap.size 5 i0 (.int .u8 0) 1 1 Tryd.underlying22 hi hz0 hz1 hz2 rfl (by decide) _ _ _ rfl (HO1.out.alloc _) ⟨w1.heap.size, 0, none⟩ 1 1 [.int .u8 10] rfl rfl (cell_one_new _ _ _) (by simp [Value.oneCell']) (by unfold maxLen; omega) (by omega) (by simp; omega) ?_; intro v2 w2 hown2 hgrow2 _))
      go_roundw
      case rel =>
        refine ⟨k + 1, _, rfl, by go_num, by omega, ?_, ?_⟩
        · rw [HJ.out, bytesL_append, bytesL_append, List.length_append, List.length_append, ← hS2]
          rw [HS1.out] at hown2
          simpa [bytesL, Nat.add_assoc] using hown2
        · exact (hbel1.alloc hw1 _).grown hgrow2 (by simp; omega) (fun k e => (HO1.out.lt k e).1)
      case measure => simp [intOf]; omega
    · obtain rfl : k = L.length := by omega
      have g2 : ¬ (L.length : Int) < (L.length : Int) := by omega
      have HO := Lib.hid hown
      clear hown hlt hle
      go_wp2
      go_ret
      exact ⟨jv, rfl, by simpa using HO.out, hbel⟩

end Go.Proofs.YtlflhjgfegflfaaDoor
