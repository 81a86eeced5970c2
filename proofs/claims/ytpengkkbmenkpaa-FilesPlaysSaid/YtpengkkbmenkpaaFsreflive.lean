/- The document's disk: Live. -/
import Derived.Test.YtpengkkbmenkpaaFsrefis
namespace Go.Proofs.Ytpengkkbmenkpaa
open Go.RowKit

theorem liveFrom_snoc : ∀ (A : List (List UInt8 × Bool)) (j : Nat) (t : List UInt8 × Bool), liveFrom j (A ++ [t]) = liveFrom j A ++ (if t.2 then [((j + A.length : Nat) : Int) + 1] else [])
  | [], j, t => by
    simp only [List.nil_append, liveFrom]
    split <;> simp
  | a :: r, j, t => by
    have ih := liveFrom_snoc r (j + 1) t
    simp only [List.cons_append, liveFrom, ih]
    have e : ((j + 1 + r.length : Nat) : Int) = ((j + (a :: r).length : Nat) : Int) := by simp; omega
    rw [e]
    split <;> simp
theorem live_take {T : List (List UInt8 × Bool)} {k : Nat} {t : List UInt8} {f : Bool} (hk : T[k]? = some (t, f)) : liveL (T.take (k + 1)) = liveL (T.take k) ++ (if f then [(k : Int) + 1] else []) := by
  have hlt := (List.getElem?_eq_some_iff.1 hk).1
  unfold liveL
  rw [take_snoc hk, liveFrom_snoc]
  simp [Nat.min_eq_left (Nat.le_of_lt hlt)]
theorem live_small (T : List (List UInt8 × Bool)) : (liveL T).length ≤ T.length := by
  have : ∀ (T : List (List UInt8 × Bool)) (k : Nat), (liveFrom k T).length ≤ T.length := by
    intro T
    induction T with
    | nil => intro k; simp [liveFrom]
    | cons t r ih =>
      intro k
      have := ih (k + 1)
      unfold liveFrom
      split <;> simp <;> omega
  exact this T 0
theorem Try.info3b : (Try.prog.info? 3).map (fun i => (i.zero, i.size, i.bytes)) = some (some (.int .i64 0), 1, 8) := by kernel_rfl

section
variable {base r : Nat} {own : Nat → Nat} {S : Script} {s : DSt} {sv tv bv : Value} {w : World}
set_option maxRecDepth 100000 in
set_option maxHeartbeats 2000000 in
theorem refLive_any (h : RAt base r own S s w) (hT : s.T.length ≤ 64) :
    Calls Try.prog 12 #[.pointer (some ⟨r, 0, none⟩)] w fun e w' => ∃ v, e = .returned v ∧ w'.ownsRow w.heap.size 3 1 v (liveL s.T).length ((liveL s.T).map (Value.int .i64)) ∧ Below w.heap.size w w' := by
  obtain ⟨sv, tv, bv, h⟩ := h
  obtain ⟨ba, bc, rfl⟩ := owns_slice h.thr
  obtain ⟨i3, hi3, y0, y1, y2⟩ := info_parts Try.info3b
  have H := Lib.hid h
  have I3 := Lib.hid hi3
  have Y0 := Lib.hid y0
  have Y1 := Lib.hid y1
  have Y2 := Lib.hid y2
  have HT := Lib.hid hT
  clear h hT hi3 y0 y1 y2
  go_enter Try.func12, Try.ntmps12
  go_wp2_with fail
  go_loopw [3, 4] (fun l i wr => ∃ k : Nat, k ≤ s.T.length ∧ i = .int .i64 k ∧ wr.ownsRow w.heap.size 3 1 l (liveL (s.T.take k)).length ((liveL (s.T.take k)).map (Value.int .i64)) ∧ Below w.heap.size w wr) (fun _ i _ => s.T.length - (intOf i).toNat)
  case atStart => exact ⟨0, Nat.zero_le _, rfl, by simpa [liveL, liveFrom] using World.ownsRow_nil w w.heap.size 3 1, Below.refl _ _⟩
  case round =>
    obtain ⟨k, hk, rfl, ho, hb⟩ := hrel
    have hd := H.out.below hb
    have c2 := hd.c2
    have q5 : (k : Int) ≤ 64 := by have := HT.out; omega
    by_cases hlt : k < s.T.length
    · obtain ⟨x, hx⟩ : ∃ x, s.T[k]? = some x := ⟨s.T[k], by simp⟩
      obtain ⟨t, f⟩ := x
      obtain ⟨_, _, gb, cb, -, e6, -, hc, -, -⟩ := hd.at hx
      cases e6
      have q3 : (0 : Int) ≤ (k : Int) := by omega
      have q4 : (k : Int) < (s.T.length : Int) := by omega
      have hlv := live_take hx
      have hsm := live_small (s.T.take k)
      rw [List.length_take] at hsm
      obtain ⟨la, lc, rfl⟩ := owns_slice ho
      have HO := Lib.hid ho
      have HB := Lib.hid hb
      have HLT := Lib.hid hlt
      have HLV := Lib.hid hlv
      have HSM := Lib.hid hsm
      clear hd hx hlv hsm ho hb hlt hk
      cases f with
      | true =>
        go_wp2_with (at_builtin; refine wpList_append_own _ rfl _ _ 38 rfl w.heap.size 3 i3 (.int .i64 0) 1 8 Try.underlying38 I3.out Y0.out Y1.out Y2.out rfl (by decide) _ _ _ rfl (HO.out.alloc (.cells #[.int .i64 ((k : Int) + 1)] 3)) ⟨wr.heap.size, 0, none⟩ 1 1 [.int .i64 ((k : Int) + 1)] rfl rfl (cell_one_new _ _ _) (by simp [Value.oneCell']) ?p1 ?p2 ?p3 ?_)
        case p1 => have := HSM.out; have := HT.out; unfold maxLen; omega
        case p2 => have := HSM.out; have := HT.out; omega
        case p3 => have := HB.out.size; simp; omega
        intro v' w2 ho2 hg2 _
        have hb2 : Below w.heap.size w w2 := owns_below_of (HO.out.alloc (.cells #[.int .i64 ((k : Int) + 1)] 3)) (HB.out.alloc HB.out.size _) hg2
        have ho3 : w2.ownsRow w.heap.size 3 1 v' (liveL (s.T.take (k + 1))).length ((liveL (s.T.take (k + 1))).map (Value.int .i64)) := by
          rw [HLV.out, if_pos trivial, List.map_append, List.length_append]
          exact ho2
        have HB2 := Lib.hid hb2
        have HO3 := Lib.hid ho3
        clear hb2 ho3 ho2 hg2
        go_wp2_with fail
        go_roundw
        case rel => exact ⟨k + 1, HLT.out, by go_num, HO3.out, HB2.out⟩
        case measure => have := HLT.out; simp [intOf]; omega
      | false =>
        have ho3 : wr.ownsRow w.heap.size 3 1 (.slice la (liveL (s.T.take k)).length lc) (liveL (s.T.take (k + 1))).length ((liveL (s.T.take (k + 1))).map (Value.int .i64)) := by
          have := HO.out
          rw [HLV.out]
          simpa using this
        have HO3 := Lib.hid ho3
        clear ho3
        go_wp2_with fail
        go_roundw
        case rel => exact ⟨k + 1, HLT.out, by go_num, HO3.out, HB.out⟩
        case measure => have := HLT.out; simp [intOf]; omega
    · have q2 : ¬ (k : Int) < (s.T.length : Int) := by omega
      have e1 : k = s.T.length := by omega
      rw [e1, List.take_length] at ho
      have HO := Lib.hid ho
      have HB := Lib.hid hb
      clear ho hb hd hlt e1 hk
      go_wp2_with fail
      go_ret
      exact ⟨_, rfl, HO.out, HB.out⟩
end
end Go.Proofs.Ytpengkkbmenkpaa
