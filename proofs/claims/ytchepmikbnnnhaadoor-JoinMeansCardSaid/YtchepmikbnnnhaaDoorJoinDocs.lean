/- The document's denotation of join; what join comes to is just that. -/
import Derived.Test.YtchepmikbnnnhaaDoorJoinDoc
import Derived.Test.YtchepmikbnnnhaaDoorJnD
import Derived.Test.YtchepmikbnnnhaaDoorSame
import Derived.Outline
import Derived.Deep.MidRow
namespace Go.Proofs.YtchepmikbnnnhaaDoor
open Go.RowKit

def rdErrJ (i : Strm) : Int × Int × Int := (readL i.bytes i.ended (i.code, i.stage, i.id)).2.2
def joinWantF (N : Nat) (a : UInt8) (f : Nat → Strm) : Strm := match (settleJ N a (startJ f)).2.2 with
  | .waits p => ⟨joinL (settleJ N a (startJ f)).1, false, (rdErrJ (f p)).1, (rdErrJ (f p)).2.1, (rdErrJ (f p)).2.2⟩
  | .ends e => if e = 0 then ⟨joinL (settleJ N a (startJ f)).1, true, 0, 0, 0⟩ else ⟨joinL (settleJ N a (startJ f)).1, false, e, -1, 0⟩
  | _ => ⟨joinL (settleJ N a (startJ f)).1, true, 0, 0, 0⟩
def joinWant (N : Nat) (A _ : List UInt8) (ins : List Strm) : Strm := joinWantF N (A.headD 0) (insF ins)

/-! How much comes out. -/
structure FOk (N : Nat) (a : UInt8) (t : JT) : Prop where
  fine : ∀ j, j < 2 → ∀ l ∈ t.G j ++ t.W j, l.length ≤ 64
  most : ∀ j, j < 2 → (t.G j).length ≤ N
  keyed : ∀ j, j < 2 → Keyed a (t.G j)
section
variable {N : Nat} {a : UInt8}
theorem FOk.read {t : JT} (h : FOk N a t) (h1 : 1 ≤ N) (p : Nat) : FOk N a (readJ N a t p) := by
  refine ⟨fun j hj => ?_, fun j hj => ?_, fun j hj => ?_⟩
  all_goals
    by_cases hp : j = p
    · subst hp
      first
        | (rw [(readJ_at t j).1, (readJ_at t j).2]; unfold sideR; rw [readG_keeps]; exact h.fine j hj)
        | (rw [(readJ_at t j).2]; exact readG_count h1 _ _ _ (h.most j hj))
        | (rw [(readJ_at t j).2]; exact readG_keyed _ _ _ (h.keyed j hj))
    · first
        | (rw [(readJ_other t hp).1, (readJ_other t hp).2]; exact h.fine j hj)
        | (rw [(readJ_other t hp).2]; exact h.most j hj)
        | (rw [(readJ_other t hp).2]; exact h.keyed j hj)
theorem FOk.drop {t : JT} (h : FOk N a t) (p : Nat) : FOk N a (dropJ t p) := by
  refine ⟨fun j hj => ?_, fun j hj => ?_, fun j hj => ?_⟩
  · show ∀ l ∈ setAt t.G p [] j ++ t.W j, _
    by_cases hp : j = p
    · subst hp; rw [setAt_self]; exact fun l hl => h.fine j hj l (List.mem_append_right _ hl)
    · rw [setAt_other _ _ hp]; exact h.fine j hj
  · show (setAt t.G p [] j).length ≤ N
    by_cases hp : j = p
    · subst hp; rw [setAt_self]; exact Nat.zero_le _
    · rw [setAt_other _ _ hp]; exact h.most j hj
  · show Keyed a (setAt t.G p [] j)
    by_cases hp : j = p
    · subst hp; rw [setAt_self]; exact fun _ h => by cases h
    · rw [setAt_other _ _ hp]; exact h.keyed j hj
theorem FOk.round {t : JT} (h : FOk N a t) (h1 : 1 ≤ N) : FOk N a (roundJ N a t).1 := by
  have hr := roundIs (N := N) (a := a) t
  generalize roundJ N a t = r at hr
  cases hr with
  | halt0 k0 => exact h.read h1 0
  | halt1 k0 k1 => exact (h.read h1 0).read h1 1
  | less k0 k1 k2 => exact ((h.read h1 0).read h1 1).drop 0
  | more k0 k1 k2 k3 => exact ((h.read h1 0).read h1 1).drop 1
  | tells k0 k1 k2 k3 => exact (h.read h1 0).read h1 1
theorem joinL_short : ∀ L : Lines, (∀ l ∈ L, l.length ≤ 130) → (joinL L).length ≤ 131 * L.length
  | [], _ => by simp [joinL]
  | x :: r, h => by
    have h1 := h x List.mem_cons_self
    have h2 := joinL_short r (fun y hy => h y (List.mem_cons_of_mem _ hy))
    have : (joinL (x :: r)).length = x.length + 1 + (joinL r).length := by simp [joinL]; omega
    rw [this, List.length_cons]
    omega
theorem settle_many (h1 : 1 ≤ N) : ∀ t : JT, FOk N a t → (settleJ N a t).1.length ≤ N * len0 t ∧ ∀ l ∈ (settleJ N a t).1, l.length ≤ 130 := by
  refine settleJ_ind (P := fun t r => FOk N a t → r.1.length ≤ N * len0 t ∧ ∀ l ∈ r.1, l.length ≤ 130) (fun t t' p h hk => ⟨Nat.zero_le _, (fun l hl => by cases hl)⟩) (fun t t' e h hk => ⟨Nat.zero_le _, (fun l hl => by cases hl)⟩) (fun t t' r h ih hk => ?_) (fun t t' r h ih hk => ?_)
  · have h2 := hk.round h1
    have h3 := len0_round (N := N) (a := a) t
    rw [h] at h2 h3
    obtain ⟨i1, i2⟩ := ih h2
    exact ⟨Nat.le_trans i1 (Nat.mul_le_mul_left N h3), i2⟩
  · have h2 := hk.round h1
    have h3 := len0_round (N := N) (a := a) t
    rw [h] at h2 h3
    obtain ⟨i1, i2⟩ := ih ((h2.drop 0).drop 1)
    have hd : len0 (drops t') + (t'.G 0).length = len0 t' := by
      show (t'.W 0).length + (setAt (dropJ t' 0).G 1 [] 0).length + (t'.G 0).length = (t'.W 0).length + (t'.G 0).length
      rw [setAt_other _ _ (show 0 ≠ 1 by decide)]
      show (t'.W 0).length + (setAt t'.G 0 [] 0).length + (t'.G 0).length = _
      rw [setAt_self]
      simp
    refine ⟨?_, fun l hl => ?_⟩
    · simp only
      rw [List.length_append, pairsJ_len]
      have h4 : (t'.G 0).length * (t'.G 1).length ≤ N * (t'.G 0).length := by rw [Nat.mul_comm]; exact Nat.mul_le_mul_right _ (h2.most 1 (by decide))
      have h5 : N * (len0 (drops t') + (t'.G 0).length) ≤ N * len0 t := Nat.mul_le_mul_left N (by rw [hd]; exact h3)
      rw [Nat.mul_add] at h5
      omega
    · rcases List.mem_append.1 hl with hl | hl
      · unfold pairsJ at hl
        obtain ⟨x, hx, hl⟩ := List.mem_flatMap.1 hl
        obtain ⟨y, hy, rfl⟩ := List.mem_map.1 hl
        exact pair_len a x y (h2.fine 0 (by decide) x (List.mem_append_left _ hx)) (h2.fine 1 (by decide) y (List.mem_append_left _ hy))
      · exact i2 l hl
theorem startJ_ok (f : Nat → Strm) : FOk N a (startJ f) := ⟨fun j _ l hl => (readL_lines (f j).bytes (f j).ended ((f j).code, (f j).stage, (f j).id)).1 l hl, fun _ _ => Nat.zero_le _, fun _ _ _ h => by cases h⟩
theorem doc_most (h1 : 1 ≤ N) (hN : N ≤ 14) (f : Nat → Strm) (h0 : (f 0).bytes.length ≤ 4000) : (joinL (settleJ N a (startJ f)).1).length ≤ 10000000 := by
  obtain ⟨k1, k2⟩ := settle_many h1 (startJ f) (startJ_ok (N := N) (a := a) f)
  have k3 := joinL_short _ k2
  have k4 := (readL_lines (f 0).bytes (f 0).ended ((f 0).code, (f 0).stage, (f 0).id)).2
  have k5 : len0 (startJ f) = (rdW (f 0)).length := rfl
  have k6 : (rdW (f 0)).length ≤ 4001 := by unfold rdW; omega
  have k7 : N * len0 (startJ f) ≤ 14 * 4001 := Nat.mul_le_mul hN (by rw [k5]; exact k6)
  omega

/-! Where the document stands: ahead of a round, and within it. -/
structure DocJ (N : Nat) (a : UInt8) (f : Nat → Strm) (t : JT) (k : Nat) (at0 : Nat → Nat) (now : Nat → Lines) (wn : Nat → Bool) : Prop where
  ov : t.ov = fun j => rdOv (f j)
  ok : FOk N a t
  done : ∀ j, j < 2 → j < k → (sideR N a t j).2.2 = 1 ∧ now j = (sideR N a t j).2.1 ∧ (sideR N a t j).1 = (rdW (f j)).drop (at0 j + (now j).length)
  left : ∀ j, j < 2 → k ≤ j → t.W j = (rdW (f j)).drop (at0 j + (now j).length) ∧ t.G j = (if wn j = true then [] else now j) ∧ (wn j = false → sideR N a t j = (t.W j, t.G j, 1))
  le : ∀ j, j < 2 → at0 j + (now j).length ≤ (rdW (f j)).length
theorem docJ_start (f : Nat → Strm) : DocJ N a f (startJ f) 0 (fun _ => 0) (fun _ => []) (fun _ => true) :=
  ⟨rfl, startJ_ok f, fun j _ h => absurd h (Nat.not_lt_zero _), fun j _ _ => ⟨rfl, rfl, fun h => by cases h⟩, fun j _ => Nat.zero_le _⟩
variable {f : Nat → Strm} {t : JT} {k : Nat} {at0 : Nat → Nat} {now : Nat → Lines} {wn : Nat → Bool}
/-- A group that is there. -/
theorem DocJ.skip (h : DocJ N a f t k at0 now wn) (hk : k < 2) (hw : wn k = false) : DocJ N a f t (k + 1) at0 now wn := by
  obtain ⟨l1, l2, l3⟩ := h.left k hk (Nat.le_refl _)
  rw [if_neg (by rw [hw]; decide)] at l2
  have l4 := l3 hw
  refine ⟨h.ov, h.ok, fun j hj hjk => ?_, fun j hj hjk => h.left j hj (by omega), h.le⟩
  by_cases he : j = k
  · subst he
    rw [l4]
    exact ⟨rfl, l2.symm, l1⟩
  · exact h.done j hj (by omega)
/-- What is read of the input, from where the last group ended. -/
theorem DocJ.reads (h : DocJ N a f t k at0 now wn) (hk : k < 2) (hw : wn k = true) : sideR N a t k = readG N a (rdOv (f k)) ((rdW (f k)).drop (at0 k + (now k).length)) [] := by
  obtain ⟨l1, l2, -⟩ := h.left k hk (Nat.le_refl _)
  rw [if_pos hw] at l2
  unfold sideR
  rw [l1, l2, h.ov]
theorem DocJ.read (h : DocJ N a f t k at0 now wn) (hk : k < 2) (hw : wn k = true) (hc : (sideR N a t k).2.2 = 1) : DocJ N a f t (k + 1) (setAt at0 k (at0 k + (now k).length)) (setAt now k (sideR N a t k).2.1) wn := by
  have hr := h.reads hk hw
  have hkeep := readG_keeps (N := N) (a := a) (rdOv (f k)) ((rdW (f k)).drop (at0 k + (now k).length)) []
  rw [← hr, List.nil_append] at hkeep
  have hlen := congrArg List.length hkeep
  rw [List.length_append, List.length_drop] at hlen
  have hle := h.le k hk
  refine ⟨h.ov, h.ok, fun j hj hjk => ?_, fun j hj hjk => ?_, fun j hj => ?_⟩
  · by_cases he : j = k
    · subst he
      rw [setAt_self, setAt_self]
      refine ⟨hc, rfl, ?_⟩
      rw [← List.drop_drop, ← hkeep, List.drop_left]
    · rw [setAt_other _ _ he, setAt_other _ _ he]
      exact h.done j hj (by omega)
  · rw [setAt_other _ _ (show j ≠ k by omega), setAt_other _ _ (show j ≠ k by omega)]
    exact h.left j hj (by omega)
  · by_cases he : j = k
    · subst he
      rw [setAt_self, setAt_self]
      omega
    · rw [setAt_other _ _ he, setAt_other _ _ he]
      exact h.le j hj
theorem DocJ.both (h : DocJ N a f t 2 at0 now wn) : (sideR N a t 0).2.2 = 1 ∧ (sideR N a t 1).2.2 = 1 ∧ now 0 = (sideR N a t 0).2.1 ∧ now 1 = (sideR N a t 1).2.1 ∧ now 0 ≠ [] ∧ now 1 ≠ [] := by
  obtain ⟨a1, a2, -⟩ := h.done 0 (by decide) (by decide)
  obtain ⟨b1, b2, -⟩ := h.done 1 (by decide) (by decide)
  exact ⟨a1, b1, a2, b2, by rw [a2]; exact readG_one a1, by rw [b2]; exact readG_one b1⟩
/-- Ahead of the next round: the groups that are dropped are wanted. -/
theorem DocJ.next (h : DocJ N a f t 2 at0 now wn) (h1 : 1 ≤ N) {t' : JT} (wn' : Nat → Bool) (hW : t'.W = (readJ N a (readJ N a t 0) 1).W) (hO : t'.ov = t.ov) (hG : ∀ j, j < 2 → t'.G j = if wn' j = true then [] else now j) : DocJ N a f t' 0 at0 now wn' := by
  obtain ⟨c0, c1, n0, n1, -, -⟩ := h.both
  obtain ⟨g0, g1, w0, w1⟩ := both_G (N := N) (a := a) t
  have hw : ∀ j, j < 2 → t'.W j = (sideR N a t j).1 := fun j hj => by
    obtain rfl | rfl : j = 0 ∨ j = 1 := by omega
    · rw [hW, w0]
    · rw [hW, w1]
  have hok := (h.ok.read h1 0).read h1 1
  have hn : ∀ j, j < 2 → now j = (readJ N a (readJ N a t 0) 1).G j := fun j hj => by
    obtain rfl | rfl : j = 0 ∨ j = 1 := by omega
    · rw [g0, n0]
    · rw [g1, n1]
  refine ⟨by rw [hO, h.ov], ⟨fun j hj l hl => ?_, fun j hj => ?_, fun j hj => ?_⟩, fun j _ hj => absurd hj (Nat.not_lt_zero _), fun j hj _ => ⟨?_, hG j hj, fun hw' => ?_⟩, h.le⟩
  · rw [hG j hj, hW] at hl
    split at hl
    · exact hok.fine j hj l (List.mem_append_right _ hl)
    · rw [hn j hj] at hl
      exact hok.fine j hj l hl
  · rw [hG j hj]
    split
    · exact Nat.zero_le _
    · rw [hn j hj]; exact hok.most j hj
  · rw [hG j hj]
    split
    · exact fun _ h => by cases h
    · rw [hn j hj]; exact hok.keyed j hj
  · rw [hw j hj]; exact (h.done j hj hj).2.2
  · have hd := h.done j hj hj
    have hs : t'.G j = (sideR N a t j).2.1 := by rw [hG j hj, if_neg (by rw [hw']; decide)]; exact hd.2.1
    have := readG_again (N := N) (a := a) (t.ov j) (t.W j) (t.G j)
    show readG N a (t'.ov j) (t'.W j) (t'.G j) = (t'.W j, t'.G j, 1)
    rw [hO, hw j hj, hs]
    refine this.trans ?_
    exact Prod.ext rfl (Prod.ext rfl hd.1)
end

end Go.Proofs.YtchepmikbnnnhaaDoor
