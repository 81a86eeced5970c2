/- What Join, and the document's, do, of every list of texts. -/
import Derived.Test.YtbanofgigfdlnaaDoorLcut
namespace Go.Proofs.YtbanofgigfdlnaaDoor
open Go.RowKit

/-- The value is a list of these texts, in blocks of p. -/
def IsTexts (p : Nat → Prop) (w : World) (v : Value) (L : Lines) : Prop :=
  ∃ a cap, v = .slice a L.length cap ∧ ∀ j b, L[j]? = some b → ∃ gb off, a = some ⟨gb, off, none⟩ ∧ p gb ∧ w.cell? ⟨gb, off + j, none⟩ = some (strV b)
theorem IsTexts.frame {p q : Nat → Prop} {w w' : World} {v : Value} {L : Lines} (h : IsTexts p w v L) (hf : Frame q w w') (hpq : ∀ k, p k → ¬ q k) : IsTexts p w' v L := by
  obtain ⟨a, cap, rfl, hc⟩ := h
  refine ⟨a, cap, rfl, fun j c hj => ?_⟩
  obtain ⟨gb, off, rfl, hp, hx⟩ := hc j c hj
  exact ⟨gb, off, rfl, hp, hf.cell? hx (hpq _ hp)⟩
theorem IsTexts.below {p : Nat → Prop} {w w' : World} {v : Value} {L : Lines} (h : IsTexts p w v L) (hb : Below w.heap.size w w') : IsTexts p w' v L := h.frame (Below.toFrame hb fun _ => False) (fun _ _ h => h)
theorem isTexts_of_owns {base : Nat} {w : World} {v : Value} {L : Lines} (h : w.ownsRow base 9 1 v L.length (L.map strV)) : IsTexts (base ≤ ·) w v L := by
  have h' := h
  rcases h.2 with ⟨rfl, h0⟩ | ⟨g, cap, cur, rfl, hb, _⟩
  · refine ⟨none, 0, by rw [h0], fun j b hj => ?_⟩
    rw [List.eq_nil_of_length_eq_zero h0] at hj
    simp at hj
  · refine ⟨_, cap, rfl, fun j b hj => ⟨g, 0, rfl, hb, ?_⟩⟩
    have := World.ownsRow.cells h' (g := g) rfl j (strV b) (by simp [hj])
    rwa [Addr.add_mid] at this
theorem isBytes_of_owns {base : Nat} {w : World} {v : Value} {b : List UInt8} (h : w.ownsRow base 5 1 v b.length (bytesL b)) : IsBytes (base ≤ ·) w v b := by
  have h' := h
  rcases h.2 with ⟨rfl, h0⟩ | ⟨g, cap, cur, rfl, hb, _, hle, _⟩
  · refine ⟨none, 0, by rw [h0], by omega, fun j c hj => ?_⟩
    rw [List.eq_nil_of_length_eq_zero h0] at hj
    simp at hj
  · refine ⟨_, cap, rfl, by omega, fun j c hj => ⟨g, 0, rfl, hb, ?_⟩⟩
    have := World.ownsRow.cells h' (g := g) rfl j (.int .u8 c.toNat) (by simp [bytesL, hj])
    rwa [Addr.add_mid] at this

/-- Each line, and byte 10 behind it. -/
def joinL (L : Lines) : List UInt8 := L.flatMap (· ++ [10])
theorem joinL_snoc (L : Lines) (b : List UInt8) : joinL (L ++ [b]) = joinL L ++ (b ++ [10]) := by simp [joinL]
theorem joinL_take {L : Lines} {k : Nat} {b : List UInt8} (h : L[k]? = some b) : joinL (L.take (k + 1)) = joinL (L.take k) ++ (b ++ [10]) := by
  obtain ⟨hk, rfl⟩ := List.getElem?_eq_some_iff.1 h
  rw [List.take_succ_eq_append_getElem hk, joinL_snoc]
theorem joinL_le (L : Lines) (k : Nat) : (joinL (L.take k)).length ≤ (joinL L).length := by
  have := congrArg (fun l => (joinL l).length) (List.take_append_drop k L)
  simp only [joinL, List.flatMap_append, List.length_append] at this ⊢
  omega
theorem strCells_eq {b : List UInt8} {S : ByteArray} (h : strV b = .string S) : Lib.strCells S = bytesL b ∧ S.size = b.length := by
  rw [strV] at h
  cases h
  exact ⟨by simp [Lib.strCells, bytesL], by simp [ByteArray.size]⟩
theorem bytesL_append (a b : List UInt8) : bytesL (a ++ b) = bytesL a ++ bytesL b := by simp [bytesL]

/-- The call answers bytes of its own; what lay before it lies as it lay. -/
def Fresh (w : World) (bs : List UInt8) (e : Ending) (w' : World) : Prop :=
  ∃ v, e = .returned v ∧ w'.ownsRow w.heap.size 5 1 v bs.length (bytesL bs) ∧ Below w.heap.size w w'

/-- What holds ahead of each round. -/
structure JoinInv (L : Lines) (w : World) (jv : Value) (k : Nat) (wr : World) : Prop where
  le : k ≤ L.length
  own : wr.ownsRow w.heap.size 5 1 jv (joinL (L.take k)).length (bytesL (joinL (L.take k)))
  bel : Below w.heap.size w wr
theorem JoinInv.start (L : Lines) (w : World) : JoinInv L w (.slice none 0 0) 0 w := ⟨Nat.zero_le _, by simpa [joinL, bytesL] using World.ownsRow_nil w w.heap.size 5 1, Below.refl _ _⟩
theorem owns_below_of {w W W' : World} {e : TypeId} {size : Nat} {v : Value} {n : Nat} {xs : List Value} (ho : W.ownsRow w.heap.size e size v n xs) (hb : Below w.heap.size w W) (hg : W.grownBy W' v.ownBlock) : Below w.heap.size w W' :=
  hb.grown hg hb.size (fun k e => (ho.lt k e).1)

set_option maxRecDepth 100000 in
set_option maxHeartbeats 2000000 in
theorem join_any (v : Value) (L : Lines) (w : World) (hT : IsTexts (fun _ => True) w v L) (hl : L.length ≤ 1000000) (hsz : (joinL L).length ≤ 100000000) : Calls Tryd.prog 70 #[v] w (Fresh w (joinL L)) := by
  have HT := Lib.hid hT
  obtain ⟨a, cap, rfl, -⟩ := hT
  obtain ⟨i0, hi, hz0, hz1, hz2⟩ := info_parts Tryd.info5
  go_enter Tryd.func70, Tryd.ntmps70
  go_wp2
  go_loopw [3, 8] (fun jv i wr => ∃ (k : Nat) (u : Value), u = jv ∧ i = .int .i64 k ∧ JoinInv L w u k wr) (fun _ i _ => L.length - (intOf i).toNat)
  case atStart => exact ⟨0, _, rfl, rfl, JoinInv.start L w⟩
  case round =>
    obtain ⟨k, jv, rfl, rfl, hk, hown, hbel⟩ := hrel
    have hle := joinL_le L
    by_cases hlt : k < L.length
    · obtain ⟨b, hb⟩ : ∃ b, L[k]? = some b := ⟨L[k], by simp⟩
      obtain ⟨_, _, e, hcell⟩ := HT.out.below hbel
      cases e
      obtain ⟨gb, off, rfl, _, hx⟩ := hcell k b hb
      have hj := joinL_take hb
      have hl1 := hle (k + 1)
      obtain ⟨S, hS⟩ : ∃ S : ByteArray, strV b = .string S := ⟨_, rfl⟩
      obtain ⟨hS1, hS2⟩ := strCells_eq hS
      rw [hS] at hx
      rw [hj] at hl1
      simp only [List.length_append, List.length_singleton] at hl1
      obtain ⟨J, hJ⟩ : ∃ J, J = joinL (L.take k) := ⟨_, rfl⟩
      rw [← hJ] at hj hl1 hown
      have HJ := Lib.hid hj
      have HO := Lib.hid hown
      have HS1 := Lib.hid hS1
      have g1 : (0 : Int) ≤ (k : Int) := by omega
      have g2 : (k : Int) < (L.length : Int) := by omega
      have hw := hbel.size
      clear hj hown hS1 hS hb hJ hcell hle
      go_wp2_with (first
        | (at_builtin; refine Lib.wpList_append_own_string _ rfl (.tmp 12) (.tmp 13) 22 9 rfl w.heap.size 5 i0 Tryd.underlying22 Tryd.underlying9 hi hz0 hz1 hz2 _ _ _ rfl HO.out S rfl (by unfold maxLen; omega) (by omega) hw ?_; intro v1 w1 hown1 hgrow1 _; have hbel1 := owns_below_of HO.out hbel hgrow1; have HO1 := Lib.hid hown1; have hw1 := hbel1.size; clear hown1 hgrow1)
        | (at_builtin; refine wpList_append_own _ rfl (.tmp 15) (.tmp 16) 22 rfl w.heap.size 5 i0 (.int .u8 0) 1 1 Tryd.underlying22 hi hz0 hz1 hz2 rfl (by decide) _ _ _ rfl (HO1.out.alloc _) ⟨w1.heap.size, 0, none⟩ 1 1 [.int .u8 10] rfl rfl (cell_one_new _ _ _) (by simp [Value.oneCell']) (by unfold maxLen; omega) (by omega) (by simp; omega) ?_; intro v2 w2 hown2 hgrow2 _))
      go_roundw
      case rel =>
        refine ⟨k + 1, _, rfl, by go_num, by omega, ?_, ?_⟩
        · rw [HJ.out, bytesL_append, bytesL_append, List.length_append, List.length_append, ← hS2]
          rw [HS1.out] at hown2
          simpa [bytesL, Nat.add_assoc] using hown2
        · exact (hbel1.alloc hw1 _).grown hgrow2 (by simp; omega) (fun k e => (HO1.out.lt k e).1)
      case measure => simp [intOf]; omega
    · obtain rfl : k = L.length := by omega
      have g2 : ¬ (L.length : Int) < (L.length : Int) := by omega
      have HO := Lib.hid hown
      clear hown hlt hle
      go_wp2
      go_ret
      exact ⟨jv, rfl, by simpa using HO.out, hbel⟩

end Go.Proofs.YtbanofgigfdlnaaDoor
