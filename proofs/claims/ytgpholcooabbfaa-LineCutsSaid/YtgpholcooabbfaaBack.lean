/- LineBack: the plain facts and the walk. -/
import Derived.Test.YtgpholcooabbfaaPieceslaw
namespace Go.Proofs.Ytgpholcooabbfaa
open Go.RowKit

/-- A line that may be. -/
def Fine (x : List UInt8) : Prop := x.length ≤ 64 ∧ ∀ c ∈ x, c ≠ 10
theorem Fine.nil : Fine [] := ⟨by simp, fun c h => by cases h⟩
theorem Fine.put {b : List UInt8} {c : UInt8} (h : Fine b) (hc : c ≠ 10) (hl : b.length ≠ 64) : Fine (b ++ [c]) :=
  ⟨by have := h.1; simp; omega, fun x hx => by
    rcases List.mem_append.1 hx with hx | hx
    · exact h.2 x hx
    · rw [List.mem_singleton.1 hx]; exact hc⟩
theorem cutL_fine : ∀ (r b : List UInt8), Fine b → (∀ x ∈ (cutL b r).1, Fine x) ∧ ∀ d, (cutL b r).2 = some d → Fine d
  | [], b, hb => ⟨fun x hx => by simp [cutL] at hx, fun d hd => by simp [cutL] at hd; rw [← hd]; exact hb⟩
  | c :: r, b, hb => by
    by_cases hc : c = 10
    · subst hc
      rw [cutL_end]
      have ih := cutL_fine r [] Fine.nil
      exact ⟨fun x hx => by
        rcases List.mem_cons.1 hx with rfl | hx
        · exact hb
        · exact ih.1 x hx, ih.2⟩
    · by_cases hl : b.length = 64
      · rw [cutL_long b r c hc hl]
        exact ⟨(fun x hx => by cases hx), (fun d hd => by cases hd)⟩
      · rw [cutL_put b r c hc hl]
        exact cutL_fine r _ (hb.put hc hl)
theorem joinL_cons (b : List UInt8) (L : Lines) : joinL (b :: L) = b ++ (10 :: joinL L) := by simp [joinL]
theorem cutL_back : ∀ (r b : List UInt8), (∀ d, (cutL b r).2 = some d → joinL (cutL b r).1 ++ d = b ++ r) ∧ ((cutL b r).2 = none → ∃ t, joinL (cutL b r).1 ++ t = b ++ r ∧ 64 < t.length)
  | [], b => ⟨fun d hd => by simp [cutL] at hd; simp [cutL, joinL, hd], fun h => by simp [cutL] at h⟩
  | c :: r, b => by
    by_cases hc : c = 10
    · subst hc
      rw [cutL_end]
      have ih := cutL_back r []
      refine ⟨fun d hd => ?_, fun h => ?_⟩
      · have := ih.1 d hd
        rw [joinL_cons, List.append_assoc, List.cons_append, this]
        simp
      · obtain ⟨t, h1, h2⟩ := ih.2 h
        refine ⟨t, ?_, h2⟩
        rw [joinL_cons, List.append_assoc, List.cons_append, h1]
        simp
    · by_cases hl : b.length = 64
      · rw [cutL_long b r c hc hl]
        refine ⟨(fun d hd => by cases hd), fun _ => ⟨b ++ c :: r, by simp [joinL], by simp; omega⟩⟩
      · rw [cutL_put b r c hc hl]
        have ih := cutL_back r (b ++ [c])
        simpa using ih
theorem allL_fine (bs : List UInt8) : ∀ x ∈ allL bs, Fine x := by
  intro x hx
  have h := cutL_fine bs [] Fine.nil
  rcases List.mem_append.1 hx with hx | hx
  · exact h.1 x hx
  · unfold restL at hx
    split at hx
    · cases hx
    · rename_i d hd
      split at hx
      · cases hx
      · rw [List.mem_singleton.1 hx]
        exact h.2 d hd

theorem joinL_append (A B : Lines) : joinL (A ++ B) = joinL A ++ joinL B := by simp [joinL]
/-- It failed: what is joined is the beginning. -/
theorem back_fail {bs : List UInt8} (h : (cutL [] bs).2 = none) : allE bs = 20 ∧ bs.take (joinL (allL bs)).length = joinL (allL bs) ∧ (joinL (allL bs)).length + 64 < bs.length := by
  obtain ⟨t, h1, h2⟩ := (cutL_back bs []).2 h
  have e : allL bs = (cutL [] bs).1 := by simp [allL, restL, h]
  have he : allE bs = 20 := by simp [allE, h]
  rw [List.nil_append] at h1
  rw [e, he]
  generalize (cutL [] bs).1 = L at h1
  subst h1
  exact ⟨rfl, List.take_left, by rw [List.length_append]; omega⟩
theorem joinL_last (L : Lines) (hL : L ≠ []) : ∃ t, joinL L = t ++ [10] := by
  rcases List.eq_nil_or_concat L with rfl | ⟨M, b, rfl⟩
  · exact absurd rfl hL
  · rw [List.concat_eq_append]
    exact ⟨joinL M ++ b, by rw [joinL_snoc]; simp⟩
/-- It did not. -/
theorem back_ok {bs d : List UInt8} (h : (cutL [] bs).2 = some d) : allE bs = 0 ∧ ((joinL (allL bs) = bs ∧ (bs ≠ [] → bs[bs.length - 1]? = some 10)) ∨ (joinL (allL bs) = bs ++ [10] ∧ ∃ c, bs[bs.length - 1]? = some c ∧ c ≠ 10)) := by
  have h1 := (cutL_back bs []).1 d h
  have hf := (cutL_fine bs [] Fine.nil).2 d h
  rw [List.nil_append] at h1
  refine ⟨by simp [allE, h], ?_⟩
  have ea : allL bs = (cutL [] bs).1 ++ (if d.isEmpty then [] else [d]) := by simp [allL, restL, h]
  rw [ea]
  clear ea h
  generalize (cutL [] bs).1 = L at h1
  subst h1
  rcases List.eq_nil_or_concat d with rfl | ⟨t, c, rfl⟩
  · left
    simp only [List.isEmpty_nil, if_true, List.append_nil]
    refine ⟨trivial, fun hne => ?_⟩
    have hL : L ≠ [] := fun e => hne (by rw [e]; rfl)
    obtain ⟨t, ht⟩ := joinL_last _ hL
    rw [ht]
    simp
  · right
    rw [List.concat_eq_append] at hf ⊢
    have he : (t ++ [c]).isEmpty = false := by simp
    rw [he, joinL_append]
    refine ⟨by simp [joinL], c, ?_, hf.2 _ (by simp)⟩
    rw [← List.append_assoc]
    simp
theorem joinL_all_le (bs : List UInt8) : (joinL (allL bs)).length ≤ bs.length + 1 := by
  cases h : (cutL [] bs).2 with
  | none => have := (back_fail h).2.2; omega
  | some d =>
    rcases (back_ok h).2 with ⟨e, _⟩ | ⟨e, _⟩
    · rw [e]; omega
    · rw [e]; simp

theorem str_snoc {bs : List UInt8} {B G : ByteArray} (hB : strV bs = .string B) (hG : strV (bs ++ [10]) = .string G) : G = B ++ ⟨#[10]⟩ := by
  rw [strV] at hB hG
  cases hB
  cases hG
  apply ByteArray.ext
  simp

theorem fine_at {x : List UInt8} {S : ByteArray} (hS : strV x = .string S) (h : ∀ c ∈ x, c ≠ 10) (j : Nat) (hj : j < S.size) : ((S[j].toNat : Int) == 10) = false := by
  rw [strV] at hS
  cases hS
  have hj' : j < x.length := by simpa [ByteArray.size] using hj
  have hx : (⟨x.toArray⟩ : ByteArray)[j] = x[j] := rfl
  rw [hx]
  have hne := h x[j] (List.getElem_mem hj')
  simp
  intro e
  exact hne (UInt8.toNat_inj.1 (by simp; omega))

set_option maxRecDepth 100000 in
set_option maxHeartbeats 1000000 in
theorem back_no (a : Option Addr) (n cap : Nat) (w : World) (h1 : (8192 : Int) < (n : Int)) : Calls Try.prog 7 #[.slice a n cap] w (TrueBelow w) := by
  go_enter Try.func7, Try.ntmps7
  go_wp2_with fail
  refine (awake_true _).mono ?_
  rintro e w' ⟨rfl, hb⟩
  go_wp2_with fail
  go_ret
  exact ⟨rfl, hb⟩

/-- A piece that is all. -/
theorem piece_one (w : World) (v : Value) (bs : List UInt8) (h : IsBytes (fun _ => True) w v bs) : IsPieces (· < (w.alloc (.cells #[v] 31)).heap.size) (w.alloc (.cells #[v] 31)) (.slice (some ⟨w.heap.size, 0, none⟩) 1 1) [bs] :=
  (pieces_new w [v] [bs] (0, 0) (fun j b hj => by
    match j, hj with
    | 0, hj =>
      simp at hj
      subst hj
      exact ⟨_, rfl, h⟩
    | j + 1, hj => simp at hj)).old

set_option maxRecDepth 100000 in
set_option maxHeartbeats 4000000 in
theorem back_yes (v : Value) (bs : List UInt8) (w : World) (hB : IsBytes (fun _ => True) w v bs) (h8 : bs.length ≤ 8192) : Calls Try.prog 7 #[v] w (TrueBelow w) := by
  have HP := Lib.hid (piece_one w v bs hB)
  have HB := Lib.hid (show ∀ W, Below w.heap.size w W → IsBytes (fun _ => True) W v bs from fun W hb => hB.below hb)
  obtain ⟨a, cap, rfl, hcap, -⟩ := hB
  have n1 : ¬ (8192 : Int) < (bs.length : Int) := by omega
  have hal := allL_count bs
  go_enter Try.func7, Try.ntmps7
  go_wp2_with fail
  refine (all_any _ [bs] _ HP.out (by simp) (by simp; omega)).mono ?_
  intro e w1 h1
  obtain ⟨ax, nx, cx, rfl, hox, hb1⟩ := h1.part
  simp only [List.flatten_cons, List.flatten_nil, List.append_nil] at hox ⊢
  have hbel1 : Below w.heap.size w w1 := ((Below.refl _ _).alloc (Nat.le_refl _) _).trans (hb1.mono (by simp))
  have hT := isTexts_of_owns hox
  have HT := Lib.hid hT
  obtain ⟨_, _, e, -⟩ := hT
  cases e
  clear hox h1 hb1 HP
  have hw1 := hbel1.size
  go_wp2
  go_loop [5] (fun i => ∃ k : Nat, k ≤ (allL bs).length ∧ i = .int .i64 k) (fun i => (allL bs).length - (intOf i).toNat)
  case atStart => exact ⟨0, Nat.zero_le _, rfl⟩
  case round =>
    obtain ⟨k, hk, rfl⟩ := hrel
    by_cases hlt : k < (allL bs).length
    · obtain ⟨x, hx⟩ : ∃ x, (allL bs)[k]? = some x := ⟨(allL bs)[k], by simp⟩
      have hf := allL_fine bs x (List.mem_of_getElem? hx)
      obtain ⟨_, _, e, hcell⟩ := HT.out
      cases e
      obtain ⟨gb, off, rfl, _, hc⟩ := hcell k x hx
      obtain ⟨S, hS⟩ : ∃ S : ByteArray, strV x = .string S := ⟨_, rfl⟩
      have hSz := (strCells_eq hS).2
      rw [hS] at hc
      have HS := Lib.hid hS
      have HFI := Lib.hid hf.2
      have hle := hf.1
      have g1 : (0 : Int) ≤ (k : Int) := by omega
      have g2 : (k : Int) < ((allL bs).length : Int) := by omega
      have g3 : ¬ (64 : Int) < (S.size : Int) := by omega
      clear hS hx hcell hf
      go_wp2
      go_loop [6] (fun i => ∃ j : Nat, j ≤ S.size ∧ i = .int .i64 j) (fun i => S.size - (intOf i).toNat)
      case atStart => exact ⟨0, Nat.zero_le _, rfl⟩
      case round =>
        obtain ⟨j, hj, rfl⟩ := hrel
        by_cases hjl : j < S.size
        · have g4 : (0 : Int) ≤ (j : Int) := by omega
          have g5 : (j : Int) < (S.size : Int) := by omega
          have g6 := fine_at HS.out HFI.out j hjl
          go_wp2
          exact ⟨⟨j + 1, by omega, by go_num⟩, by simp [intOf]; omega⟩
        · have g5 : ¬ (j : Int) < (S.size : Int) := by omega
          go_wp2
          exact ⟨⟨k + 1, by omega, by go_num⟩, by simp [intOf]; omega⟩
    · obtain rfl : k = (allL bs).length := by omega
      have g2 : ¬ ((allL bs).length : Int) < ((allL bs).length : Int) := by omega
      clear hlt
      go_wp2_with fail
      have hj1 := joinL_all_le bs
      have hT2 : IsTexts (fun _ => True) w1 (.slice ax (allL bs).length cx) (allL bs) := by
        obtain ⟨a, cap, e, hc⟩ := HT.out
        exact ⟨a, cap, e, fun j b hj => by obtain ⟨gb, off, h1, _, h2⟩ := hc j b hj; exact ⟨gb, off, h1, trivial, h2⟩⟩
      refine (join_any _ (allL bs) w1 hT2 (by omega) (by omega)).mono ?_
      rintro e w2 ⟨jv, rfl, hoj, hbj⟩
      have hconv := conv_any (isBytes_of_owns hoj)
      have hbel2 : Below w.heap.size w w2 := hbel1.trans (hbj.mono hw1)
      obtain ⟨G, hG⟩ : ∃ G : ByteArray, strV (joinL (allL bs)) = .string G := ⟨_, rfl⟩
      have hGz := (strCells_eq hG).2
      rw [hG] at hconv
      have HG := Lib.hid hG
      clear hT2 hoj hbj hG HT
      cases hcut : (cutL [] bs).2 with
      | none =>
        obtain ⟨e1, e2, e3⟩ := back_fail hcut
        rw [e1]
        have hb2 := HB.out w2 hbel2
        have hne : ∃ c r, bs = c :: r := by
          cases bs with
          | nil => simp at e3
          | cons c r => exact ⟨c, r, rfl⟩
        obtain ⟨c, r, hcr⟩ := hne
        obtain ⟨_, _, e, _, hcell⟩ := hb2
        cases e
        obtain ⟨gb, off, rfl, _, _⟩ := hcell 0 c (by rw [hcr]; rfl)
        have hcell' : ∀ j c, bs[j]? = some c → w2.cell? ⟨gb, off + j, none⟩ = some (.int .u8 c.toNat) := fun j c hj => by
          obtain ⟨gb', off', e, _, h⟩ := hcell j c hj
          cases e
          exact h
        have hpart := bytes_part hcell' hcap 0 (joinL (allL bs)).length (by omega)
        rw [List.drop_zero, e2, ← hGz, Nat.add_zero, Nat.sub_zero] at hpart
        have hconv2 := conv_any hpart
        rw [HG.out] at hconv2
        have q1 : (G.size : Int) + 64 < (bs.length : Int) := by omega
        have q2 : (0 : Int) ≤ (G.size : Int) := by omega
        have q3 : (G.size : Int) ≤ (cap : Int) := by omega
        clear hpart hcell hcell' e1 e2 e3 hcr hcut HB HG hGz
        go_wp2_with fail
        refine (awake_true _).mono ?_
        rintro e w' ⟨rfl, hb⟩
        go_wp2_with fail
        go_ret
        exact ⟨rfl, hbel2.trans (hb.mono hbel2.size)⟩
      | some d =>
        obtain ⟨e1, e2⟩ := back_ok hcut
        rw [e1]
        have hb2 := HB.out w2 hbel2
        have hconv2 := conv_any hb2
        obtain ⟨B, hBS⟩ : ∃ B : ByteArray, strV bs = .string B := ⟨_, rfl⟩
        rw [hBS] at hconv2
        have HBS := Lib.hid hBS
        clear hBS e1 hcut HB
        rcases e2 with ⟨e2, e3⟩ | ⟨e2, c, e3, e4⟩
        · have hGB : G = B := by
            have := HG.out
            rw [e2, HBS.out] at this
            exact (Value.string.inj this).symm
          subst hGB
          by_cases hn : bs = []
          · subst hn
            clear e2 e3 HG HBS hGz
            simp only [List.length_nil] at hconv2
            go_wp2_with fail
            refine (awake_true _).mono ?_
            rintro e w' ⟨rfl, hb⟩
            go_wp2_with fail
            go_ret
            exact ⟨rfl, hbel2.trans (hb.mono hbel2.size)⟩
          · have hlen : 0 < bs.length := List.length_pos_iff.2 hn
            obtain ⟨_, _, e, _, hcell⟩ := hb2
            cases e
            obtain ⟨gb, off, rfl, _, hx⟩ := hcell _ _ (e3 hn)
            have q1 : (0 : Int) < (bs.length : Int) := by omega
            have q2 : (0 : Int) ≤ (bs.length : Int) - 1 := by omega
            have q3 : (bs.length : Int) - 1 < (bs.length : Int) := by omega
            clear hcell e2 e3 hn HG HBS hGz
            go_wp2_with fail
            refine (awake_true _).mono ?_
            rintro e w' ⟨rfl, hb⟩
            go_wp2_with fail
            go_ret
            exact ⟨rfl, hbel2.trans (hb.mono hbel2.size)⟩
        · have hlen : 0 < bs.length := by have := (List.getElem?_eq_some_iff.1 e3).1; omega
          obtain ⟨_, _, e, _, hcell⟩ := hb2
          cases e
          obtain ⟨gb, off, rfl, _, hx⟩ := hcell _ _ e3
          have q1 : (0 : Int) < (bs.length : Int) := by omega
          have q2 : (0 : Int) ≤ (bs.length : Int) - 1 := by omega
          have q3 : (bs.length : Int) - 1 < (bs.length : Int) := by omega
          have q4 : ((c.toNat : Int) != 10) = true := by
            simp
            intro e
            exact e4 (UInt8.toNat_inj.1 (by simp; omega))
          have hGB : G = B ++ ⟨#[10]⟩ := str_snoc HBS.out (by rw [← e2]; exact HG.out)
          have hBz := (strCells_eq HBS.out).2
          have q5 : ¬ 9223372036854775807 < B.size + 1 := by omega
          subst hGB
          clear hcell e2 e3 e4 hGz hBz HG HBS
          go_wp2_with fail
          refine (awake_true _).mono ?_
          rintro e w' ⟨rfl, hb⟩
          go_wp2_with fail
          go_ret
          exact ⟨rfl, hbel2.trans (hb.mono hbel2.size)⟩

theorem back_any {p : Nat → Prop} (v : Value) (bs : List UInt8) (w : World) (hB : IsBytes p w v bs) : Calls Try.prog 7 #[v] w (TrueBelow w) := by
  by_cases h8 : 8192 < bs.length
  · obtain ⟨a, cap, rfl, _⟩ := hB
    exact back_no a _ cap w (by omega)
  · exact back_yes v bs w (hB.mono (fun _ _ _ => trivial)) (by omega)

end Go.Proofs.Ytgpholcooabbfaa
