/- LinePieces: the walk. -/
import Derived.Test.YtgpholcooabbfaaSame
namespace Go.Proofs.Ytgpholcooabbfaa
open Go.RowKit

theorem Try.info31 : (Try.prog.info? 31).map (fun i => (i.zero, i.size, i.bytes)) = some (some (.slice none 0 0), 1, 24) := by kernel_rfl

/-- Bytes, one a piece. -/
def onesV (gb off cap k : Nat) : List Value := (List.range k).map fun i => .slice (some ⟨gb, off + i, none⟩) 1 (cap - i)
theorem onesV_succ (gb off cap k : Nat) : onesV gb off cap (k + 1) = onesV gb off cap k ++ [.slice (some ⟨gb, off + k, none⟩) 1 (cap - k)] := by simp [onesV, List.range_succ]

theorem IsPieces.mono {p q : Nat → Prop} {w : World} {v : Value} {ps : List (List UInt8)} (h : IsPieces p w v ps) (hpq : ∀ k, k < w.heap.size → p k → q k) : IsPieces q w v ps := by
  obtain ⟨a, cap, rfl, hc⟩ := h
  refine ⟨a, cap, rfl, fun j c hj => ?_⟩
  obtain ⟨gb, off, bv, rfl, hp, hx, hb⟩ := hc j c hj
  exact ⟨gb, off, bv, rfl, hpq _ (block_lt_of_cell hx) hp, hx, hb.mono hpq⟩
theorem IsPieces.old {p : Nat → Prop} {w : World} {v : Value} {ps : List (List UInt8)} (h : IsPieces p w v ps) : IsPieces (· < w.heap.size) w v ps := h.mono (fun _ hk _ => hk)

/-- A list of pieces that was just made. -/
theorem pieces_new (w : World) (vs : List Value) (ps : List (List UInt8)) (m : Nat × Nat) (h : ∀ (j : Nat) b, ps[j]? = some b → ∃ bv, vs[j]? = some bv ∧ IsBytes (fun _ => True) w bv b) :
    IsPieces (fun _ => True) (w.alloc (.cells vs.toArray 31 m)) (.slice (some ⟨w.heap.size, 0, none⟩) ps.length ps.length) ps := by
  refine ⟨_, _, rfl, fun j b hj => ?_⟩
  obtain ⟨bv, h1, h2⟩ := h j b hj
  refine ⟨_, _, bv, rfl, trivial, ?_, h2.below ((Below.refl _ _).alloc (Nat.le_refl _) _)⟩
  rw [Nat.zero_add, cell_of_row _ _ _ _ _ _ (heap_alloc_last w _)]
  simpa using h1

/-- A piece of bytes. -/
theorem bytes_part {w : World} {gb off cap : Nat} {bs : List UInt8} (hB : ∀ j c, bs[j]? = some c → w.cell? ⟨gb, off + j, none⟩ = some (.int .u8 c.toNat)) (hcap : bs.length ≤ cap) (i n : Nat) (hn : i + n ≤ bs.length) :
    IsBytes (fun _ => True) w (.slice (some ⟨gb, off + i, none⟩) n (cap - i)) ((bs.drop i).take n) := by
  have hl : ((bs.drop i).take n).length = n := by simp; omega
  refine ⟨_, cap - i, by rw [hl], by omega, fun j c hj => ⟨gb, off + i, rfl, trivial, ?_⟩⟩
  rw [List.getElem?_take] at hj
  split at hj
  · rw [List.getElem?_drop] at hj
    rw [Nat.add_assoc]
    exact hB _ _ hj
  · cases hj

theorem pieces_ones {w : World} {gb off cap base : Nat} {bs : List UInt8} {ov : Value} (hB : ∀ j c, bs[j]? = some c → w.cell? ⟨gb, off + j, none⟩ = some (.int .u8 c.toNat)) (hcap : bs.length ≤ cap) (ho : w.ownsRow base 31 1 ov bs.length (onesV gb off cap bs.length)) :
    IsPieces (fun _ => True) w ov (bs.map fun c => [c]) := by
  have ho' := ho
  rcases ho.2 with ⟨rfl, h0⟩ | ⟨g, c2, cur, rfl, hb, _⟩
  · refine ⟨none, 0, by simp [h0], fun j b hj => ?_⟩
    rw [List.eq_nil_of_length_eq_zero h0] at hj
    simp at hj
  · refine ⟨some ⟨g, 0, none⟩, c2, by simp, fun j b hj => ?_⟩
    obtain ⟨c, hc, rfl⟩ : ∃ c, bs[j]? = some c ∧ b = [c] := by
      rw [List.getElem?_map, Option.map_eq_some_iff] at hj
      obtain ⟨c, h1, h2⟩ := hj
      exact ⟨c, h1, h2.symm⟩
    have hj' : j < bs.length := (List.getElem?_eq_some_iff.1 hc).1
    have := World.ownsRow.cells ho' (g := g) rfl j (.slice (some ⟨gb, off + j, none⟩) 1 (cap - j)) (by simp [onesV, hj'])
    rw [Addr.add_mid] at this
    refine ⟨g, 0, _, rfl, trivial, this, ?_⟩
    have hp := bytes_part hB hcap j 1 (by omega)
    rw [drop_at hc] at hp
    simpa using hp
theorem flat_ones (bs : List UInt8) : (bs.map fun c => [c]).flatten = bs := by
  induction bs with
  | nil => rfl
  | cons c r ih => simp [ih]

theorem AllEnd.part {w : World} {bs : List UInt8} {e : Ending} {w' : World} (h : AllEnd w bs e w') : ∃ a n c, e = .returned (.tuple #[.slice a n c, .int .i64 (allE bs)]) ∧ w'.ownsRow (w.heap.size + 1) 9 1 (.slice a n c) (allL bs).length ((allL bs).map strV) ∧ Below w.heap.size w w' := by
  obtain ⟨v, rfl, ho, hb⟩ := h
  rcases ho.2 with ⟨rfl, _⟩ | ⟨g, cap, cur, rfl, _⟩
  · exact ⟨_, _, _, rfl, ho, hb⟩
  · exact ⟨_, _, _, rfl, ho, hb⟩
theorem allL_count (bs : List UInt8) : (allL bs).length ≤ bs.length + 1 := by
  have := cutL_count bs []
  unfold allL restL
  split <;> simp
  · omega
  · split <;> simp <;> omega

set_option maxRecDepth 100000 in
set_option maxHeartbeats 4000000 in
theorem pieces_some (gb off cap : Nat) (bs : List UInt8) (m : Nat) (w : World) (hB : ∀ j c, bs[j]? = some c → w.cell? ⟨gb, off + j, none⟩ = some (.int .u8 c.toNat)) (hm : m ≤ bs.length) (h8 : bs.length ≤ 8192) (hcap : bs.length ≤ cap) :
    Calls Try.prog 6 #[.slice (some ⟨gb, off, none⟩) bs.length cap, .int .i64 m] w (TrueBelow w) := by
  have HB := Lib.hid hB
  clear hB
  obtain ⟨i0, hi, hz0, hz1, hz2⟩ := info_parts Try.info31
  have n1 : ¬ (8192 : Int) < (bs.length : Int) := by omega
  have n2 : ¬ (m : Int) < 0 := by omega
  have n3 : ¬ (bs.length : Int) < (m : Int) := by omega
  go_enter Try.func6, Try.ntmps6
  go_wp2
  go_loopw [5, 6] (fun ov i wr => ∃ (k : Nat) (u : Value), u = ov ∧ i = .int .i64 k ∧ k ≤ bs.length ∧ wr.ownsRow w.heap.size 31 1 u k (onesV gb off cap k) ∧ Below w.heap.size w wr) (fun _ i _ => bs.length - (intOf i).toNat)
  case atStart => exact ⟨0, _, rfl, rfl, Nat.zero_le _, World.ownsRow_nil _ _ _ _, Below.refl _ _⟩
  case round =>
    obtain ⟨k, ov, rfl, rfl, hk, hown, hbel⟩ := hrel
    have HO := Lib.hid hown
    have hw := hbel.size
    clear hown
    by_cases hlt : k < bs.length
    · have g1 : (0 : Int) ≤ (k : Int) := by omega
      have g2 : (k : Int) < (bs.length : Int) := by omega
      have g3 : (k : Int) + 1 ≤ (cap : Int) := by omega
      have g4 : (k : Int) ≤ (k : Int) + 1 := by omega
      go_wp2_with (at_builtin; refine wpList_append_own _ rfl (.tmp 33) (.tmp 39) 22 rfl w.heap.size 31 i0 (.slice none 0 0) 1 24 Try.underlying22 hi hz0 hz1 hz2 rfl (by decide) _ _ _ rfl (HO.out.alloc _) ⟨wr.heap.size, 0, none⟩ 1 1 [.slice (some ⟨gb, off + k, none⟩) 1 (cap - k)] rfl rfl (cell_one_new _ _ _) (by simp [Value.oneCell']) (by unfold maxLen; omega) (by omega) (by simp; omega) ?_; intro v2 w2 hown2 hgrow2 _)
      refine ⟨⟨k + 1, _, rfl, by go_num, by omega, by rw [onesV_succ]; exact hown2, (hbel.alloc hw _).grown hgrow2 (by simp; omega) (fun k e => (HO.out.lt k e).1)⟩, by simp [intOf]; omega⟩
    · obtain rfl : k = bs.length := by omega
      have g2 : ¬ (bs.length : Int) < (bs.length : Int) := by omega
      have hBw : ∀ W, Below w.heap.size w W → ∀ j c, bs[j]? = some c → W.cell? ⟨gb, off + j, none⟩ = some (.int .u8 c.toNat) := fun W hb j c hj => by
        have := HB.out j c hj
        rw [hb.cell (block_lt_of_cell this)]
        exact this
      have HW := Lib.hid hBw
      have hal := allL_count bs
      have HE : ∀ W, Below w.heap.size w W → IsPieces (· < (W.alloc (.cells #[.slice (some ⟨gb, off, none⟩) bs.length cap] 31)).heap.size) (W.alloc (.cells #[.slice (some ⟨gb, off, none⟩) bs.length cap] 31)) (.slice (some ⟨W.heap.size, 0, none⟩) 1 1) [bs] := fun W hb =>
        (pieces_new W [.slice (some ⟨gb, off, none⟩) bs.length cap] [bs] (0, 0) (fun j b hj => by
          match j, hj with
          | 0, hj =>
            simp at hj
            subst hj
            refine ⟨_, rfl, ?_⟩
            have := bytes_part (hBw W hb) hcap 0 bs.length (by omega)
            simpa using this
          | j + 1, hj => simp at hj)).old
      have HE1 := Lib.hid HE
      have HF : ∀ A2, (cap = m ∧ A2 = off) ∨ (cap ≠ m ∧ A2 = off + m) → ∀ W, Below w.heap.size w W → IsPieces (· < (W.alloc (.cells #[.slice (some ⟨gb, off, none⟩) m cap, .slice (some ⟨gb, A2, none⟩) (bs.length - m) (cap - m)] 31)).drew.heap.size) (W.alloc (.cells #[.slice (some ⟨gb, off, none⟩) m cap, .slice (some ⟨gb, A2, none⟩) (bs.length - m) (cap - m)] 31)).drew (.slice (some ⟨W.heap.size, 0, none⟩) 2 2) [bs.take m, bs.drop m] := fun A2 hA W hb =>
        ((pieces_new W [.slice (some ⟨gb, off, none⟩) m cap, .slice (some ⟨gb, A2, none⟩) (bs.length - m) (cap - m)] [bs.take m, bs.drop m] (0, 0) (fun j b hj => by
          match j, hj with
          | 0, hj =>
            simp at hj
            subst hj
            refine ⟨_, rfl, ?_⟩
            have := bytes_part (hBw W hb) hcap 0 m (by omega)
            simpa using this
          | 1, hj =>
            simp at hj
            subst hj
            refine ⟨_, rfl, ?_⟩
            rcases hA with ⟨hcm, rfl⟩ | ⟨hcm, rfl⟩
            · have hnil : bs.drop m = [] := List.drop_of_length_le (by omega)
              rw [hnil]
              exact ⟨_, cap - m, by rw [show bs.length - m = 0 by omega]; rfl, by simp, fun j c hj => by simp at hj⟩
            · have := bytes_part (hBw W hb) hcap m (bs.length - m) (by omega)
              rwa [List.take_of_length_le (by simp)] at this
          | j + 2, hj => simp at hj)).below ((Below.refl _ _).drew)).old
      have HF1 := Lib.hid HF
      clear hBw HE HF hlt
      go_wp2_with fail
      refine (all_any _ [bs] _ (HE1.out _ hbel) (by simp) (by simp; omega)).mono ?_
      intro e w1 h1
      obtain ⟨ax, nx, cx, rfl, hox, hb1⟩ := h1.part
      simp only [List.flatten_cons, List.flatten_nil, List.append_nil] at hox ⊢
      have hbel1 : Below w.heap.size w w1 := (hbel.alloc hw _).trans (hb1.mono (by simp; omega))
      have hone1 := owns_below HO.out (((Below.refl _ _).alloc (Nat.le_refl _) _).trans (hb1.mono (by simp)))
      have HX := Lib.hid hox
      have HO1 := Lib.hid hone1
      clear hox hone1 h1 hb1 HO
      go_upto_region 9 with fail
      have g5 : (0 : Int) ≤ (m : Int) := by omega
      have g6 : (m : Int) ≤ (bs.length : Int) := by omega
      have g7 : (m : Int) ≤ (cap : Int) := by omega
      have hHF : ∃ A2, ((if cap = m then some ⟨gb, off, none⟩ else some ⟨gb, off + m, none⟩) : Option Addr) = some ⟨gb, A2, none⟩ ∧ ((cap = m ∧ A2 = off) ∨ (cap ≠ m ∧ A2 = off + m)) := by
        by_cases hcm : cap = m
        · exact ⟨off, by rw [if_pos hcm], .inl ⟨hcm, rfl⟩⟩
        · exact ⟨off + m, by rw [if_neg hcm], .inr ⟨hcm, rfl⟩⟩
      obtain ⟨A2, hA2, hA3⟩ := hHF
      have HA3 := Lib.hid hA3
      clear hA3
      go_region_with (go_at_call 19; refine (all_any _ [bs.take m, bs.drop m] _ (HF1.out A2 HA3.out _ hbel1) (by simp) (by simp; omega)).mono ?_; intro e w2 h2; obtain ⟨ay, ny, cy, rfl, hoy, hb2⟩ := h2.part; simp only [List.flatten_cons, List.flatten_nil, List.append_nil, List.take_append_drop] at hoy ⊢; have hb2' := ((Below.refl w1.heap.size w1).alloc (Nat.le_refl _) _).drew.trans (hb2.mono (Nat.le_of_lt (Nat.lt_of_lt_of_eq (Nat.lt_succ_self _) (World.size_alloc _ _).symm))); have hbel2 := hbel1.trans (hb2'.mono hbel1.size); have HX2 := Lib.hid (owns_below HX.out hb2'); have HY2 := Lib.hid hoy; have HO2 := Lib.hid (owns_below HO1.out hb2'); clear hoy h2 hb2 hb2' HX HO1)
      clear hA2 HA3 HF1 HE1 HB
      have hP3 : IsPieces (· < w2.heap.size) w2 ov (bs.map fun c => [c]) := (pieces_ones (HW.out w2 hbel2) hcap HO2.out).old
      have HP3 := Lib.hid hP3
      clear hP3 HW HO2 hbel1 hbel
      have hw2 := hbel2.size
      go_wp2_with fail
      refine (all_any _ (bs.map fun c => [c]) w2 HP3.out (by simp; omega) (by rw [flat_ones]; omega)).mono ?_
      intro e w3 h3
      obtain ⟨az, nz, cz, rfl, hoz, hb3⟩ := h3.part
      rw [flat_ones] at hoz ⊢
      have hbel3 := hbel2.trans (hb3.mono hw2)
      have hx3 := isTexts_of_owns (owns_below HX2.out hb3)
      have hy3 := isTexts_of_owns (owns_below HY2.out hb3)
      have hz3 := isTexts_of_owns hoz
      have HX3 := Lib.hid hx3
      have HY3 := Lib.hid hy3
      have HZ3 := Lib.hid hz3
      clear hx3 hy3 hz3 HX2 HY2 hoz h3 hb3 HP3
      go_wp2_with fail
      refine (same_true _ _ (allL bs) w3 (by omega) HX3.out HY3.out).mono ?_
      rintro e w4 ⟨rfl, n4, rfl⟩
      go_wp2_with fail
      refine (same_true _ _ (allL bs) _ (by omega) (HX3.out.below (Quiet.below ⟨n4, rfl⟩ _)) (HZ3.out.below (Quiet.below ⟨n4, rfl⟩ _))).mono ?_
      rintro e w5 ⟨rfl, n5, rfl⟩
      go_wp2_with fail
      refine (awake_true _).mono ?_
      rintro e w6 ⟨rfl, hb6⟩
      go_wp2_with fail
      go_ret
      exact ⟨rfl, hbel3.trans ((Quiet.below (w' := w3.drewN (n4 + n5)) ⟨n4 + n5, rfl⟩ _).trans (hb6.mono hbel3.size))⟩

end Go.Proofs.Ytgpholcooabbfaa
