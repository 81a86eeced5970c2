/- LinePieces: the walk, where there are no bytes, and where the guard bars. -/
import Derived.Test.YtgpholcooabbfaaPieces
namespace Go.Proofs.Ytgpholcooabbfaa
open Go.RowKit

set_option maxRecDepth 100000 in
set_option maxHeartbeats 1000000 in
theorem pieces_no (a : Option Addr) (n cap : Nat) (m : Int) (w : World) (h : 8192 < n ∨ m < 0 ∨ (n : Int) < m) : Calls Try.prog 6 #[.slice a n cap, .int .i64 m] w (TrueBelow w) := by
  by_cases h1 : (8192 : Int) < (n : Int)
  · clear h
    go_enter Try.func6, Try.ntmps6
    go_wp2_with fail
    refine (awake_true _).mono ?_
    rintro e w' ⟨rfl, hb⟩
    go_wp2_with fail
    go_ret
    exact ⟨rfl, hb⟩
  · by_cases h2 : m < 0
    · clear h
      go_enter Try.func6, Try.ntmps6
      go_wp2_with fail
      refine (awake_true _).mono ?_
      rintro e w' ⟨rfl, hb⟩
      go_wp2_with fail
      go_ret
      exact ⟨rfl, hb⟩
    · have h3 : (n : Int) < m := by omega
      clear h
      go_enter Try.func6, Try.ntmps6
      go_wp2_with fail
      refine (awake_true _).mono ?_
      rintro e w' ⟨rfl, hb⟩
      go_wp2_with fail
      go_ret
      exact ⟨rfl, hb⟩

theorem bytes_none (p : Nat → Prop) (w : World) (a : Option Addr) (cap : Nat) : IsBytes p w (.slice a 0 cap) [] := ⟨a, cap, rfl, Nat.zero_le _, fun j c hj => by simp at hj⟩
theorem pieces_none (p : Nat → Prop) (w : World) (a : Option Addr) (cap : Nat) : IsPieces p w (.slice a 0 cap) [] := ⟨a, cap, rfl, fun j c hj => by simp at hj⟩

set_option maxRecDepth 100000 in
set_option maxHeartbeats 4000000 in
theorem pieces_nil (a : Option Addr) (cap : Nat) (w : World) : Calls Try.prog 6 #[.slice a 0 cap, .int .i64 0] w (TrueBelow w) := by
  go_enter Try.func6, Try.ntmps6
  go_wp2
  go_loop [5, 6] (fun ov i => ov = .slice none 0 0 ∧ i = .int .i64 0) (fun _ _ => 0)
  case atStart => exact ⟨rfl, rfl⟩
  case round =>
    obtain ⟨rfl, rfl⟩ := hrel
    have HE : ∀ (W : World), IsPieces (· < (W.alloc (.cells #[.slice a 0 cap] 31)).heap.size) (W.alloc (.cells #[.slice a 0 cap] 31)) (.slice (some ⟨W.heap.size, 0, none⟩) 1 1) [[]] := fun W =>
        (pieces_new W [.slice a 0 cap] [[]] (0, 0) (fun j b hj => by
          match j, hj with
          | 0, hj =>
            simp at hj
            subst hj
            exact ⟨_, rfl, bytes_none _ W a cap⟩
          | j + 1, hj => simp at hj)).old
    have HF : ∀ (W : World), IsPieces (· < (W.alloc (.cells #[.slice a 0 cap, .slice a 0 cap] 31)).drew.heap.size) (W.alloc (.cells #[.slice a 0 cap, .slice a 0 cap] 31)).drew (.slice (some ⟨W.heap.size, 0, none⟩) 2 2) [[], []] := fun W =>
        ((pieces_new W [.slice a 0 cap, .slice a 0 cap] [[], []] (0, 0) (fun j b hj => by
          match j, hj with
          | 0, hj =>
            simp at hj
            subst hj
            exact ⟨_, rfl, bytes_none _ W a cap⟩
          | 1, hj =>
            simp at hj
            subst hj
            exact ⟨_, rfl, bytes_none _ W a cap⟩
          | j + 2, hj => simp at hj)).below ((Below.refl _ _).drew)).old
    have HE1 := Lib.hid HE
    have HF1 := Lib.hid HF
    clear HE HF
    go_wp2_with fail
    refine (all_any _ [[]] _ (HE1.out _) (by simp) (by simp)).mono ?_
    intro e w1 h1
    obtain ⟨ax, nx, cx, rfl, hox, hb1⟩ := h1.part
    simp only [List.flatten_cons, List.flatten_nil, List.append_nil] at hox ⊢
    have hbel1 : Below w.heap.size w w1 := ((Below.refl _ _).alloc (Nat.le_refl _) _).trans (hb1.mono (by simp))
    have HX := Lib.hid hox
    clear hox h1 hb1
    go_upto_region 9 with fail
    go_region_with (go_at_call 19; refine (all_any _ [[], []] _ (HF1.out _) (by simp) (by simp)).mono ?_; intro e w2 h2; obtain ⟨ay, ny, cy, rfl, hoy, hb2⟩ := h2.part; simp only [List.flatten_cons, List.flatten_nil, List.append_nil] at hoy ⊢; have hb2' := ((Below.refl w1.heap.size w1).alloc (Nat.le_refl _) _).drew.trans (hb2.mono (Nat.le_of_lt (Nat.lt_of_lt_of_eq (Nat.lt_succ_self _) (World.size_alloc _ _).symm))); have hbel2 := hbel1.trans (hb2'.mono hbel1.size); have HX2 := Lib.hid (owns_below HX.out hb2'); have HY2 := Lib.hid hoy; clear hoy h2 hb2 hb2' HX)
    clear HF1 HE1 hbel1
    have hw2 := hbel2.size
    go_wp2_with fail
    refine (all_any _ [] w2 (pieces_none _ _ none 0) (by simp) (by simp)).mono ?_
    intro e w3 h3
    obtain ⟨az, nz, cz, rfl, hoz, hb3⟩ := h3.part
    simp only [List.flatten_nil] at hoz ⊢
    have hbel3 := hbel2.trans (hb3.mono hw2)
    have HX3 := Lib.hid (isTexts_of_owns (owns_below HX2.out hb3))
    have HY3 := Lib.hid (isTexts_of_owns (owns_below HY2.out hb3))
    have HZ3 := Lib.hid (isTexts_of_owns hoz)
    have hal := allL_count []
    clear HX2 HY2 hoz h3 hb3
    go_wp2_with fail
    refine (same_true _ _ (allL []) w3 (by simp at hal; omega) HX3.out HY3.out).mono ?_
    rintro e w4 ⟨rfl, n4, rfl⟩
    go_wp2_with fail
    refine (same_true _ _ (allL []) _ (by simp at hal; omega) (HX3.out.below (Quiet.below ⟨n4, rfl⟩ _)) (HZ3.out.below (Quiet.below ⟨n4, rfl⟩ _))).mono ?_
    rintro e w5 ⟨rfl, n5, rfl⟩
    go_wp2_with fail
    refine (awake_true _).mono ?_
    rintro e w6 ⟨rfl, hb6⟩
    go_wp2_with fail
    go_ret
    exact ⟨rfl, hbel3.trans ((Quiet.below (w' := w3.drewN (n4 + n5)) ⟨n4 + n5, rfl⟩ _).trans (hb6.mono hbel3.size))⟩

theorem pieces_any {p : Nat → Prop} (v : Value) (bs : List UInt8) (m : Int) (w : World) (hB : IsBytes p w v bs) : Calls Try.prog 6 #[v, .int .i64 m] w (TrueBelow w) := by
  obtain ⟨a, cap, rfl, hcap, hc⟩ := hB
  by_cases hg : 8192 < bs.length ∨ m < 0 ∨ (bs.length : Int) < m
  · exact pieces_no a _ cap m w hg
  · obtain ⟨n, rfl⟩ := Int.eq_ofNat_of_zero_le (by omega : 0 ≤ m)
    cases bs with
    | nil =>
      obtain rfl : n = 0 := by simp at hg; omega
      exact pieces_nil a cap w
    | cons c r =>
      obtain ⟨gb, off, rfl, _, _⟩ := hc 0 c rfl
      refine pieces_some gb off cap (c :: r) n w (fun j x hj => ?_) (by omega) (by omega) hcap
      obtain ⟨gb', off', e, _, h⟩ := hc j x hj
      cases e
      exact h

end Go.Proofs.Ytgpholcooabbfaa
