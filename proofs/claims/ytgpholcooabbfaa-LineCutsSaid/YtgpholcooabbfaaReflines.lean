/- What the document's Lines does, of all bytes. -/
import Derived.Test.YtgpholcooabbfaaBack
namespace Go.Proofs.Ytgpholcooabbfaa
open Go.RowKit

def LinesEnd (w : World) (bs : List UInt8) (e : Ending) (w' : World) : Prop :=
  ∃ v, e = .returned (.tuple #[v, strV ((cutL [] bs).2.getD []), .bool (cutL [] bs).2.isNone]) ∧ w'.ownsRow w.heap.size 9 1 v (cutL [] bs).1.length ((cutL [] bs).1.map strV) ∧ Below w.heap.size w w'

set_option maxRecDepth 100000 in
set_option maxHeartbeats 1000000 in
theorem lines_nil (a : Option Addr) (cap : Nat) (w : World) : Calls Try.prog 21 #[.slice a 0 cap] w (LinesEnd w []) := by
  have hconv := fun (n : Nat) => conv_any (bytes_none (fun _ => True) (w.drewN n) a cap)
  go_enter Try.func21, Try.ntmps21
  go_wp2
  go_loop [2, 5, 6] (fun l t i => l = .slice none 0 0 ∧ t = .int .i64 0 ∧ i = .int .i64 0) (fun _ _ _ => 0)
  case atStart => exact ⟨rfl, rfl, rfl⟩
  case round =>
    obtain ⟨rfl, rfl, rfl⟩ := hrel
    go_wp2
    go_quiet (fail)
    go_wp2
    go_ret3
    exact ⟨_, rfl, World.ownsRow_nil _ _ 9 1, (Below.refl _ _).mono (Nat.le_refl _) |>.trans (Quiet.below ⟨_, rfl⟩ _)⟩

/-- What holds ahead of each round. -/
structure LinesInv (bs : List UInt8) (w : World) (lv : Value) (t k : Nat) (wr : World) : Prop where
  le : k ≤ bs.length
  at_le : t ≤ k
  short : k - t ≤ 64
  ex : ∃ L, cutL [] bs = (L ++ (cutL ((bs.drop t).take (k - t)) (bs.drop k)).1, (cutL ((bs.drop t).take (k - t)) (bs.drop k)).2) ∧ wr.ownsRow w.heap.size 9 1 lv L.length (L.map strV) ∧ L.length ≤ k
  bel : Below w.heap.size w wr

theorem part_succ {bs : List UInt8} {t k : Nat} {c : UInt8} (h : bs[k]? = some c) (ht : t ≤ k) : (bs.drop t).take (k + 1 - t) = (bs.drop t).take (k - t) ++ [c] := by
  have hk : k < bs.length := (List.getElem?_eq_some_iff.1 h).1
  have e : (bs.drop t)[k - t]? = some c := by rw [List.getElem?_drop, show t + (k - t) = k by omega]; exact h
  obtain ⟨h1, h2⟩ := List.getElem?_eq_some_iff.1 e
  rw [show k + 1 - t = (k - t) + 1 by omega, List.take_succ_eq_append_getElem h1, h2]

set_option maxRecDepth 100000 in
set_option maxHeartbeats 4000000 in
theorem lines_some (gb off cap : Nat) (bs : List UInt8) (w : World) (hB : ∀ j c, bs[j]? = some c → w.cell? ⟨gb, off + j, none⟩ = some (.int .u8 c.toNat)) (hcap : bs.length ≤ cap) (hsz : bs.length ≤ 1000000) :
    Calls Try.prog 21 #[.slice (some ⟨gb, off, none⟩) bs.length cap] w (LinesEnd w bs) := by
  have HB := Lib.hid (show ∀ W, Below w.heap.size w W → ∀ j c, bs[j]? = some c → W.cell? ⟨gb, off + j, none⟩ = some (.int .u8 c.toNat) from fun W hb j c hj => by
    have := hB j c hj
    rw [hb.cell (block_lt_of_cell this)]
    exact this)
  clear hB
  have hI : LinesInv bs w (.slice none 0 0) 0 0 w := ⟨Nat.zero_le _, Nat.le_refl _, by omega, ⟨[], by simp, World.ownsRow_nil _ _ 9 1, by simp⟩, Below.refl _ _⟩
  obtain ⟨i0, hi, hz0, hz1, hz2⟩ := info_parts Try.info9
  go_enter Try.func21, Try.ntmps21
  go_wp2
  go_loopw [2, 5, 6] (fun l t i wr => ∃ (lv : Value) (m k : Nat), lv = l ∧ t = .int .i64 m ∧ i = .int .i64 k ∧ LinesInv bs w lv m k wr) (fun _ _ i _ => bs.length - (intOf i).toNat)
  case atStart => exact ⟨_, 0, 0, rfl, rfl, rfl, hI⟩
  case round =>
    clear hI
    obtain ⟨lv, m, k, rfl, rfl, rfl, hk, hmk, h64, ⟨L, hcut, hown, hLk⟩, hbel⟩ := hrel
    have hw := hbel.size
    have HO := Lib.hid hown
    clear hown
    by_cases hlt : k < bs.length
    · obtain ⟨c, hc⟩ : ∃ c, bs[k]? = some c := ⟨bs[k], by simp⟩
      have hx := HB.out wr hbel k c hc
      have hd := drop_at hc
      have hps := part_succ hc hmk
      rw [hd] at hcut
      have HC := Lib.hid hcut
      have HPS := Lib.hid hps
      have g1 : (0 : Int) ≤ (k : Int) := by omega
      have g2 : (k : Int) < (bs.length : Int) := by omega
      have g3 : (0 : Int) ≤ (m : Int) := by omega
      have g4 : (m : Int) ≤ (k : Int) := by omega
      have g5 : (k : Int) ≤ (cap : Int) := by omega
      have g6 : ¬ cap = m := by omega
      have hpl : ((bs.drop m).take (k - m)).length = k - m := by simp; omega
      by_cases hten : c = 10
      · have t1 : ((c.toNat : Int) == 10) = true := by simp [hten]
        have hpart := bytes_part (HB.out wr hbel) hcap m (k - m) (by omega)
        have hconv := conv_any hpart
        obtain ⟨S, hS⟩ : ∃ S : ByteArray, strV ((bs.drop m).take (k - m)) = .string S := ⟨_, rfl⟩
        rw [hS] at hconv
        have HSS := Lib.hid hS
        have HD := Lib.hid hd
        clear hcut hps hd hc hpart hS hpl
        go_wp2_with (at_builtin; refine wpList_append_own _ rfl (.tmp 18) (.tmp 24) 36 rfl w.heap.size 9 i0 (.string ByteArray.empty) 1 16 Try.underlying36 hi hz0 hz1 hz2 rfl (by decide) _ _ _ rfl (HO.out.alloc _) ⟨wr.heap.size, 0, none⟩ 1 1 [.string S] rfl rfl (cell_one_new _ _ _) (by simp [Value.oneCell']) (by unfold maxLen; omega) (by omega) (by simp; omega) ?_; intro v2 w2 hown2 hgrow2 _)
        refine ⟨⟨v2, k + 1, k + 1, rfl, by go_num, by go_num, by omega, Nat.le_refl _, by omega, ⟨L ++ [(bs.drop m).take (k - m)], ?_, ?_, by simp; omega⟩, (hbel.alloc hw _).grown hgrow2 (by simp; omega) (fun k e => (HO.out.lt k e).1)⟩, by simp [intOf]; omega⟩
        · rw [HC.out, hten, cutL_end]
          simp
        · rw [List.map_append, List.length_append]
          simpa [HSS.out] using hown2
      · have t1 : ((c.toNat : Int) == 10) = false := by
          simp
          intro e
          exact hten (UInt8.toNat_inj.1 (by simp; omega))
        clear hcut hps hd hc
        by_cases hfull : k - m = 64
        · have t2 : (64 : Int) ≤ (k : Int) - (m : Int) := by omega
          go_wp2
          go_ret3
          rw [LinesEnd, HC.out, cutL_long _ _ c hten (by rw [hpl]; exact hfull)]
          exact ⟨lv, rfl, by simpa using HO.out, hbel⟩
        · have t2 : ¬ (64 : Int) ≤ (k : Int) - (m : Int) := by omega
          go_wp2
          refine ⟨⟨lv, m, k + 1, rfl, rfl, by go_num, by omega, by omega, by omega, ⟨L, ?_, HO.out, by omega⟩, hbel⟩, by simp [intOf]; omega⟩
          rw [HC.out, cutL_put _ _ c hten (by rw [hpl]; exact hfull), HPS.out]
    · obtain rfl : k = bs.length := by omega
      have g2 : ¬ (bs.length : Int) < (bs.length : Int) := by omega
      have g3 : (0 : Int) ≤ (m : Int) := by omega
      have g4 : (m : Int) ≤ (bs.length : Int) := by omega
      have hHF : ∃ A2, ((if cap = m then some ⟨gb, off, none⟩ else some ⟨gb, off + m, none⟩) : Option Addr) = some ⟨gb, A2, none⟩ ∧ ∀ W, Below w.heap.size w W → IsBytes (fun _ => True) W (.slice (some ⟨gb, A2, none⟩) (bs.length - m) (cap - m)) ((bs.drop m).take (bs.length - m)) := by
        by_cases hcm : cap = m
        · refine ⟨off, by rw [if_pos hcm], fun W _ => ?_⟩
          have hnil : bs.drop m = [] := List.drop_of_length_le (by omega)
          rw [hnil, show bs.length - m = 0 by omega]
          exact bytes_none _ W _ _
        · exact ⟨off + m, by rw [if_neg hcm], fun W hb => bytes_part (HB.out W hb) hcap m (bs.length - m) (by omega)⟩
      obtain ⟨A2, hA2, hA3⟩ := hHF
      have hconv := fun (n : Nat) => conv_any (hA3 (wr.drewN n) (hbel.trans (Quiet.below ⟨n, rfl⟩ _)))
      obtain ⟨S, hS⟩ : ∃ S : ByteArray, strV ((bs.drop m).take (bs.length - m)) = .string S := ⟨_, rfl⟩
      rw [hS] at hconv
      have hconv0 := hconv 0
      have HSS := Lib.hid hS
      have HC := Lib.hid hcut
      clear hcut hS hA3 hlt
      go_wp2
      go_quiet (fail)
      go_wp2
      go_ret3
      rw [LinesEnd, HC.out, List.drop_length]
      simp only [cutL, Option.getD_some, Option.isNone_some, List.append_nil]
      refine ⟨lv, by rw [HSS.out]; rfl, HO.out, hbel.trans (Quiet.below ⟨_, rfl⟩ _)⟩

theorem lines_any {p : Nat → Prop} (v : Value) (bs : List UInt8) (w : World) (hB : IsBytes p w v bs) (hsz : bs.length ≤ 1000000) : Calls Try.prog 21 #[v] w (LinesEnd w bs) := by
  obtain ⟨a, cap, rfl, hcap, hc⟩ := hB
  cases bs with
  | nil => exact lines_nil a cap w
  | cons c r =>
    obtain ⟨gb, off, rfl, _, _⟩ := hc 0 c rfl
    refine lines_some gb off cap (c :: r) w (fun j x hj => ?_) hcap hsz
    obtain ⟨gb', off', e, _, h⟩ := hc j x hj
    cases e
    exact h

end Go.Proofs.Ytgpholcooabbfaa
