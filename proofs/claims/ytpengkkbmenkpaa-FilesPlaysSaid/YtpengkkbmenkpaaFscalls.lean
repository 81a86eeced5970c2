/- The laws' lists of calls; heavy and what. -/
import Derived.Test.YtpengkkbmenkpaaFsnew
namespace Go.Proofs.Ytpengkkbmenkpaa
open Go.RowKit

structure FCall where
  op : Int
  no : Int
  at' : Int
  most : Int
  b : List UInt8
/-- The cells of a call; bv: its bytes. -/
def callL (c : FCall) (bv : Value) : List Value := [.int .i64 c.op, .int .i64 c.no, .int .i64 c.at', .int .i64 c.most, bv]
/-- The value is a list of calls, in blocks of p. -/
def IsFCalls (p : Nat → Prop) (w : World) (v : Value) (L : List FCall) : Prop :=
  ∃ a cap, v = .slice a L.length cap ∧ ∀ j c, L[j]? = some c → ∃ gb off bv, a = some ⟨gb, off, none⟩ ∧ p gb ∧ w.cell? ⟨gb, off + j * 5, none⟩ = some (.int .i64 c.op) ∧ w.cell? ⟨gb, off + j * 5 + 1, none⟩ = some (.int .i64 c.no) ∧
    w.cell? ⟨gb, off + j * 5 + 2, none⟩ = some (.int .i64 c.at') ∧ w.cell? ⟨gb, off + j * 5 + 3, none⟩ = some (.int .i64 c.most) ∧ w.cell? ⟨gb, off + j * 5 + 4, none⟩ = some bv ∧ IsBytes p w bv c.b
theorem IsFCalls.frame {p q : Nat → Prop} {w w' : World} {v : Value} {L : List FCall} (h : IsFCalls p w v L) (hf : Frame q w w') (hpq : ∀ k, p k → ¬ q k) : IsFCalls p w' v L := by
  obtain ⟨a, cap, rfl, hc⟩ := h
  refine ⟨a, cap, rfl, fun j c hj => ?_⟩
  obtain ⟨gb, off, bv, rfl, hp, h0, h1, h2, h3, h4, hb⟩ := hc j c hj
  exact ⟨gb, off, bv, rfl, hp, hf.cell? h0 (hpq _ hp), hf.cell? h1 (hpq _ hp), hf.cell? h2 (hpq _ hp), hf.cell? h3 (hpq _ hp), hf.cell? h4 (hpq _ hp), hb.frame hf hpq⟩
theorem IsFCalls.below {p : Nat → Prop} {w w' : World} {v : Value} {L : List FCall} (h : IsFCalls p w v L) (hb : Below w.heap.size w w') : IsFCalls p w' v L := h.frame (Below.toFrame hb fun _ => False) (fun _ _ h => h)
theorem IsFCalls.mono {p q : Nat → Prop} {w : World} {v : Value} {L : List FCall} (h : IsFCalls p w v L) (hpq : ∀ k, k < w.heap.size → p k → q k) : IsFCalls q w v L := by
  obtain ⟨a, cap, rfl, hc⟩ := h
  refine ⟨a, cap, rfl, fun j c hj => ?_⟩
  obtain ⟨gb, off, bv, rfl, hp, h0, h1, h2, h3, h4, hb⟩ := hc j c hj
  exact ⟨gb, off, bv, rfl, hpq _ (block_lt_of_cell h0) hp, h0, h1, h2, h3, h4, hb.mono hpq⟩
/-- Numbers that ints may hold. -/
def Calls64 (L : List FCall) : Prop := ∀ c ∈ L, I64 c.op ∧ I64 c.no ∧ I64 c.at' ∧ I64 c.most
/-- Not more than is gone through. -/
structure Light (S : Script) (L : List FCall) : Prop where
  few : S.length ≤ 300
  len : L.length ≤ 300
  size : ∀ c ∈ L, c.b.length ≤ 3000

/-- Whether there is more. -/
def HeavyEnd (w : World) (S : Script) (L : List FCall) (e : Ending) (w' : World) : Prop := ∃ b : Bool, e = .returned (.bool b) ∧ w' = w ∧ (b = false → Light S L)

set_option maxRecDepth 100000 in
set_option maxHeartbeats 1000000 in
theorem heavy_any {p : Nat → Prop} (sa : Option Addr) (sc : Nat) (S : Script) (lv : Value) (L : List FCall) (w : World) (hL : IsFCalls p w lv L) :
    Calls Try.prog 6 #[.slice sa S.length sc, lv] w (HeavyEnd w S L) := by
  have HL := Lib.hid hL
  obtain ⟨la, lc, rfl, -⟩ := hL
  by_cases hS : 300 < S.length
  · have q1 : (300 : Int) < (S.length : Int) := by omega
    clear hS
    go_enter Try.func6, Try.ntmps6
    go_wp2_with fail
    go_ret
    exact ⟨true, rfl, rfl, fun h => by cases h⟩
  · have q1 : ¬ (300 : Int) < (S.length : Int) := by omega
    have HS := Lib.hid (show S.length ≤ 300 by omega)
    clear hS
    by_cases hl : 300 < L.length
    · have q2 : (300 : Int) < (L.length : Int) := by omega
      clear hl
      go_enter Try.func6, Try.ntmps6
      go_wp2_with fail
      go_ret
      exact ⟨true, rfl, rfl, fun h => by cases h⟩
    · have q2 : ¬ (300 : Int) < (L.length : Int) := by omega
      have HLL := Lib.hid (show L.length ≤ 300 by omega)
      clear hl
      go_enter Try.func6, Try.ntmps6
      go_wp2_with fail
      go_loopw [5] (fun i wr => ∃ k : Nat, k ≤ L.length ∧ i = .int .i64 k ∧ wr = w ∧ ∀ j c, j < k → L[j]? = some c → c.b.length ≤ 3000) (fun i _ => L.length - (intOf i).toNat)
      case atStart => exact ⟨0, Nat.zero_le _, rfl, rfl, fun j c h => by omega⟩
      case round =>
        obtain ⟨k, hk, rfl, rfl, hinv⟩ := hrel
        have HI := Lib.hid hinv
        clear hinv
        by_cases hlt : k < L.length
        · have q3 : (0 : Int) ≤ (k : Int) := by omega
          have q4 : (k : Int) < (L.length : Int) := by omega
          obtain ⟨c, hc⟩ : ∃ c, L[k]? = some c := ⟨L[k], by simp⟩
          obtain ⟨a', cap', e, hcs⟩ := HL.out
          obtain ⟨gb, off, bv, rfl, -, -, -, -, -, h4, hb⟩ := hcs k c hc
          cases e
          obtain ⟨ba, bc, rfl, -⟩ := hb
          have HC := Lib.hid hc
          clear hc hcs
          by_cases hbig : 3000 < c.b.length
          · have q5 : (3000 : Int) < (c.b.length : Int) := by omega
            clear hbig
            go_wp2_with fail
            go_ret
            exact ⟨true, rfl, rfl, fun h => by cases h⟩
          · have q5 : ¬ (3000 : Int) < (c.b.length : Int) := by omega
            have HB := Lib.hid (show c.b.length ≤ 3000 by omega)
            clear hbig
            go_wp2_with fail
            go_round
            case rel =>
              refine ⟨k + 1, by omega, by go_num, trivial, fun j c' hj hc' => ?_⟩
              by_cases hjk : j = k
              · subst hjk
                rw [HC.out] at hc'
                cases hc'
                exact HB.out
              · exact HI.out j c' (by omega) hc'
            case measure => simp [intOf]; omega
        · have q4 : ¬ (k : Int) < (L.length : Int) := by omega
          have HK := Lib.hid (show k = L.length by omega)
          clear hlt
          go_wp2_with fail
          go_ret
          refine ⟨false, rfl, rfl, fun _ => ⟨HS.out, HLL.out, fun c hc => ?_⟩⟩
          obtain ⟨j, hj⟩ := List.mem_iff_getElem?.1 hc
          exact HI.out j c (by have := (List.getElem?_eq_some_iff.1 hj).1; have := HK.out; omega) hj

/-- What a call does. -/
def whatOf (q : Int) : Int := (q.tmod 4 + 4).tmod 4
theorem whatOf_range (q : Int) : 0 ≤ whatOf q ∧ whatOf q ≤ 3 := by
  unfold whatOf
  have h1 := Int.lt_tmod_of_pos q (show (0 : Int) < 4 by decide)
  have h2 := Int.tmod_lt_of_pos q (show (0 : Int) < 4 by decide)
  have h3 : 0 ≤ q.tmod 4 + 4 := by omega
  exact ⟨Int.tmod_nonneg 4 h3, by have := Int.tmod_lt_of_pos (q.tmod 4 + 4) (show (0 : Int) < 4 by decide); omega⟩

set_option maxRecDepth 100000 in
set_option maxHeartbeats 1000000 in
theorem what_any (q no at' most : Int) (ba : Option Addr) (n bc : Nat) (w : World) :
    Calls Try.prog 15 #[.agg #[.int .i64 q, .int .i64 no, .int .i64 at', .int .i64 most, .slice ba n bc]] w fun e w' => e = .returned (.int .i64 (whatOf q)) ∧ Below w.heap.size w w' := by
  have h1 := Int.lt_tmod_of_pos q (show (0 : Int) < 4 by decide)
  have h2 := Int.tmod_lt_of_pos q (show (0 : Int) < 4 by decide)
  unfold whatOf
  have hw : wrap64 (q.tmod 4 + 4) = q.tmod 4 + 4 := by unfold wrap64; omega
  have HW := Lib.hid hw
  clear h1 h2 hw
  go_enter Try.func15, Try.ntmps15
  go_wp2_with fail
  rw [HW.out]
  go_ret
  exact ⟨rfl, (Below.refl _ _).alloc (Nat.le_refl _) _⟩

end Go.Proofs.Ytpengkkbmenkpaa
