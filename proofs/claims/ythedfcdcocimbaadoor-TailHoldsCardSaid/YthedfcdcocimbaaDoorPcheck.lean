/- What Check does. -/
import Derived.Test.YthedfcdcocimbaaDoorPmaybe
namespace Go.Proofs.YthedfcdcocimbaaDoor.Pm
open Go.RowKit

theorem kinds_small : ∀ k : Nat, k ≤ 16 → (0 ≤ (kindOf k).holds ∧ (kindOf k).holds ≤ 2048) ∧ (0 ≤ (kindOf k).each ∧ (kindOf k).each ≤ 2048) := by decide

/-- Seven cells of the table, under names. -/
theorem Tab.row {w : World} (h : Tab w) {K : Nat} (hK : K ≤ 16) :
    w.cell? ⟨0, K * 7, none⟩ = some (.int .i64 (kindOf K).least) ∧ w.cell? ⟨0, K * 7 + 1, none⟩ = some (.int .i64 (kindOf K).most) ∧ w.cell? ⟨0, K * 7 + 2, none⟩ = some (.int .i64 (kindOf K).rule) ∧
    w.cell? ⟨0, K * 7 + 3, none⟩ = some (.int .i64 (kindOf K).ins) ∧ w.cell? ⟨0, K * 7 + 4, none⟩ = some (.int .i64 (kindOf K).outs) ∧ w.cell? ⟨0, K * 7 + 5, none⟩ = some (.int .i64 (kindOf K).holds) ∧ w.cell? ⟨0, K * 7 + 6, none⟩ = some (.int .i64 (kindOf K).each) :=
  by
  rw [Nat.mul_comm]
  exact ⟨h.at hK (j := 0) (by omega) rfl, h.at hK (j := 1) (by omega) rfl, h.at hK (j := 2) (by omega) rfl, h.at hK (j := 3) (by omega) rfl, h.at hK (j := 4) (by omega) rfl, h.at hK (j := 5) (by omega) rfl, h.at hK (j := 6) (by omega) rfl⟩

set_option maxRecDepth 100000 in
set_option maxHeartbeats 1000000 in
theorem check_row (K : Nat) (h1 : 1 ≤ K) (h16 : K ≤ 16) (n : Int) (va vb : Value) (A B : List UInt8) (w : World) (hT : Tab w) (hA : IsBytes w va A) (hB : IsBytes w vb B) :
    Calls Tryd.prog 61 #[parV K n va vb] w (Gives w (.int .i64 (if fits (kindOf K) n A B = false then 11 else if tooMuch (kindOf K) n = true then 12 else 0))) := by
  obtain ⟨c0, c1, c2, c3, c4, c5, c6⟩ := hT.row h16
  have hsm := kinds_small K h16
  have hp := hT.pos
  generalize kindOf K = r at *
  obtain ⟨E, hE⟩ : ∃ E : Int, E = if fits r n A B = false then 11 else if tooMuch r n = true then 12 else 0 := ⟨_, rfl⟩
  rw [← hE]
  have HE := Lib.hid hE
  have HA := Lib.hid (show ∀ W, Below w.heap.size w W → IsBytes W va A from fun W hb => hA.below hb)
  have HB := Lib.hid (show ∀ W, Below w.heap.size w W → IsBytes W vb B from fun W hb => hB.below hb)
  have g1 : ¬ (K : Int) < 1 := by omega
  have g2 : ¬ (16 : Int) < (K : Int) := by omega
  have g3 : (0 : Int) ≤ (K : Int) := by omega
  have g4 : (K : Int) < 17 := by omega
  clear hT hA hB hE
  unfold parV
  have hb0 : ∀ o1 o2, Below w.heap.size w ((w.alloc o1).alloc o2) := fun o1 o2 => ((Below.refl _ _).alloc (Nat.le_refl _) _).alloc (by simp) _
  have HB0 := Lib.hid hb0
  clear hb0
  by_cases hl : r.least ≤ n
  · by_cases hm : n ≤ r.most
    · have k1 : ¬ n < r.least := by omega
      have k2 : ¬ r.most < n := by omega
      go_enter Tryd.func61, Tryd.ntmps61
      go_wp2_with fail
      refine (bytesMayBe_any r.rule va vb A B _ (HA.out _ (HB0.out _ _)) (HB.out _ (HB0.out _ _))).mono ?_
      rintro e w' ⟨rfl, hb⟩
      have hF : fits r n A B = mayBe r.rule A B := by simp [fits, hl, hm]
      have HF := Lib.hid hF
      clear hF
      have hw : Below w.heap.size w w' := (HB0.out _ _).trans (hb.mono (HB0.out _ _).size)
      have q1 : w'.cell? ⟨w.heap.size, 1, none⟩ = some (.int .i64 n) := Below.cell hb (by simp)
      have q2 : w'.cell? ⟨w.heap.size + 1, 0, none⟩ = some (.int .i64 r.least) := Below.cell hb (by simp)
      have q3 : w'.cell? ⟨w.heap.size + 1, 1, none⟩ = some (.int .i64 r.most) := Below.cell hb (by simp)
      have q4 : w'.cell? ⟨w.heap.size + 1, 2, none⟩ = some (.int .i64 r.rule) := Below.cell hb (by simp)
      have q5 : w'.cell? ⟨w.heap.size + 1, 3, none⟩ = some (.int .i64 r.ins) := Below.cell hb (by simp)
      have q6 : w'.cell? ⟨w.heap.size + 1, 4, none⟩ = some (.int .i64 r.outs) := Below.cell hb (by simp)
      have q7 : w'.cell? ⟨w.heap.size + 1, 5, none⟩ = some (.int .i64 r.holds) := Below.cell hb (by simp)
      have q8 : w'.cell? ⟨w.heap.size + 1, 6, none⟩ = some (.int .i64 r.each) := Below.cell hb (by simp)
      have HW := Lib.hid hw
      clear hb hw HA HB HB0 c0 c1 c2 c3 c4 c5 c6
      obtain ⟨mb, hmb⟩ : ∃ mb, mb = mayBe r.rule A B := ⟨_, rfl⟩
      have HMB := Lib.hid hmb
      rw [← hmb]
      clear hmb
      cases mb with
      | false =>
        have hF : E = 11 := by rw [HE.out, if_pos (by rw [HF.out, ← HMB.out])]
        subst hF
        go_wp2_with fail
        go_ret
        exact ⟨rfl, HW.out⟩
      | true =>
        have hF : E = if tooMuch r n = true then 12 else 0 := by rw [HE.out, if_neg (by rw [HF.out, ← HMB.out]; decide)]
        clear HE
        have HE := Lib.hid hF
        clear hF
        go_wp2_with fail
        refine (holdsTooMuch_any r n w' hsm.1 hsm.2).mono ?_
        rintro e w'' ⟨rfl, hb⟩
        have hw : Below w.heap.size w w'' := HW.out.trans (hb.mono HW.out.size)
        have HW2 := Lib.hid hw
        clear hb hw
        obtain ⟨tm, htm⟩ : ∃ tm, tm = tooMuch r n := ⟨_, rfl⟩
        have HTM := Lib.hid htm
        rw [← htm]
        clear htm
        cases tm with
        | false =>
          have hF : E = 0 := by rw [HE.out, if_neg (by rw [← HTM.out]; decide)]
          subst hF
          go_wp2_with fail
          go_ret
          exact ⟨rfl, HW2.out⟩
        | true =>
          have hF : E = 12 := by rw [HE.out, if_pos HTM.out.symm]
          subst hF
          go_wp2_with fail
          go_ret
          exact ⟨rfl, HW2.out⟩
    · have k1 : ¬ n < r.least := by omega
      have k2 : r.most < n := by omega
      have hF : E = 11 := by rw [HE.out, if_pos]; simp [fits, hm]
      subst hF
      clear hl hm
      go_enter Tryd.func61, Tryd.ntmps61
      go_wp2_with fail
      go_ret
      exact ⟨rfl, HB0.out _ _⟩
  · have k1 : n < r.least := by omega
    have hF : E = 11 := by rw [HE.out, if_pos]; simp [fits, hl]
    subst hF
    clear hl
    go_enter Tryd.func61, Tryd.ntmps61
    go_wp2_with fail
    go_ret
    exact ⟨rfl, HB0.out _ _⟩

set_option maxRecDepth 100000 in
set_option maxHeartbeats 1000000 in
/-- THE CONTRACT. -/
theorem check_any (k n : Int) (va vb : Value) (A B : List UInt8) (w : World) (hT : Tab w) (hA : IsBytes w va A) (hB : IsBytes w vb B) :
    Calls Tryd.prog 61 #[parV k n va vb] w (Gives w (.int .i64 (checkE k n A B))) := by
  by_cases h1 : k < 1
  · rw [checkE, if_pos (.inl h1)]
    unfold parV
    clear hT hA hB
    go_enter Tryd.func61, Tryd.ntmps61
    go_wp2_with fail
    go_ret
    exact ⟨rfl, (Below.refl _ _).alloc (Nat.le_refl _) _⟩
  · by_cases h2 : 16 < k
    · rw [checkE, if_pos (.inr h2)]
      unfold parV
      clear hT hA hB
      go_enter Tryd.func61, Tryd.ntmps61
      go_wp2_with fail
      go_ret
      exact ⟨rfl, (Below.refl _ _).alloc (Nat.le_refl _) _⟩
    · obtain ⟨K, rfl⟩ : ∃ K : Nat, k = K := ⟨k.toNat, by omega⟩
      rw [checkE, if_neg (by omega), Int.toNat_natCast]
      exact check_row K (by omega) (by omega) n va vb A B w hT hA hB

end Go.Proofs.YthedfcdcocimbaaDoor.Pm
