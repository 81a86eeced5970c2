/- What the document's Check and Bound do. -/
import Derived.Test.YtlflhjgfegflfaaDoorPC
import Derived.Test.YtlflhjgfegflfaaDoorProwd
import Derived.Test.YtlflhjgfegflfaaDoorProwe
import Derived.Test.YtlflhjgfegflfaaDoorPB
import Derived.Test.YtlflhjgfegflfaaDoorPA
namespace Go.Proofs.YtlflhjgfegflfaaDoor.Pm
open Go.RowKit

theorem sixteen {K : Nat} (h1 : 1 ≤ K) (h16 : K ≤ 16) : K = 1 ∨ K = 2 ∨ K = 3 ∨ K = 4 ∨ K = 5 ∨ K = 6 ∨ K = 7 ∨ K = 8 ∨ K = 9 ∨ K = 10 ∨ K = 11 ∨ K = 12 ∨ K = 13 ∨ K = 14 ∨ K = 15 ∨ K = 16 := by omega

theorem refRow_any (K : Nat) (h1 : 1 ≤ K) (h16 : K ≤ 16) (n : Int) (hn : Fits n) (va vb : Value) (A B : List UInt8) (w : World) (hA : IsBytes w va A) (hB : IsBytes w vb B) (sA : A.length ≤ 2000) :
    Calls Tryd.prog 26 #[parV K n va vb] w (Gives w (.bool (fits (kindOf K) n A B))) := by
  obtain rfl | rfl | rfl | rfl | rfl | rfl | rfl | rfl | rfl | rfl | rfl | rfl | rfl | rfl | rfl | rfl := sixteen h1 h16
  · exact refRow_1 n va vb A B w hA hB
  · exact refRow_2 n va vb A B w hA hB
  · exact refRow_3 n va vb A B w hA hB
  · exact refRow_4 n hn va vb A B w hA hB
  · exact refRow_5 n va vb A B w hA hB sA
  · exact refRow_6 n va vb A B w hA hB sA
  · exact refRow_7 n va vb A B w hA hB
  · exact refRow_8 n va vb A B w hA hB
  · exact refRow_9 n va vb A B w hA hB
  · exact refRow_10 n va vb A B w hA hB
  · exact refRow_11 n va vb A B w hA hB
  · exact refRow_12 n va vb A B w hA hB
  · exact refRow_13 n va vb A B w hA hB
  · exact refRow_14 n hn va vb A B w hA hB
  · exact refRow_15 n va vb A B w hA hB
  · exact refRow_16 n va vb A B w hA hB

theorem gives_int {w : World} {x y : Int} {f : FuncId} {args : Array Value} (h : Calls Tryd.prog f args w (Gives w (.int .i64 x))) (e : x = y) : Calls Tryd.prog f args w (Gives w (.int .i64 y)) := e ▸ h

theorem refHolds_any (K : Nat) (h1 : 1 ≤ K) (h16 : K ≤ 16) (n : Int) (hl : (kindOf K).least ≤ n) (hm : n ≤ (kindOf K).most) (va vb : Value) (w : World) :
    Calls Tryd.prog 27 #[parV K n va vb] w (Gives w (.int .i64 (holdsE K n))) := by
  obtain rfl | rfl | rfl | rfl | rfl | rfl | rfl | rfl | rfl | rfl | rfl | rfl | rfl | rfl | rfl | rfl := sixteen h1 h16
  · exact gives_int (refHolds_1 n va vb w) (by simp [holdsE, kindOf, kinds])
  · exact gives_int (refHolds_2 n va vb w) (by simp [holdsE, kindOf, kinds])
  · exact gives_int (refHolds_3 n va vb w) (by simp [holdsE, kindOf, kinds])
  · simp [kindOf, kinds] at hl hm
    by_cases hb : 100 < n
    · exact gives_int (refHolds_4_big n hb va vb w) (by simp [holdsE, hb])
    · exact gives_int (refHolds_4 n hl (by omega) va vb w) (by simp [holdsE, kindOf, kinds, hb])
  · exact gives_int (refHolds_5 n va vb w) (by simp [holdsE, kindOf, kinds])
  · exact gives_int (refHolds_6 n va vb w) (by simp [holdsE, kindOf, kinds])
  · exact gives_int (refHolds_7 n va vb w) (by simp [holdsE, kindOf, kinds])
  · exact gives_int (refHolds_8 n va vb w) (by simp [holdsE, kindOf, kinds])
  · exact gives_int (refHolds_9 n va vb w) (by simp [holdsE, kindOf, kinds])
  · exact gives_int (refHolds_10 n va vb w) (by simp [holdsE, kindOf, kinds])
  · exact gives_int (refHolds_11 n va vb w) (by simp [holdsE, kindOf, kinds])
  · exact gives_int (refHolds_12 n va vb w) (by simp [holdsE, kindOf, kinds])
  · simp [kindOf, kinds] at hl hm
    exact gives_int (refHolds_13 n hl hm va vb w) (by simp [holdsE, kindOf, kinds])
  · simp [kindOf, kinds] at hl hm
    by_cases hb : 100 < n
    · exact gives_int (refHolds_14_big n hb va vb w) (by simp [holdsE, hb])
    · exact gives_int (refHolds_14 n hl (by omega) va vb w) (by simp [holdsE, kindOf, kinds, hb]; omega)
  · exact gives_int (refHolds_15 n va vb w) (by simp [holdsE, kindOf, kinds])
  · exact gives_int (refHolds_16 n va vb w) (by simp [holdsE, kindOf, kinds])

/-- The document's number says the same of what may be. -/
theorem holds_pure (K : Nat) (h1 : 1 ≤ K) (h16 : K ≤ 16) (n : Int) (hl : (kindOf K).least ≤ n) (hm : n ≤ (kindOf K).most) :
    (2048 < holdsE K n ↔ tooMuch (kindOf K) n = true) ∧ (tooMuch (kindOf K) n = false → holdsE K n = (kindOf K).holds + (kindOf K).each * n) := by
  obtain rfl | rfl | rfl | rfl | rfl | rfl | rfl | rfl | rfl | rfl | rfl | rfl | rfl | rfl | rfl | rfl := sixteen h1 h16
  all_goals simp [kindOf, kinds, tooMuch, holdsE] at hl hm ⊢
  all_goals (try split)
  all_goals (try omega)
theorem fits_range {K : Nat} {n : Int} {A B : List UInt8} (h : fits (kindOf K) n A B = true) : (kindOf K).least ≤ n ∧ n ≤ (kindOf K).most := by
  simp [fits] at h
  exact h.1

end Go.Proofs.YtlflhjgfegflfaaDoor.Pm

namespace Go.Proofs.YtlflhjgfegflfaaDoor.Pm
open Go.RowKit

set_option maxRecDepth 100000 in
set_option maxHeartbeats 1000000 in
theorem refCheck_row (K : Nat) (h1 : 1 ≤ K) (h16 : K ≤ 16) (n : Int) (hn : Fits n) (va vb : Value) (A B : List UInt8) (w : World) (hA : IsBytes w va A) (hB : IsBytes w vb B) (sA : A.length ≤ 2000) :
    Calls Tryd.prog 12 #[parV K n va vb] w (Gives w (.int .i64 (if fits (kindOf K) n A B = false then 11 else if tooMuch (kindOf K) n = true then 12 else 0))) := by
  obtain ⟨E, hE⟩ : ∃ E : Int, E = if fits (kindOf K) n A B = false then 11 else if tooMuch (kindOf K) n = true then 12 else 0 := ⟨_, rfl⟩
  rw [← hE]
  have HE := Lib.hid hE
  have HN := Lib.hid hn
  have HA := Lib.hid (show ∀ W, Below w.heap.size w W → IsBytes W va A from fun W hb => hA.below hb)
  have HB := Lib.hid (show ∀ W, Below w.heap.size w W → IsBytes W vb B from fun W hb => hB.below hb)
  have HB0 := Lib.hid (show ∀ o1, Below w.heap.size w (w.alloc o1) from fun o1 => (Below.refl _ _).alloc (Nat.le_refl _) _)
  have g1 : ¬ (K : Int) < 1 := by omega
  have g2 : ¬ (16 : Int) < (K : Int) := by omega
  clear hA hB hE hn
  unfold parV
  obtain ⟨F, hF⟩ : ∃ F, F = fits (kindOf K) n A B := ⟨_, rfl⟩
  have HF := Lib.hid hF
  clear hF
  go_enter Tryd.func12, Tryd.ntmps12
  go_wp2_with fail
  refine (refRow_any K h1 h16 n HN.out va vb A B _ (HA.out _ (HB0.out _)) (HB.out _ (HB0.out _)) sA).mono ?_
  rw [← HF.out]
  rintro e w' ⟨rfl, hb⟩
  have q0 : w'.cell? ⟨w.heap.size, 0, none⟩ = some (.int .i64 K) := Below.cell hb (by simp)
  have q1 : w'.cell? ⟨w.heap.size, 1, none⟩ = some (.int .i64 n) := Below.cell hb (by simp)
  have q2 : w'.cell? ⟨w.heap.size, 2, none⟩ = some va := Below.cell hb (by simp)
  have q3 : w'.cell? ⟨w.heap.size, 3, none⟩ = some vb := Below.cell hb (by simp)
  have HW := Lib.hid ((HB0.out _).trans (hb.mono (HB0.out _).size))
  clear hb
  cases F with
  | false =>
    have hE : E = 11 := by rw [HE.out, if_pos HF.out.symm]
    subst hE
    go_wp2_with fail
    go_ret
    exact ⟨rfl, HW.out⟩
  | true =>
    obtain ⟨hl, hm⟩ := fits_range HF.out.symm
    have hp := (holds_pure K h1 h16 n hl hm).1
    have hE : E = if 2048 < holdsE K n then 12 else 0 := by
      rw [HE.out, if_neg (by rw [← HF.out]; decide)]
      by_cases h : 2048 < holdsE K n
      · rw [if_pos h, if_pos (hp.1 h)]
      · rw [if_neg h, if_neg (fun h' => h (hp.2 h'))]
    have HE2 := Lib.hid hE
    have HL := Lib.hid hl
    have HM := Lib.hid hm
    clear hE hp hl hm HE
    go_wp2_with fail
    refine (refHolds_any K h1 h16 n HL.out HM.out va vb w').mono ?_
    generalize holdsE K n = X at *
    rintro e w'' ⟨rfl, hb⟩
    have HW2 := Lib.hid (HW.out.trans (hb.mono HW.out.size))
    clear hb
    by_cases h : 2048 < X
    · have hE : E = 12 := by rw [HE2.out, if_pos h]
      subst hE
      go_wp2_with fail
      go_ret
      exact ⟨rfl, HW2.out⟩
    · have hE : E = 0 := by rw [HE2.out, if_neg h]
      subst hE
      go_wp2_with fail
      go_ret
      exact ⟨rfl, HW2.out⟩

set_option maxRecDepth 100000 in
set_option maxHeartbeats 1000000 in
/-- THE CONTRACT. -/
theorem refCheck_any (k n : Int) (hn : Fits n) (va vb : Value) (A B : List UInt8) (w : World) (hA : IsBytes w va A) (hB : IsBytes w vb B) (sA : A.length ≤ 2000) :
    Calls Tryd.prog 12 #[parV k n va vb] w (Gives w (.int .i64 (checkE k n A B))) := by
  by_cases h1 : k < 1
  · rw [checkE, if_pos (.inl h1)]
    unfold parV
    clear hA hB hn
    go_enter Tryd.func12, Tryd.ntmps12
    go_wp2_with fail
    go_ret
    exact ⟨rfl, (Below.refl _ _).alloc (Nat.le_refl _) _⟩
  · by_cases h2 : 16 < k
    · rw [checkE, if_pos (.inr h2)]
      unfold parV
      clear hA hB hn
      go_enter Tryd.func12, Tryd.ntmps12
      go_wp2_with fail
      go_ret
      exact ⟨rfl, (Below.refl _ _).alloc (Nat.le_refl _) _⟩
    · obtain ⟨K, rfl⟩ : ∃ K : Nat, k = K := ⟨k.toNat, by omega⟩
      rw [checkE, if_neg (by omega), Int.toNat_natCast]
      exact refCheck_row K (by omega) (by omega) n hn va vb A B w hA hB sA

set_option maxRecDepth 100000 in
set_option maxHeartbeats 1000000 in
theorem refBound_any (k n : Int) (hn : Fits n) (va vb : Value) (A B : List UInt8) (w : World) (hA : IsBytes w va A) (hB : IsBytes w vb B) (sA : A.length ≤ 2000) :
    Calls Tryd.prog 20 #[parV k n va vb] w (Gives w (.tuple #[.int .i64 (boundE k n A B), .int .i64 (checkE k n A B)])) := by
  have HN := Lib.hid hn
  have HA := Lib.hid (show ∀ W, Below w.heap.size w W → IsBytes W va A from fun W hb => hA.below hb)
  have HB := Lib.hid (show ∀ W, Below w.heap.size w W → IsBytes W vb B from fun W hb => hB.below hb)
  have HB0 := Lib.hid (show ∀ o1, Below w.heap.size w (w.alloc o1) from fun o1 => (Below.refl _ _).alloc (Nat.le_refl _) _)
  clear hA hB hn
  obtain ⟨E, hE⟩ : ∃ E : Int, E = checkE k n A B := ⟨_, rfl⟩
  obtain ⟨D, hD⟩ : ∃ D : Int, D = boundE k n A B := ⟨_, rfl⟩
  have HE := Lib.hid hE
  have HD := Lib.hid hD
  rw [← hE, ← hD]
  clear hE hD
  unfold parV
  go_enter Tryd.func20, Tryd.ntmps20
  go_wp2_with fail
  refine (refCheck_any k n HN.out va vb A B _ (HA.out _ (HB0.out _)) (HB.out _ (HB0.out _)) sA).mono ?_
  rw [← HE.out]
  rintro e w' ⟨rfl, hb⟩
  have q0 : w'.cell? ⟨w.heap.size, 0, none⟩ = some (.int .i64 k) := Below.cell hb (by simp)
  have q1 : w'.cell? ⟨w.heap.size, 1, none⟩ = some (.int .i64 n) := Below.cell hb (by simp)
  have q2 : w'.cell? ⟨w.heap.size, 2, none⟩ = some va := Below.cell hb (by simp)
  have q3 : w'.cell? ⟨w.heap.size, 3, none⟩ = some vb := Below.cell hb (by simp)
  have HW := Lib.hid ((HB0.out _).trans (hb.mono (HB0.out _).size))
  clear hb
  by_cases h0 : E = 0
  · subst h0
    obtain ⟨K, rfl, h1, h16, hl, hm, ht⟩ := check_zero HE.out.symm
    have hD : D = holdsE K n := by rw [HD.out, boundE, if_pos HE.out.symm, Int.toNat_natCast, (holds_pure K h1 h16 n hl hm).2 ht]
    subst hD
    have HL := Lib.hid hl
    have HM := Lib.hid hm
    clear hl hm ht
    go_wp2_with fail
    refine (refHolds_any K h1 h16 n HL.out HM.out va vb w').mono ?_
    generalize holdsE K n = X at *
    rintro e w'' ⟨rfl, hb⟩
    have HW2 := Lib.hid (HW.out.trans (hb.mono HW.out.size))
    clear hb
    go_wp2_with fail
    go_ret2
    exact ⟨rfl, HW2.out⟩
  · have hD : D = 0 := by rw [HD.out]; exact (ins_of (by rw [← HE.out]; exact h0)).2.2
    subst hD
    have g0 : (E != 0) = true := by simpa using h0
    go_wp2_with fail
    go_ret2
    exact ⟨rfl, HW.out⟩

end Go.Proofs.YtlflhjgfegflfaaDoor.Pm

namespace Go.Proofs.YtlflhjgfegflfaaDoor.Pm
open Go.RowKit

set_option maxRecDepth 100000 in
set_option maxHeartbeats 4000000 in
theorem refArity_any (k n : Int) (hn : Fits n) (va vb : Value) (A B : List UInt8) (w : World) (hA : IsBytes w va A) (hB : IsBytes w vb B) (sA : A.length ≤ 2000) :
    Calls Tryd.prog 30 #[parV k n va vb] w (Gives w (.tuple #[.int .i64 (insE k n A B), .int .i64 (outsE k n A B), .int .i64 (checkE k n A B)])) := by
  have HN := Lib.hid hn
  have HA := Lib.hid (show ∀ W, Below w.heap.size w W → IsBytes W va A from fun W hb => hA.below hb)
  have HB := Lib.hid (show ∀ W, Below w.heap.size w W → IsBytes W vb B from fun W hb => hB.below hb)
  have HB0 := Lib.hid (show ∀ o1, Below w.heap.size w (w.alloc o1) from fun o1 => (Below.refl _ _).alloc (Nat.le_refl _) _)
  clear hA hB hn
  obtain ⟨E, hE⟩ : ∃ E : Int, E = checkE k n A B := ⟨_, rfl⟩
  obtain ⟨I, hI⟩ : ∃ I : Int, I = insE k n A B := ⟨_, rfl⟩
  obtain ⟨O, hO⟩ : ∃ O : Int, O = outsE k n A B := ⟨_, rfl⟩
  have HE := Lib.hid hE
  have HI := Lib.hid hI
  have HO := Lib.hid hO
  rw [← hE, ← hI, ← hO]
  clear hE hI hO
  unfold parV
  go_enter Tryd.func30, Tryd.ntmps30
  go_wp2_with fail
  refine (refCheck_any k n HN.out va vb A B _ (HA.out _ (HB0.out _)) (HB.out _ (HB0.out _)) sA).mono ?_
  rw [← HE.out]
  rintro e w' ⟨rfl, hb⟩
  have q0 : w'.cell? ⟨w.heap.size, 0, none⟩ = some (.int .i64 k) := Below.cell hb (by simp)
  have q1 : w'.cell? ⟨w.heap.size, 1, none⟩ = some (.int .i64 n) := Below.cell hb (by simp)
  have HW := Lib.hid ((HB0.out _).trans (hb.mono (HB0.out _).size))
  clear hb
  by_cases h0 : E = 0
  · subst h0
    obtain ⟨K, hk, h1, h16, -, -, -⟩ := check_zero HE.out.symm
    have hI : I = portsE (kindOf K).ins n := by rw [HI.out, insE, if_pos HE.out.symm, hk, Int.toNat_natCast]
    have hO : O = portsE (kindOf K).outs n := by rw [HO.out, outsE, if_pos HE.out.symm, hk, Int.toNat_natCast]
    clear HI HO HE HA HB HN HB0
    obtain rfl | rfl | rfl | rfl | rfl | rfl | rfl | rfl | rfl | rfl | rfl | rfl | rfl | rfl | rfl | rfl := sixteen h1 h16
    · replace hk : k = 1 := hk
      subst hk
      simp [portsE, kindOf, kinds] at hI hO
      subst hI
      subst hO
      go_wp2_with fail
      go_ret3
      exact ⟨rfl, HW.out⟩
    · replace hk : k = 2 := hk
      subst hk
      simp [portsE, kindOf, kinds] at hI hO
      subst hI
      subst hO
      go_wp2_with fail
      go_ret3
      exact ⟨rfl, HW.out⟩
    · replace hk : k = 3 := hk
      subst hk
      simp [portsE, kindOf, kinds] at hI hO
      subst hI
      subst hO
      go_wp2_with fail
      go_ret3
      exact ⟨rfl, HW.out⟩
    · replace hk : k = 4 := hk
      subst hk
      simp [portsE, kindOf, kinds] at hI hO
      subst hI
      subst hO
      go_wp2_with fail
      go_ret3
      exact ⟨rfl, HW.out⟩
    · replace hk : k = 5 := hk
      subst hk
      simp [portsE, kindOf, kinds] at hI hO
      subst hI
      subst hO
      go_wp2_with fail
      go_ret3
      exact ⟨rfl, HW.out⟩
    · replace hk : k = 6 := hk
      subst hk
      simp [portsE, kindOf, kinds] at hI hO
      subst hI
      subst hO
      go_wp2_with fail
      go_ret3
      exact ⟨rfl, HW.out⟩
    · replace hk : k = 7 := hk
      subst hk
      simp [portsE, kindOf, kinds] at hI hO
      subst hI
      subst hO
      go_wp2_with fail
      go_ret3
      exact ⟨rfl, HW.out⟩
    · replace hk : k = 8 := hk
      subst hk
      simp [portsE, kindOf, kinds] at hI hO
      subst hI
      subst hO
      go_wp2_with fail
      go_ret3
      exact ⟨rfl, HW.out⟩
    · replace hk : k = 9 := hk
      subst hk
      simp [portsE, kindOf, kinds] at hI hO
      subst hI
      subst hO
      go_wp2_with fail
      go_ret3
      exact ⟨rfl, HW.out⟩
    · replace hk : k = 10 := hk
      subst hk
      simp [portsE, kindOf, kinds] at hI hO
      subst hI
      subst hO
      go_wp2_with fail
      go_ret3
      exact ⟨rfl, HW.out⟩
    · replace hk : k = 11 := hk
      subst hk
      simp [portsE, kindOf, kinds] at hI hO
      subst hI
      subst hO
      go_wp2_with fail
      go_ret3
      exact ⟨rfl, HW.out⟩
    · replace hk : k = 12 := hk
      subst hk
      simp [portsE, kindOf, kinds] at hI hO
      subst hI
      subst hO
      go_wp2_with fail
      go_ret3
      exact ⟨rfl, HW.out⟩
    · replace hk : k = 13 := hk
      subst hk
      simp [portsE, kindOf, kinds] at hI hO
      subst hI
      subst hO
      go_wp2_with fail
      go_ret3
      exact ⟨rfl, HW.out⟩
    · replace hk : k = 14 := hk
      subst hk
      simp [portsE, kindOf, kinds] at hI hO
      subst hI
      subst hO
      go_wp2_with fail
      go_ret3
      exact ⟨rfl, HW.out⟩
    · replace hk : k = 15 := hk
      subst hk
      simp [portsE, kindOf, kinds] at hI hO
      subst hI
      subst hO
      go_wp2_with fail
      go_quiet (fail)
      go_wp2_with fail
      go_ret3
      exact ⟨rfl, HW.out.trans ⟨rfl, rfl, rfl, Nat.le_refl _, fun _ _ => rfl⟩⟩
    · replace hk : k = 16 := hk
      subst hk
      simp [portsE, kindOf, kinds] at hI hO
      subst hI
      subst hO
      go_wp2_with fail
      go_quiet (fail)
      go_wp2_with fail
      go_ret3
      exact ⟨rfl, HW.out.trans ⟨rfl, rfl, rfl, Nat.le_refl _, fun _ _ => rfl⟩⟩
  · obtain ⟨hI, hO, -⟩ := ins_of (A := A) (B := B) (k := k) (n := n) (by rw [← HE.out]; exact h0)
    rw [← HI.out] at hI
    rw [← HO.out] at hO
    subst hI
    subst hO
    have g0 : (E != 0) = true := by simpa using h0
    go_wp2_with fail
    go_ret3
    exact ⟨rfl, HW.out⟩

end Go.Proofs.YtlflhjgfegflfaaDoor.Pm
