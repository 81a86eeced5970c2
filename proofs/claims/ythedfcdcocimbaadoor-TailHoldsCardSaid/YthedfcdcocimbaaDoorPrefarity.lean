/- What the document's Arity does. -/
import Derived.Test.YthedfcdcocimbaaDoorPrefcheck
namespace Go.Proofs.YthedfcdcocimbaaDoor.Pm
open Go.RowKit

set_option maxRecDepth 100000 in
set_option maxHeartbeats 4000000 in
theorem refArity_any (k n : Int) (hn : Fits n) (va vb : Value) (A B : List UInt8) (w : World) (hA : IsBytes w va A) (hB : IsBytes w vb B) (sA : A.length ≤ 2000) :
    Calls Tryd.prog 48 #[parV k n va vb] w (Gives w (.tuple #[.int .i64 (insE k n A B), .int .i64 (outsE k n A B), .int .i64 (checkE k n A B)])) := by
  have HN := Lib.hid hn
  have HA := Lib.hid (show ∀ W, Below w.heap.size w W → IsBytes W va A from fun W hb => hA.below hb)
  have HB := Lib.hid (show ∀ W, Below w.heap.size w W → IsBytes W vb B from fun W hb => hB.below hb)
  have HB0 := Lib.hid (show ∀ o1, Below w.heap.size w (w.alloc o1) from fun o1 => (Below.refl _ _).alloc (Nat.le_refl _) _)
  clear hA hB hn
  obtain ⟨E, hE⟩ : ∃ E : Int, E = checkE k n A B := ⟨_, rfl⟩
  obtain ⟨I, hI⟩ : ∃ I : Int, I = insE k n A B := ⟨_, rfl⟩
  obtain ⟨O, hO⟩ : ∃ O : Int, O = outsE k n A B := ⟨_, rfl⟩
  have HE := Lib.hid hE
  have HI := Lib.hid hI
  have HO := Lib.hid hO
  rw [← hE, ← hI, ← hO]
  clear hE hI hO
  unfold parV
  go_enter Tryd.func48, Tryd.ntmps48
  go_wp2_with fail
  refine (refCheck_any k n HN.out va vb A B _ (HA.out _ (HB0.out _)) (HB.out _ (HB0.out _)) sA).mono ?_
  rw [← HE.out]
  rintro e w' ⟨rfl, hb⟩
  have q0 : w'.cell? ⟨w.heap.size, 0, none⟩ = some (.int .i64 k) := Below.cell hb (by simp)
  have q1 : w'.cell? ⟨w.heap.size, 1, none⟩ = some (.int .i64 n) := Below.cell hb (by simp)
  have HW := Lib.hid ((HB0.out _).trans (hb.mono (HB0.out _).size))
  clear hb
  by_cases h0 : E = 0
  · subst h0
    obtain ⟨K, hk, h1, h16, -, -, -⟩ := check_zero HE.out.symm
    have hI : I = portsE (kindOf K).ins n := by rw [HI.out, insE, if_pos HE.out.symm, hk, Int.toNat_natCast]
    have hO : O = portsE (kindOf K).outs n := by rw [HO.out, outsE, if_pos HE.out.symm, hk, Int.toNat_natCast]
    clear HI HO HE HA HB HN HB0
    obtain rfl | rfl | rfl | rfl | rfl | rfl | rfl | rfl | rfl | rfl | rfl | rfl | rfl | rfl | rfl | rfl := sixteen h1 h16
    · replace hk : k = 1 := hk
      subst hk
      simp [portsE, kindOf, kinds] at hI hO
      subst hI
      subst hO
      go_wp2_with fail
      go_ret3
      exact ⟨rfl, HW.out⟩
    · replace hk : k = 2 := hk
      subst hk
      simp [portsE, kindOf, kinds] at hI hO
      subst hI
      subst hO
      go_wp2_with fail
      go_ret3
      exact ⟨rfl, HW.out⟩
    · replace hk : k = 3 := hk
      subst hk
      simp [portsE, kindOf, kinds] at hI hO
      subst hI
      subst hO
      go_wp2_with fail
      go_ret3
      exact ⟨rfl, HW.out⟩
    · replace hk : k = 4 := hk
      subst hk
      simp [portsE, kindOf, kinds] at hI hO
      subst hI
      subst hO
      go_wp2_with fail
      go_ret3
      exact ⟨rfl, HW.out⟩
    · replace hk : k = 5 := hk
      subst hk
      simp [portsE, kindOf, kinds] at hI hO
      subst hI
      subst hO
      go_wp2_with fail
      go_ret3
      exact ⟨rfl, HW.out⟩
    · replace hk : k = 6 := hk
      subst hk
      simp [portsE, kindOf, kinds] at hI hO
      subst hI
      subst hO
      go_wp2_with fail
      go_ret3
      exact ⟨rfl, HW.out⟩
    · replace hk : k = 7 := hk
      subst hk
      simp [portsE, kindOf, kinds] at hI hO
      subst hI
      subst hO
      go_wp2_with fail
      go_ret3
      exact ⟨rfl, HW.out⟩
    · replace hk : k = 8 := hk
      subst hk
      simp [portsE, kindOf, kinds] at hI hO
      subst hI
      subst hO
      go_wp2_with fail
      go_ret3
      exact ⟨rfl, HW.out⟩
    · replace hk : k = 9 := hk
      subst hk
      simp [portsE, kindOf, kinds] at hI hO
      subst hI
      subst hO
      go_wp2_with fail
      go_ret3
      exact ⟨rfl, HW.out⟩
    · replace hk : k = 10 := hk
      subst hk
      simp [portsE, kindOf, kinds] at hI hO
      subst hI
      subst hO
      go_wp2_with fail
      go_ret3
      exact ⟨rfl, HW.out⟩
    · replace hk : k = 11 := hk
      subst hk
      simp [portsE, kindOf, kinds] at hI hO
      subst hI
      subst hO
      go_wp2_with fail
      go_ret3
      exact ⟨rfl, HW.out⟩
    · replace hk : k = 12 := hk
      subst hk
      simp [portsE, kindOf, kinds] at hI hO
      subst hI
      subst hO
      go_wp2_with fail
      go_ret3
      exact ⟨rfl, HW.out⟩
    · replace hk : k = 13 := hk
      subst hk
      simp [portsE, kindOf, kinds] at hI hO
      subst hI
      subst hO
      go_wp2_with fail
      go_ret3
      exact ⟨rfl, HW.out⟩
    · replace hk : k = 14 := hk
      subst hk
      simp [portsE, kindOf, kinds] at hI hO
      subst hI
      subst hO
      go_wp2_with fail
      go_ret3
      exact ⟨rfl, HW.out⟩
    · replace hk : k = 15 := hk
      subst hk
      simp [portsE, kindOf, kinds] at hI hO
      subst hI
      subst hO
      go_wp2_with fail
      go_quiet (fail)
      go_wp2_with fail
      go_ret3
      exact ⟨rfl, HW.out.trans ⟨rfl, rfl, rfl, Nat.le_refl _, fun _ _ => rfl⟩⟩
    · replace hk : k = 16 := hk
      subst hk
      simp [portsE, kindOf, kinds] at hI hO
      subst hI
      subst hO
      go_wp2_with fail
      go_quiet (fail)
      go_wp2_with fail
      go_ret3
      exact ⟨rfl, HW.out.trans ⟨rfl, rfl, rfl, Nat.le_refl _, fun _ _ => rfl⟩⟩
  · obtain ⟨hI, hO, -⟩ := ins_of (A := A) (B := B) (k := k) (n := n) (by rw [← HE.out]; exact h0)
    rw [← HI.out] at hI
    rw [← HO.out] at hO
    subst hI
    subst hO
    have g0 : (E != 0) = true := by simpa using h0
    go_wp2_with fail
    go_ret3
    exact ⟨rfl, HW.out⟩

end Go.Proofs.YthedfcdcocimbaaDoor.Pm
