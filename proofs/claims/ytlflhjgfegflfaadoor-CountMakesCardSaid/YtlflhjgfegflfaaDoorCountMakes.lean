/- CountMakes's walk. -/
import Derived.Test.YtlflhjgfegflfaaDoorCountAwake
import Derived.Test.YtlflhjgfegflfaaDoorCountFit
import Derived.Test.YtlflhjgfegflfaaDoorPD
import Derived.Test.YtlflhjgfegflfaaDoorPB
import Derived.Test.YtlflhjgfegflfaaDoorCountHolds
import Derived.Outline
namespace Go.Proofs.YtlflhjgfegflfaaDoor
open Go.RowKit

theorem nil_strms (w : World) : IsStrms (· < w.heap.size) w (.slice none 0 0) [] := ⟨none, 0, rfl, fun j t h => by simp at h⟩
theorem nil_intss (w : World) : IsIntss (fun _ => True) w (.slice none 0 0) [] := ⟨none, 0, rfl, fun j t h => by simp at h⟩
theorem take_range {k n : Int} {A B : List UInt8} (h : takeE 9 k n A B = 0) : k = 9 ∧ 0 ≤ n ∧ countOk n.toNat A B := by
  unfold takeE at h
  by_cases hc : Pm.checkE k n A B = 0
  · rw [if_neg (by simpa using hc)] at h
    by_cases hk : k = 9
    · obtain ⟨q1, q2, -⟩ := count_fit hc hk
      exact ⟨hk, q1, q2⟩
    · rw [if_pos hk] at h
      cases h
  · rw [if_pos hc] at h
    exact absurd h hc

variable [Inhabited TabBox]
set_option maxRecDepth 100000 in
set_option maxHeartbeats 16000000 in
theorem makesLaw_any (k n : Int) (hn : Pm.Fits n) (va vb : Value) (A B : List UInt8) (w : World) (hT : TabP w) (hA : Pm.IsBytes w va A) (hB : Pm.IsBytes w vb B) :
    Calls Tryd.prog 3 #[Pm.parV k n va vb] w (Pm.Gives w (.bool true)) := by
  have HT := Lib.hid (show ∀ W, Below w.heap.size w W → TabP W from fun W hb => hT.below hb)
  have HA := Lib.hid (show ∀ W, Below w.heap.size w W → Pm.IsBytes W va A from fun W hb => hA.below hb)
  have HB := Lib.hid (show ∀ W, Below w.heap.size w W → Pm.IsBytes W vb B from fun W hb => hB.below hb)
  obtain ⟨H, hH⟩ : ∃ H, H = heavyB A B [] [] := ⟨_, rfl⟩
  obtain ⟨C, hC⟩ : ∃ C, C = Pm.checkE k n A B := ⟨_, rfl⟩
  have HH := Lib.hid hH
  have HC := Lib.hid hC
  clear hT hA hB hH hC
  unfold Pm.parV
  go_enter Tryd.func3, Tryd.ntmps3
  go_wp2_with fail
  have hbox : Below w.heap.size w (w.alloc (.cells #[.int .i64 k, .int .i64 n, va, vb] 24)) := (Below.refl _ _).alloc (Nat.le_refl _) _
  have hheavy := heavy_any k n va vb (.slice none 0 0) (.slice none 0 0) A B [] [] _ (HA.out _ hbox) (HB.out _ hbox) (nil_strms _) (nil_intss _) (by simp)
  unfold Pm.parV at hheavy
  refine hheavy.mono ?_
  clear hheavy
  rintro e w1 ⟨rfl, hb1⟩
  obtain ⟨c0, c1, c2, c3⟩ := box_cells (hb1.mono (by simp))
  have hb := hbox.trans (hb1.mono hbox.size)
  have HW := Lib.hid hb
  clear hbox hb1 hb
  rw [← HH.out]
  cases H with
  | true =>
    go_wp2_with fail
    refine (awake_true _ (HT.out _ HW.out)).mono ?_
    rintro e w2 ⟨rfl, hb2⟩
    go_wp2_with fail
    go_ret
    exact ⟨rfl, HW.out.trans (hb2.mono HW.out.size)⟩
  | false =>
    obtain ⟨sA, sB, -, -, -⟩ := heavy_no HH.out.symm
    have HBX := Lib.hid (show ∀ W, Below w1.heap.size w1 W → W.cell? ⟨w.heap.size, 0, none⟩ = some (.int .i64 k) ∧ W.cell? ⟨w.heap.size, 1, none⟩ = some (.int .i64 n) ∧ W.cell? ⟨w.heap.size, 2, none⟩ = some va ∧ W.cell? ⟨w.heap.size, 3, none⟩ = some vb from fun W hb => ⟨Pm.Below.cell hb c0, Pm.Below.cell hb c1, Pm.Below.cell hb c2, Pm.Below.cell hb c3⟩)
    go_wp2_with fail
    have hck := Pm.refCheck_any k n hn va vb A B w1 (HA.out _ HW.out) (HB.out _ HW.out) (by omega)
    rw [← HC.out] at hck
    unfold Pm.parV at hck
    refine hck.mono ?_
    clear hck
    rintro e w2 ⟨rfl, hb2⟩
    have HW2 := Lib.hid (HW.out.trans (hb2.mono HW.out.size))
    have HB2 := Lib.hid hb2
    clear hb2 c0 c1 c2 c3
    obtain ⟨c0, c1, c2, c3⟩ := HBX.out _ HB2.out
    have hcp := Pm.copy_any k n va vb A B w2 (HA.out _ HW2.out) (HB.out _ HW2.out) (by omega) (by omega)
    unfold Pm.parV at hcp
    have HCP := Lib.hid hcp
    clear hcp
    by_cases g1 : C = 0
    · by_cases g2 : k = 9
      · subst g1 g2
        have hE : takeE 9 9 n A B = 0 := by rw [takeE, ← HC.out, if_neg (by simp), if_neg (by simp)]
        obtain ⟨-, q1, q2⟩ := take_range hE
        obtain ⟨N, rfl⟩ : ∃ N : Nat, n = N := ⟨n.toNat, by omega⟩
        rw [Int.toNat_natCast] at q2
        have HQ2 := Lib.hid q2
        have HE := Lib.hid hE
        clear hE q2
        go_wp2_with fail
        refine HCP.out.mono ?_
        rintro e w3 ⟨xa, xb, rfl, hxa, hxb, hb3⟩
        obtain ⟨aa, ca, rfl, -⟩ := id hxa
        obtain ⟨ab, cb, rfl, -⟩ := id hxb
        have HXA := Lib.hid (show ∀ W, Below w3.heap.size w3 W → Pm.IsBytes W (.slice aa A.length ca) A from fun W hb => hxa.below hb)
        have HXB := Lib.hid (show ∀ W, Below w3.heap.size w3 W → Pm.IsBytes W (.slice ab B.length cb) B from fun W hb => hxb.below hb)
        have HW3 := Lib.hid (HW2.out.trans (hb3.mono HW2.out.size))
        have HB3 := Lib.hid (HB2.out.trans (hb3.mono HB2.out.size))
        clear hb3 hxa hxb c0 c1 c2 c3
        unfold Pm.parV
        go_wp2_with fail
        have hb4 : Below w3.heap.size w3 (w3.alloc (.cells #[.int .i64 9, .int .i64 N, .slice aa A.length ca, .slice ab B.length cb] 24)) := (Below.refl _ _).alloc (Nat.le_refl _) _
        have hnew := count_yes 9 N (.slice aa A.length ca) (.slice ab B.length cb) A B _ (HT.out _ (HW3.out.trans (hb4.mono HW3.out.size))) (HXA.out _ hb4) (HXB.out _ hb4) HE.out HQ2.out
        unfold Pm.parV at hnew
        refine hnew.mono ?_
        clear hnew
        rintro e w5 ⟨g, own, rfl, hR, hg, hb5⟩
        clear hR hg
        have HX4 := Lib.hid (show ∀ W, Below w5.heap.size w5 W → W.cell? ⟨w3.heap.size, 0, none⟩ = some (.int .i64 9) ∧ W.cell? ⟨w3.heap.size, 1, none⟩ = some (.int .i64 N) ∧ W.cell? ⟨w3.heap.size, 2, none⟩ = some (.slice aa A.length ca) ∧ W.cell? ⟨w3.heap.size, 3, none⟩ = some (.slice ab B.length cb) from fun W hb => box_cells (hb5.trans (hb.mono hb5.size)))
        have hb35 : Below w3.heap.size w3 w5 := hb4.trans (hb5.mono hb4.size)
        have HB35 := Lib.hid hb35
        have HW5 := Lib.hid (HW3.out.trans (hb35.mono HW3.out.size))
        clear hb4 hb5 hb35
        obtain ⟨c0, c1, c2, c3⟩ := HBX.out _ (HB3.out.trans (HB35.out.mono HB3.out.size))
        obtain ⟨x0, x1, x2, x3⟩ := HX4.out _ (Below.refl _ _)
        go_wp2_with fail
        have hsm := Pm.refSame_any 9 N (.slice aa A.length ca) (.slice ab B.length cb) A B 9 N va vb A B w5 (HXA.out _ HB35.out) (HXB.out _ HB35.out) (HA.out _ HW5.out) (HB.out _ HW5.out)
        rw [Pm.sameB_self] at hsm
        unfold Pm.parV at hsm
        refine hsm.mono ?_
        clear hsm
        rintro e w6 ⟨rfl, hb6⟩
        have HW6 := Lib.hid (HW5.out.trans (hb6.mono HW5.out.size))
        clear hb6 c0 c1 c2 c3 x0 x1 x2 x3
        go_wp2_with fail
        refine (awake_true _ (HT.out _ HW6.out)).mono ?_
        rintro e w7 ⟨rfl, hb7⟩
        go_wp2_with fail
        go_ret
        exact ⟨rfl, HW6.out.trans (hb7.mono HW6.out.size)⟩
      · have g3 : (k != 9) = true := by simpa using g2
        subst g1
        go_wp2_with fail
        refine HCP.out.mono ?_
        rintro e w3 ⟨xa, xb, rfl, hxa, hxb, hb3⟩
        obtain ⟨aa, ca, rfl, -⟩ := id hxa
        obtain ⟨ab, cb, rfl, -⟩ := id hxb
        have HXA := Lib.hid (show ∀ W, Below w3.heap.size w3 W → Pm.IsBytes W (.slice aa A.length ca) A from fun W hb => hxa.below hb)
        have HXB := Lib.hid (show ∀ W, Below w3.heap.size w3 W → Pm.IsBytes W (.slice ab B.length cb) B from fun W hb => hxb.below hb)
        have HW3 := Lib.hid (HW2.out.trans (hb3.mono HW2.out.size))
        have HB3 := Lib.hid (HB2.out.trans (hb3.mono HB2.out.size))
        clear hb3 hxa hxb c0 c1 c2 c3
        unfold Pm.parV
        go_wp2_with fail
        have hb4 : Below w3.heap.size w3 (w3.alloc (.cells #[.int .i64 k, .int .i64 n, .slice aa A.length ca, .slice ab B.length cb] 24)) := (Below.refl _ _).alloc (Nat.le_refl _) _
        have hE : takeE 9 k n A B = 10 := by rw [takeE, ← HC.out, if_neg (by simp), if_pos g2]
        have hnew := count_no k n (.slice aa A.length ca) (.slice ab B.length cb) A B _ (HT.out _ (HW3.out.trans (hb4.mono HW3.out.size))) (HXA.out _ hb4) (HXB.out _ hb4) (by rw [hE]; decide)
        rw [hE] at hnew
        unfold Pm.parV at hnew
        refine hnew.mono ?_
        clear hnew
        rintro e w5 ⟨rfl, hb5⟩
        have HX4 := Lib.hid (show ∀ W, Below w5.heap.size w5 W → W.cell? ⟨w3.heap.size, 0, none⟩ = some (.int .i64 k) ∧ W.cell? ⟨w3.heap.size, 1, none⟩ = some (.int .i64 n) ∧ W.cell? ⟨w3.heap.size, 2, none⟩ = some (.slice aa A.length ca) ∧ W.cell? ⟨w3.heap.size, 3, none⟩ = some (.slice ab B.length cb) from fun W hb => box_cells (hb5.trans (hb.mono hb5.size)))
        have hb35 : Below w3.heap.size w3 w5 := hb4.trans (hb5.mono hb4.size)
        have HB35 := Lib.hid hb35
        have HW5 := Lib.hid (HW3.out.trans (hb35.mono HW3.out.size))
        clear hb4 hb5 hb35 hE
        obtain ⟨c0, c1, c2, c3⟩ := HBX.out _ (HB3.out.trans (HB35.out.mono HB3.out.size))
        obtain ⟨x0, x1, x2, x3⟩ := HX4.out _ (Below.refl _ _)
        go_wp2_with fail
        have hsm := Pm.refSame_any k n (.slice aa A.length ca) (.slice ab B.length cb) A B k n va vb A B w5 (HXA.out _ HB35.out) (HXB.out _ HB35.out) (HA.out _ HW5.out) (HB.out _ HW5.out)
        rw [Pm.sameB_self] at hsm
        unfold Pm.parV at hsm
        refine hsm.mono ?_
        clear hsm
        rintro e w6 ⟨rfl, hb6⟩
        have HW6 := Lib.hid (HW5.out.trans (hb6.mono HW5.out.size))
        clear hb6 c0 c1 c2 c3 x0 x1 x2 x3
        go_wp2_with fail
        refine (awake_true _ (HT.out _ HW6.out)).mono ?_
        rintro e w7 ⟨rfl, hb7⟩
        go_wp2_with fail
        go_ret
        exact ⟨rfl, HW6.out.trans (hb7.mono HW6.out.size)⟩
    · have g3 : (C == 0) = false := by simpa using g1
      go_wp2_with fail
      refine HCP.out.mono ?_
      rintro e w3 ⟨xa, xb, rfl, hxa, hxb, hb3⟩
      obtain ⟨aa, ca, rfl, -⟩ := id hxa
      obtain ⟨ab, cb, rfl, -⟩ := id hxb
      have HXA := Lib.hid (show ∀ W, Below w3.heap.size w3 W → Pm.IsBytes W (.slice aa A.length ca) A from fun W hb => hxa.below hb)
      have HXB := Lib.hid (show ∀ W, Below w3.heap.size w3 W → Pm.IsBytes W (.slice ab B.length cb) B from fun W hb => hxb.below hb)
      have HW3 := Lib.hid (HW2.out.trans (hb3.mono HW2.out.size))
      have HB3 := Lib.hid (HB2.out.trans (hb3.mono HB2.out.size))
      clear hb3 hxa hxb c0 c1 c2 c3
      unfold Pm.parV
      go_wp2_with fail
      have hb4 : Below w3.heap.size w3 (w3.alloc (.cells #[.int .i64 k, .int .i64 n, .slice aa A.length ca, .slice ab B.length cb] 24)) := (Below.refl _ _).alloc (Nat.le_refl _) _
      have hE : takeE 9 k n A B = C := by rw [takeE, ← HC.out, if_pos g1]
      have hnew := count_no k n (.slice aa A.length ca) (.slice ab B.length cb) A B _ (HT.out _ (HW3.out.trans (hb4.mono HW3.out.size))) (HXA.out _ hb4) (HXB.out _ hb4) (by rw [hE]; exact g1)
      rw [hE] at hnew
      unfold Pm.parV at hnew
      refine hnew.mono ?_
      clear hnew
      rintro e w5 ⟨rfl, hb5⟩
      have HX4 := Lib.hid (show ∀ W, Below w5.heap.size w5 W → W.cell? ⟨w3.heap.size, 0, none⟩ = some (.int .i64 k) ∧ W.cell? ⟨w3.heap.size, 1, none⟩ = some (.int .i64 n) ∧ W.cell? ⟨w3.heap.size, 2, none⟩ = some (.slice aa A.length ca) ∧ W.cell? ⟨w3.heap.size, 3, none⟩ = some (.slice ab B.length cb) from fun W hb => box_cells (hb5.trans (hb.mono hb5.size)))
      have hb35 : Below w3.heap.size w3 w5 := hb4.trans (hb5.mono hb4.size)
      have HB35 := Lib.hid hb35
      have HW5 := Lib.hid (HW3.out.trans (hb35.mono HW3.out.size))
      clear hb4 hb5 hb35 hE
      obtain ⟨c0, c1, c2, c3⟩ := HBX.out _ (HB3.out.trans (HB35.out.mono HB3.out.size))
      obtain ⟨x0, x1, x2, x3⟩ := HX4.out _ (Below.refl _ _)
      have g4 : (C != C) = false := by simp
      go_wp2_with fail
      have hsm := Pm.refSame_any k n (.slice aa A.length ca) (.slice ab B.length cb) A B k n va vb A B w5 (HXA.out _ HB35.out) (HXB.out _ HB35.out) (HA.out _ HW5.out) (HB.out _ HW5.out)
      rw [Pm.sameB_self] at hsm
      unfold Pm.parV at hsm
      refine hsm.mono ?_
      clear hsm
      rintro e w6 ⟨rfl, hb6⟩
      have HW6 := Lib.hid (HW5.out.trans (hb6.mono HW5.out.size))
      clear hb6 c0 c1 c2 c3 x0 x1 x2 x3
      go_wp2_with fail
      refine (awake_true _ (HT.out _ HW6.out)).mono ?_
      rintro e w7 ⟨rfl, hb7⟩
      go_wp2_with fail
      go_ret
      exact ⟨rfl, HW6.out.trans (hb7.mono HW6.out.size)⟩

end Go.Proofs.YtlflhjgfegflfaaDoor
