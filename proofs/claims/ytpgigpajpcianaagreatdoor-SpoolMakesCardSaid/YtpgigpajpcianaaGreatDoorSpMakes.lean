/- SpoolMakes's walk. -/
import Derived.Test.YtpgigpajpcianaaGreatDoorSpHolds
import Derived.Test.YtpgigpajpcianaaGreatDoorPB
namespace Go.Proofs.YtpgigpajpcianaaGreatDoor
open Go.RowKit

theorem nil_strms (w : World) : IsStrms (· < w.heap.size) w (.slice none 0 0) [] := ⟨none, 0, rfl, fun j t h => by simp at h⟩
theorem nil_intss (w : World) : IsIntss (fun _ => True) w (.slice none 0 0) [] := ⟨none, 0, rfl, fun j t h => by simp at h⟩
set_option maxRecDepth 100000 in
set_option maxHeartbeats 16000000 in
theorem spMakesLaw_any (k n : Int) (hn : Pm.Fits n) (va vb : Value) (A B : List UInt8) (w : World) (hT : MaxTab w) (hA : Pm.IsBytes w va A) (hB : Pm.IsBytes w vb B) :
    Calls Tryz.prog 3 #[Pm.parV k n va vb] w (Pm.Gives w (.bool true)) := by
  have HT := Lib.hid (show ∀ W, Below w.heap.size w W → MaxTab W from fun W hb => hT.below hb)
  have HA := Lib.hid (show ∀ W, Below w.heap.size w W → Pm.IsBytes W va A from fun W hb => hA.below hb)
  have HB := Lib.hid (show ∀ W, Below w.heap.size w W → Pm.IsBytes W vb B from fun W hb => hB.below hb)
  obtain ⟨H, hH⟩ : ∃ H, H = heavyS A B [] [] [] := ⟨_, rfl⟩
  obtain ⟨C, hC⟩ : ∃ C, C = Pm.checkE k n A B := ⟨_, rfl⟩
  have HH := Lib.hid hH
  have HC := Lib.hid hC
  clear hT hA hB hH hC
  unfold Pm.parV
  go_enter Tryz.func3, Tryz.ntmps3
  go_wp2_with fail
  have hbox : Below w.heap.size w (w.alloc (.cells #[.int .i64 k, .int .i64 n, va, vb] 24)) := (Below.refl _ _).alloc (Nat.le_refl _) _
  have hheavy := heavySp_any k n va vb (.slice none 0 0) (.slice none 0 0) (.slice none 0 0) A B [] [] [] _ (HA.out _ hbox) (HB.out _ hbox) (nil_strms _) (script_nil _) (nil_intss _) (by simp)
  unfold Pm.parV at hheavy
  refine hheavy.mono ?_
  clear hheavy
  rintro e w1 ⟨rfl, hb1⟩
  obtain ⟨c0, c1, c2, c3⟩ := box_cells (hb1.mono (by simp))
  have hb := hbox.trans (hb1.mono hbox.size)
  have HW := Lib.hid hb
  clear hbox hb1 hb
  rw [← HH.out]
  cases H with
  | true =>
    go_wp2_with fail
    refine (awakeSp_true _ (HT.out _ HW.out)).mono ?_
    rintro e w2 ⟨rfl, hb2⟩
    go_wp2_with fail
    go_ret
    exact ⟨rfl, HW.out.trans (hb2.mono HW.out.size)⟩
  | false =>
    obtain ⟨sA, sB, -, -, -, -⟩ := heavyS_no HH.out.symm
    have HBX := Lib.hid (show ∀ W, Below w1.heap.size w1 W → W.cell? ⟨w.heap.size, 0, none⟩ = some (.int .i64 k) ∧ W.cell? ⟨w.heap.size, 1, none⟩ = some (.int .i64 n) ∧ W.cell? ⟨w.heap.size, 2, none⟩ = some va ∧ W.cell? ⟨w.heap.size, 3, none⟩ = some vb from fun W hb => ⟨Pm.Below.cell hb c0, Pm.Below.cell hb c1, Pm.Below.cell hb c2, Pm.Below.cell hb c3⟩)
    go_wp2_with fail
    have hck := Pm.refCheck_any k n hn va vb A B w1 (HA.out _ HW.out) (HB.out _ HW.out) (by omega)
    rw [← HC.out] at hck
    unfold Pm.parV at hck
    refine hck.mono ?_
    clear hck
    rintro e w2 ⟨rfl, hb2⟩
    have HW2 := Lib.hid (HW.out.trans (hb2.mono HW.out.size))
    have HB2 := Lib.hid hb2
    clear hb2 c0 c1 c2 c3
    obtain ⟨c0, c1, c2, c3⟩ := HBX.out _ HB2.out
    have hcp := Pm.copy_any k n va vb A B w2 (HA.out _ HW2.out) (HB.out _ HW2.out) (by omega) (by omega)
    unfold Pm.parV at hcp
    have HCP := Lib.hid hcp
    have HDk := Lib.hid (show ∀ W, Calls Tryz.prog 15 #[.slice none 0 0] W fun e w' => ∃ g own, e = .returned (.pointer (some ⟨g, 0, none⟩)) ∧ DiskAt W.heap.size g own [] dst0 w' ∧ Below W.heap.size W w' from fun W => new_any (.slice none 0 0) [] W (script_nil W) (by simp) (fun f hf => by cases hf))
    clear hcp
    by_cases g1 : C = 0
    · by_cases g2 : k = 11
      · subst g1 g2
        have hck0 : Pm.checkE 11 n A B = 0 := HC.out.symm
        obtain ⟨F, hF, hE, -⟩ := sortPar hck0 rfl
        have HE := Lib.hid hE
        have HF := Lib.hid hF
        clear hE hck0 hF
        go_wp2_with fail
        refine HCP.out.mono ?_
        rintro e w3 ⟨xa, xb, rfl, hxa, hxb, hb3⟩
        have HXA := Lib.hid (show ∀ W, Below w3.heap.size w3 W → Pm.IsBytes W xa A from fun W hb => hxa.below hb)
        have HXB := Lib.hid (show ∀ W, Below w3.heap.size w3 W → Pm.IsBytes W xb B from fun W hb => hxb.below hb)
        obtain ⟨aa, ca, rfl, -⟩ := id hxa
        obtain ⟨ab, cb, rfl, -⟩ := id hxb
        have HW3 := Lib.hid (HW2.out.trans (hb3.mono HW2.out.size))
        have HB3 := Lib.hid (HB2.out.trans (hb3.mono HB2.out.size))
        clear hb3 hxa hxb c0 c1 c2 c3
        unfold Pm.parV
        go_wp2_with fail
        refine (HDk.out w3).mono ?_
        rintro e w4 ⟨gd, ownD, rfl, hd4, hb4⟩
        have hw4 := HW3.out.trans (hb4.mono HW3.out.size)
        have HB4 := Lib.hid (HB3.out.trans (hb4.mono HB3.out.size))
        have hsn := spoolNew_yes 11 F (.slice aa A.length ca) (.slice ab B.length cb) A B w4 (HT.out _ hw4).1 (HT.out _ hw4).2 (HXA.out _ hb4) (HXB.out _ hb4) (by rw [← HF.out]; exact HE.out) hd4 (by have h1 := (HT.out _ (Below.refl _ _)).2.lt; have h2 := HW3.out.size; exact Nat.lt_of_lt_of_le h1 h2) hb4.size
        rw [← HF.out] at hsn
        unfold Pm.parV ptrV at hsn
        have HSN := Lib.hid hsn
        have HW4 := Lib.hid hw4
        clear hsn hd4 hb4 hw4
        go_wp2_with fail
        refine HSN.out.mono ?_
        rintro e w5 ⟨h, g, rfl, -, -, -, -, -, hb5⟩
        have HW5 := Lib.hid (HW4.out.trans (hb5.mono HW4.out.size))
        obtain ⟨c0, c1, c2, c3⟩ := HBX.out _ (HB4.out.trans (hb5.mono HB4.out.size))
        clear hb5 HSN
        go_wp2_with fail
        have hnn := spoolNew_nil 11 n va vb A B w5 (HT.out _ HW5.out).1 (HA.out _ HW5.out) (HB.out _ HW5.out) HE.out
        unfold Pm.parV at hnn
        refine hnn.mono ?_
        clear hnn
        rintro e w6 ⟨rfl, hb6⟩
        have HW6 := Lib.hid (HW5.out.trans (hb6.mono HW5.out.size))
        clear hb6 c0 c1 c2 c3
        go_wp2_with fail
        refine (awakeSp_true _ (HT.out _ HW6.out)).mono ?_
        rintro e w7 ⟨rfl, hb7⟩
        go_wp2_with fail
        go_ret
        exact ⟨rfl, HW6.out.trans (hb7.mono HW6.out.size)⟩
      · have g3 : (k != 11) = true := by simpa using g2
        subst g1
        have hE : takeE 11 k n A B = 10 := by rw [takeE, ← HC.out, if_neg (by simp), if_pos g2]
        have HE := Lib.hid hE
        clear hE g2
        go_wp2_with fail
        refine HCP.out.mono ?_
        rintro e w3 ⟨xa, xb, rfl, hxa, hxb, hb3⟩
        have HXA := Lib.hid (show ∀ W, Below w3.heap.size w3 W → Pm.IsBytes W xa A from fun W hb => hxa.below hb)
        have HXB := Lib.hid (show ∀ W, Below w3.heap.size w3 W → Pm.IsBytes W xb B from fun W hb => hxb.below hb)
        obtain ⟨aa, ca, rfl, -⟩ := id hxa
        obtain ⟨ab, cb, rfl, -⟩ := id hxb
        have HW3 := Lib.hid (HW2.out.trans (hb3.mono HW2.out.size))
        have HB3 := Lib.hid (HB2.out.trans (hb3.mono HB2.out.size))
        clear hb3 hxa hxb c0 c1 c2 c3
        unfold Pm.parV
        go_wp2_with fail
        refine (HDk.out w3).mono ?_
        rintro e w4 ⟨gd, ownD, rfl, -, hb4⟩
        have hw4 := HW3.out.trans (hb4.mono HW3.out.size)
        have HB4 := Lib.hid (HB3.out.trans (hb4.mono HB3.out.size))
        have hsn := spoolNew_no k n (.slice aa A.length ca) (.slice ab B.length cb) A B (.pointer (some ⟨gd, 0, none⟩)) w4 (HT.out _ hw4).1 (HXA.out _ hb4) (HXB.out _ hb4) (by rw [HE.out]; decide)
        rw [HE.out] at hsn
        unfold Pm.parV at hsn
        have HSN := Lib.hid hsn
        have HW4 := Lib.hid hw4
        clear hsn hb4 hw4
        go_wp2_with fail
        refine HSN.out.mono ?_
        rintro e w5 ⟨rfl, hb5⟩
        have HW5 := Lib.hid (HW4.out.trans (hb5.mono HW4.out.size))
        obtain ⟨c0, c1, c2, c3⟩ := HBX.out _ (HB4.out.trans (hb5.mono HB4.out.size))
        clear hb5 HSN
        go_wp2_with fail
        have hnn := spoolNew_no k n va vb A B (.pointer none) w5 (HT.out _ HW5.out).1 (HA.out _ HW5.out) (HB.out _ HW5.out) (by rw [HE.out]; decide)
        rw [HE.out] at hnn
        unfold Pm.parV at hnn
        refine hnn.mono ?_
        clear hnn
        rintro e w6 ⟨rfl, hb6⟩
        have HW6 := Lib.hid (HW5.out.trans (hb6.mono HW5.out.size))
        clear hb6 c0 c1 c2 c3
        go_wp2_with fail
        refine (awakeSp_true _ (HT.out _ HW6.out)).mono ?_
        rintro e w7 ⟨rfl, hb7⟩
        go_wp2_with fail
        go_ret
        exact ⟨rfl, HW6.out.trans (hb7.mono HW6.out.size)⟩
    · have g3 : (C == 0) = false := by simpa using g1
      have g4 : (C != C) = false := by simp
      have g5 : (C == C) = true := by simp
      have hE : takeE 11 k n A B = C := by rw [takeE, ← HC.out, if_pos g1]
      have HE := Lib.hid hE
      have HG1 := Lib.hid g1
      clear hE g1
      go_wp2_with fail
      refine HCP.out.mono ?_
      rintro e w3 ⟨xa, xb, rfl, hxa, hxb, hb3⟩
      have HXA := Lib.hid (show ∀ W, Below w3.heap.size w3 W → Pm.IsBytes W xa A from fun W hb => hxa.below hb)
      have HXB := Lib.hid (show ∀ W, Below w3.heap.size w3 W → Pm.IsBytes W xb B from fun W hb => hxb.below hb)
      obtain ⟨aa, ca, rfl, -⟩ := id hxa
      obtain ⟨ab, cb, rfl, -⟩ := id hxb
      have HW3 := Lib.hid (HW2.out.trans (hb3.mono HW2.out.size))
      have HB3 := Lib.hid (HB2.out.trans (hb3.mono HB2.out.size))
      clear hb3 hxa hxb c0 c1 c2 c3
      unfold Pm.parV
      go_wp2_with fail
      refine (HDk.out w3).mono ?_
      rintro e w4 ⟨gd, ownD, rfl, -, hb4⟩
      have hw4 := HW3.out.trans (hb4.mono HW3.out.size)
      have HB4 := Lib.hid (HB3.out.trans (hb4.mono HB3.out.size))
      have hsn := spoolNew_no k n (.slice aa A.length ca) (.slice ab B.length cb) A B (.pointer (some ⟨gd, 0, none⟩)) w4 (HT.out _ hw4).1 (HXA.out _ hb4) (HXB.out _ hb4) (by rw [HE.out]; exact HG1.out)
      rw [HE.out] at hsn
      unfold Pm.parV at hsn
      have HSN := Lib.hid hsn
      have HW4 := Lib.hid hw4
      clear hsn hb4 hw4
      go_wp2_with fail
      refine HSN.out.mono ?_
      rintro e w5 ⟨rfl, hb5⟩
      have HW5 := Lib.hid (HW4.out.trans (hb5.mono HW4.out.size))
      obtain ⟨c0, c1, c2, c3⟩ := HBX.out _ (HB4.out.trans (hb5.mono HB4.out.size))
      clear hb5 HSN
      go_wp2_with fail
      have hnn := spoolNew_no k n va vb A B (.pointer none) w5 (HT.out _ HW5.out).1 (HA.out _ HW5.out) (HB.out _ HW5.out) (by rw [HE.out]; exact HG1.out)
      rw [HE.out] at hnn
      unfold Pm.parV at hnn
      refine hnn.mono ?_
      clear hnn
      rintro e w6 ⟨rfl, hb6⟩
      have HW6 := Lib.hid (HW5.out.trans (hb6.mono HW5.out.size))
      clear hb6 c0 c1 c2 c3
      go_wp2_with fail
      refine (awakeSp_true _ (HT.out _ HW6.out)).mono ?_
      rintro e w7 ⟨rfl, hb7⟩
      go_wp2_with fail
      go_ret
      exact ⟨rfl, HW6.out.trans (hb7.mono HW6.out.size)⟩

end Go.Proofs.YtpgigpajpcianaaGreatDoor
