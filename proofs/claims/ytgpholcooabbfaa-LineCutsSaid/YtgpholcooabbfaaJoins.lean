/- For every list of texts, LineJoins returns true, and its argument reads behind the call as it read before. No conditions beyond the form's own. -/
import Derived.Test.YtgpholcooabbfaaOpen
import Derived.Deep.RegionWith
namespace Go.Proofs.Ytgpholcooabbfaa
open Go.ChangeShapes Go.WideShapes Go.ChangeAt Go.RowKit Go.Deep

theorem owns_below {W W' : World} {base : Nat} {e : TypeId} {size : Nat} {v : Value} {n : Nat} {xs : List Value} (h : W.ownsRow base e size v n xs) (hb : Below W.heap.size W W') : W'.ownsRow base e size v n xs :=
  (Below.toFrame hb (fun _ => False)).owns h (fun _ _ h => h)

theorem joinL_small : ∀ (L : Lines), (∀ x ∈ L, x.length ≤ 4096) → (joinL L).length ≤ 4097 * L.length
  | [], _ => by simp [joinL]
  | b :: r, h => by
    have h1 := joinL_small r (fun x hx => h x (by simp [hx]))
    have h2 := h b (by simp)
    have e : joinL (b :: r) = (b ++ [10]) ++ joinL r := by simp [joinL]
    rw [e]
    simp only [List.length_append, List.length_cons, List.length_nil]
    omega

set_option maxRecDepth 100000 in
set_option maxHeartbeats 4000000 in
theorem joins_any (v : Value) (L : Lines) (w : World) (hT : IsTexts (fun _ => True) w v L) : Calls Try.prog 4 #[v] w (TrueBelow w) := by
  have HT := Lib.hid (show ∀ W, Below w.heap.size w W → IsTexts (fun _ => True) W v L from fun W hb => hT.below hb)
  obtain ⟨a, cap, rfl, hc⟩ := hT
  have HC := Lib.hid hc
  clear hc
  by_cases hbig : (1000 : Int) < (L.length : Int)
  · go_enter Try.func4, Try.ntmps4
    go_wp2_with fail
    refine (awake_true _).mono ?_
    rintro e w' ⟨rfl, hb⟩
    go_wp2_with fail
    go_ret
    exact ⟨rfl, hb⟩
  go_enter Try.func4, Try.ntmps4
  go_wp2
  go_loop [3] (fun i => ∃ k : Nat, k ≤ L.length ∧ i = .int .i64 k ∧ ∀ x ∈ L.take k, x.length ≤ 4096) (fun i => L.length - (intOf i).toNat)
  case atStart => exact ⟨0, Nat.zero_le _, rfl, fun x hx => by simp at hx⟩
  case round =>
    obtain ⟨k, hk, rfl, hsm⟩ := hrel
    by_cases hlt : k < L.length
    · obtain ⟨b, hb⟩ : ∃ b, L[k]? = some b := ⟨L[k], by simp⟩
      obtain ⟨gb, off, rfl, -, hx⟩ := HC.out k b hb
      obtain ⟨S, hS⟩ : ∃ S : ByteArray, strV b = .string S := ⟨_, rfl⟩
      have hSz := (strCells_eq hS).2
      rw [hS] at hx
      have HB := Lib.hid hb
      have HSM := Lib.hid hsm
      have g1 : (0 : Int) ≤ (k : Int) := by omega
      have g2 : (k : Int) < (L.length : Int) := by omega
      clear hb hS hsm
      by_cases h4 : (4096 : Int) < (S.size : Int)
      · go_wp2_with fail
        refine (awake_true _).mono ?_
        rintro e w' ⟨rfl, hb⟩
        go_wp2_with fail
        go_ret
        exact ⟨rfl, hb⟩
      · go_wp2
        go_round
        case rel =>
          refine ⟨k + 1, by omega, by go_num, fun x hx => ?_⟩
          obtain ⟨hk', e⟩ := List.getElem?_eq_some_iff.1 HB.out
          rw [List.take_succ_eq_append_getElem hk', List.mem_append] at hx
          rcases hx with hx | hx
          · exact HSM.out x hx
          · rw [List.mem_singleton] at hx
            rw [hx, e]
            omega
        case measure => simp [intOf]; omega
    · obtain rfl : k = L.length := by omega
      have g2 : ¬ (L.length : Int) < (L.length : Int) := by omega
      rw [List.take_length] at hsm
      have hsz := joinL_small L hsm
      obtain ⟨S, hS⟩ : ∃ S : ByteArray, strV (joinL L) = .string S := ⟨_, rfl⟩
      have h1 : L.length ≤ 1000000 := by omega
      have h2 : (joinL L).length ≤ 100000000 := by omega
      have HS := Lib.hid hS
      clear hsm hlt hS HC
      go_wp2_with fail
      have hw : Below w.heap.size w w.drew := (Below.refl _ _).drew
      go_region_with (first
        | (go_at_call 17; refine (join_any _ L _ (HT.out _ hw) h1 h2).mono ?_; rintro e w1 ⟨v1, rfl, ho1, hb1⟩; have k1 := conv_any (isBytes_of_owns ho1); rw [HS.out] at k1; (try (have k2 := conv_any (isBytes_of_owns (owns_below HO2.out hb1)); rw [HS.out] at k2)); have HO1 := Lib.hid ho1; have hw := hw.trans (hb1.mono hw.size); clear ho1 hb1)
        | (go_at_call 18; refine (refJoin_any _ L _ (HT.out _ hw) h1 h2).mono ?_; rintro e w1 ⟨v1, rfl, ho1, hb1⟩; have k2 := conv_any (isBytes_of_owns ho1); rw [HS.out] at k2; (try (have k1 := conv_any (isBytes_of_owns (owns_below HO1.out hb1)); rw [HS.out] at k1)); have HO2 := Lib.hid ho1; have hw := hw.trans (hb1.mono hw.size); clear ho1 hb1)
        | (go_at_call 9; refine (awake_true _).mono ?_; rintro e w1 ⟨rfl, hb1⟩; have hw := hw.trans (hb1.mono hw.size)))
      all_goals (go_wp2_with fail; go_ret; exact ⟨rfl, hw⟩)

set_option maxRecDepth 100000 in
theorem lineJoins_lifted (os : Os) (started : os.Started) (H : Type) (enc : TypeId × Value → H) :
    ReturnsInHanded {} Try.checked os 4 .any (Rows.lineJoinsSpec.pre6 enc Try.prog Try.f4 Rows.lineJoinsRow.domain false) (Rows.lineJoinsSpec.post enc Try.prog Try.f4 false true false false) := by
  refine returnsInHanded_of_change_sized (C := Try.checked) Try.own started (by kernel_rfl) Try.func4
    (ChangeSpec.witness6 (enc := enc) (C := Try.checked) false ⟨#[], #[.slice none 0 0], []⟩ 8 (by kernel_rfl) (by kernel_rfl) (by kernel_rfl) (by kernel_rfl)) ?_
  intro W base args ds gs before hval0 hW _ hsz0 _
  have hval : ∀ (j : Nat) t v, Try.f4.params[j]? = some t → args[j]? = some v → Value.okWide Try.prog W .any base t v := hval0
  have hW' := hW
  obtain ⟨p, q, hA0, hV, rfl, hfz, hnd⟩ := hW
  have hA : DataW.TrodAll enc Try.prog W 0 (fun _ => true) true Try.f4.params.toList args.toList ds p := hA0
  rw [Try.params4] at hA hval
  obtain ⟨v0, d0, rfl, rfl, h0⟩ := trodAll_one hA
  obtain ⟨rfl, rfl⟩ := trodVars_none hV
  obtain ⟨a1, l1, c1, hv1⟩ := okWide_slice Try.underlying36 (hval 0 36 v0 rfl rfl)
  clear hA0 hval0 hsz0
  simp only [List.append_nil] at hW'
  obtain ⟨L, hL⟩ := open_texts hv1 h0
  have hlt : ∀ x ∈ p, x.block < W.heap.size := fun x hx => hW'.lt x hx
  have hL' : IsTexts (fun _ => True) W v0 L := by
    obtain ⟨a, cap, e, hc⟩ := hL
    exact ⟨a, cap, e, fun j b hj => by obtain ⟨gb, off, h1, _, h2⟩ := hc j b hj; exact ⟨gb, off, h1, trivial, h2⟩⟩
  refine (joins_any v0 L W hL').mono fun e W' ⟨he, hb⟩ => ?_
  subst he
  refine ⟨_, rfl, ?_⟩
  have t0 := Below.trod Try.laidOut (by kernel_rfl) (of_decide_eq_true (by kernel_rfl)) h0 hb (fun x hx => hlt x (by simp [hx]))
  refine ⟨[d0], [], _, [], p, [], hW', trodAll_mk1 (shut_bool Try.underlying4 true), trodAll_mk1 t0, rfl, hb.frame _, fun h => by cases h⟩

theorem lineJoins_holds : Rows.LineJoinsSaid :=
  OpenClaim.holds_of_wide 4 Try.f4 rfl rfl rfl rfl rfl rfl rfl ⟨rfl, rfl, rfl, rfl, rfl⟩ rfl rfl rfl rfl rfl (by kernel_rfl) Try.func4 (by kernel_rfl)
    (of_decide_eq_true (by kernel_rfl)) (by unfold Func.isWrapper; first | (rw [if_pos (by decide +kernel)]; kernel_rfl) | (rw [if_neg (by decide +kernel)]; exact ⟨rfl, rfl⟩))
    (fun os started H enc _ => lineJoins_lifted os started H enc)

#print axioms lineJoins_holds

end Go.Proofs.Ytgpholcooabbfaa
