/- For every parameters, streams and cuts, CountHolds returns true, and its arguments read behind the call as they read before. Conditions: the form's own; the table of kinds starts as the program's text lays it (the card ties it). -/
import Derived.Test.YtlflhjgfegflfaaDoorWitness
import Derived.Test.YtlflhjgfegflfaaDoorCountHolds
namespace Go.Proofs.YtlflhjgfegflfaaDoor.countHolds
open Go.ChangeShapes Go.WideShapes Go.ChangeAt Go.RowKit Go.Deep

set_option maxRecDepth 100000 in
theorem contract (H : Type) (enc : TypeId × Value → H) (W : World) (base : Nat) (args : Array Value) (ds gs : List (DataW H)) (before : List MemPlace)
    (hval : ∀ (j : Nat) t v, Tryd.f5.params[j]? = some t → args[j]? = some v → Value.okWide Tryd.prog W .any base t v)
    (hW : DataW.Whole enc Tryd.prog Tryd.f5.params.toList Rows.countHoldsSpec.vars false W args.toList ds gs before) (hL : laidMetH Tryd.prog Rows.countHoldsRow.laid W) (hSh : W.ShapedOpen Tryd.prog) :
    Calls Tryd.prog 5 args W fun e W' => ∃ v, e = .returned v ∧ Rows.countHoldsSpec.post enc Tryd.prog Tryd.f5 false true false false W args v W' := by
  have hW' := hW
  obtain ⟨p, q, hA0, hV, rfl, hfz, hnd⟩ := hW
  have hA : DataW.TrodAll enc Tryd.prog W 0 (fun _ => true) true Tryd.f5.params.toList args.toList ds p := hA0
  rw [Tryd.params5] at hA hval
  obtain ⟨v0, v1, v2, d0, d1, d2, p0, p1, p2, rfl, rfl, rfl, h0, h1, h2⟩ := trodAll_three hA
  obtain ⟨rfl, rfl⟩ := trodVars_none hV
  clear hA0
  simp only [List.append_nil] at hW'
  obtain ⟨k, n, va, vb, A, B, e0, -, hn, hA, hB⟩ := Pm.open_par (hval 0 24 v0 rfl rfl) h0
  obtain ⟨a1, l1, c1, hv1⟩ := okWide_slice Tryd.underlying36 (hval 1 36 v1 rfl rfl)
  obtain ⟨a2, l2, c2, hv2⟩ := okWide_slice Tryd.underlying37 (hval 2 37 v2 rfl rfl)
  obtain ⟨ins, hI⟩ := open_strms hv1 h1
  obtain ⟨cuts, hC⟩ := open_nums hv2 h2
  have hlt : ∀ x ∈ p0 ++ p1 ++ p2, x.block < W.heap.size := fun x hx => hW'.lt x hx
  letI : Inhabited TabBox := ⟨boxOf W⟩
  have hwalk := holdsLaw_any k n hn va vb v1 v2 A B ins cuts W (count_tab hL hSh) hA hB hI hC
  rw [← e0] at hwalk
  refine hwalk.mono fun e W' ⟨he, hb⟩ => ?_
  subst he
  refine ⟨_, rfl, ?_⟩
  have t0 := Below.trod Pm.Tryd.laidOut (by kernel_rfl) (of_decide_eq_true (by kernel_rfl)) h0 hb (fun x hx => hlt x (by simp [hx]))
  have t1 := Below.trod Pm.Tryd.laidOut (by kernel_rfl) (of_decide_eq_true (by kernel_rfl)) h1 hb (fun x hx => hlt x (by simp [hx]))
  have t2 := Below.trod Pm.Tryd.laidOut (by kernel_rfl) (of_decide_eq_true (by kernel_rfl)) h2 hb (fun x hx => hlt x (by simp [hx]))
  exact ⟨[d0, d1, d2], [], _, [], p0 ++ p1 ++ p2, [], hW', trodAll_mk1 (shut_bool Tryd.underlying4 true), (by rw [List.append_assoc]; exact trodAll_mk3 t0 t1 t2), rfl, hb.frame _, fun h => by cases h⟩

theorem laid_met (os : Os) : laidMet Tryd.prog Rows.countHoldsRow.laid ((laidWorld Rows.countHoldsRow.laid os).forCall (fun _ _ => 0) ⟨#[], #[noneV, .slice none 0 0, .slice none 0 0], []⟩).memory :=
  laidMet_of_run' 8 (by kernel_rfl) (by kernel_rfl)
set_option maxRecDepth 100000 in
theorem lifted (os : Os) (started : os.Started) (H : Type) (enc : TypeId × Value → H) (F : Stop.Interp) :
    ReturnsInHanded {} Tryd.checked os 5 .any ((OpenSpec.ofChange Rows.countHoldsSpec).preRow enc Tryd.prog Tryd.f5 Rows.countHoldsRow.domain false Rows.countHoldsRow.laid) (((OpenSpec.ofChange Rows.countHoldsSpec).at F).post enc Tryd.prog Tryd.f5 false true false false) := by
  have hx : DataW.whole enc Tryd.prog ((laidWorld Rows.countHoldsRow.laid os).forCall (fun _ _ => 0) ⟨#[], #[noneV, .slice none 0 0, .slice none 0 0], []⟩).memory Tryd.f5.params.toList Rows.countHoldsSpec.vars false #[noneV, .slice none 0 0, .slice none 0 0].toList 8 = some ([noneD, .nil, .nil], [], []) := by kernel_rfl
  refine returnsInHanded_of_row (C := Tryd.checked) (s := OpenSpec.ofChange Rows.countHoldsSpec) Pm.Tryd.own started (by kernel_rfl) Tryd.func5
    (witness_row_at (enc := enc) (C := Tryd.checked) false (laidWorld Rows.countHoldsRow.laid os) #[noneV, .slice none 0 0, .slice none 0 0] rfl (by kernel_rfl) (by kernel_rfl) (by kernel_rfl)
      (OpenSpec.preRow_of_cond 8 hx (by kernel_rfl) (fun k hk => by cases hk) (by kernel_rfl) (laid_met os))) ?_
  intro W base args ds gs before hval hW _ _ _ hL hSh _
  exact contract H enc W base args ds gs before hval hW hL hSh

theorem said : Rows.CountHoldsSaid :=
  OpenClaim.holds_of_cond 5 Tryd.f5 rfl rfl rfl rfl rfl rfl rfl ⟨rfl, rfl, rfl, rfl, rfl⟩ rfl rfl rfl rfl rfl (by kernel_rfl) Tryd.func5 (by kernel_rfl)
    (of_decide_eq_true (by kernel_rfl)) (by unfold Func.isWrapper; first | (rw [if_pos (by decide +kernel)]; kernel_rfl) | (rw [if_neg (by decide +kernel)]; exact ⟨rfl, rfl⟩))
    (fun os started H enc _ F => by rw [OpenClaim.pre_eq_preRow]; exact lifted os started H enc F)

theorem plain (f : FuncId) (fn : Func) (hf : Tryd.pinned.checked.prog.funcNamed "penstock/penstocklaw10.CountHolds" = some f) (hfn : Tryd.pinned.checked.prog.funcs[f]? = some fn) :
    false = Tryd.pinned.checked.prog.looks [] ∧ ∀ (j : Nat) t, fn.params[j]? = some t → Tryd.pinned.checked.prog.wantsStandIn t = false := by
  obtain rfl : f = 5 := Option.some.inj ((show Tryd.prog.funcNamed "penstock/penstocklaw10.CountHolds" = some 5 by kernel_rfl).symm.trans hf) |>.symm
  obtain rfl : fn = Tryd.f5 := (Option.some.inj (Tryd.func5.symm.trans hfn)).symm
  refine ⟨by kernel_rfl, fun j t ht => ?_⟩
  rw [Tryd.params5] at ht
  have hm : t = 24 ∨ t = 36 ∨ t = 37 := by simpa using Array.mem_of_getElem? ht
  rcases hm with rfl | rfl | rfl
  · exact (show Tryd.prog.wantsStandIn 24 = false by kernel_rfl)
  · exact (show Tryd.prog.wantsStandIn 36 = false by kernel_rfl)
  · exact (show Tryd.prog.wantsStandIn 37 = false by kernel_rfl)

end Go.Proofs.YtlflhjgfegflfaaDoor.countHolds
namespace Go.Proofs.YtlflhjgfegflfaaDoor
/-- THE CARD. -/
theorem countHolds_card : Rows.CountHoldsCardSaid :=
  Claim7.holds_tied_plain_at .later [] _ _ _ _ countHolds.said (fun _ h => by cases h) (by kernel_rfl) (fun _ h => by cases h) countHolds_row_tie rfl ⟨rfl, rfl⟩ (by kernel_rfl) rfl countHolds.plain (by kernel_rfl)

#print axioms countHolds_card
end Go.Proofs.YtlflhjgfegflfaaDoor
