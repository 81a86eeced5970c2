/- For all arguments, SpoolSorts returns true, and its arguments read behind the call as they read before. Conditions: the form's own; the table of kinds starts as the program's text lays it (the card ties it). -/
import Derived.Test.YtpgigpajpcianaaGreatDoorWitness
import Derived.Test.YtpgigpajpcianaaGreatDoorOpen
import Derived.Test.YtpgigpajpcianaaGreatDoorSpSorts
namespace Go.Proofs.YtpgigpajpcianaaGreatDoor.spoolSorts
open Go.ChangeShapes Go.WideShapes Go.ChangeAt Go.RowKit Go.Deep

set_option maxRecDepth 100000 in
theorem contract (H : Type) (enc : TypeId × Value → H) (W : World) (base : Nat) (args : Array Value) (ds gs : List (DataW H)) (before : List MemPlace)
    (hval : ∀ (j : Nat) t v, Tryz.f7.params[j]? = some t → args[j]? = some v → Value.okWide Tryz.prog W .any base t v)
    (hW : DataW.Whole enc Tryz.prog Tryz.f7.params.toList Rows.spoolSortsSpec.vars false W args.toList ds gs before) (hL : laidMetH Tryz.prog Rows.spoolSortsRow.laid W) (hSh : W.ShapedOpen Tryz.prog) :
    Calls Tryz.prog 7 args W fun e W' => ∃ v, e = .returned v ∧ Rows.spoolSortsSpec.post enc Tryz.prog Tryz.f7 false true false false W args v W' := by
  have hW' := hW
  obtain ⟨p, q, hA0, hV, rfl, hfz, hnd⟩ := hW
  have hA : DataW.TrodAll enc Tryz.prog W 0 (fun _ => true) true Tryz.f7.params.toList args.toList ds p := hA0
  rw [Tryz.params7] at hA hval
  obtain ⟨v0, v1, v2, d0, d1, d2, p0, p1, p2, rfl, rfl, rfl, h0, h1, h2⟩ := trodAll_three hA
  obtain ⟨rfl, rfl⟩ := trodVars_none hV
  clear hA0
  simp only [List.append_nil] at hW'
  obtain ⟨k, n, va, vb, A, B, e0, -, hn, hA, hB⟩ := Pm.open_par (hval 0 24 v0 rfl rfl) h0
  obtain ⟨a1, l1, c1, hv1⟩ := okWide_slice Tryz.underlying22 (hval 1 22 v1 rfl rfl)
  obtain ⟨fu1, hf1⟩ := id h1
  obtain ⟨b1, hY1⟩ : ∃ b, Pm.IsBytes W v1 b := by
    subst hv1
    exact Pm.open_bytes (V := .slice a1 l1 c1) hf1
  obtain ⟨a2, l2, c2, hv2⟩ := okWide_slice Tryz.underlying38 (hval 2 38 v2 rfl rfl)
  obtain ⟨xs2, hX2⟩ := open_nums hv2 h2
  have hlt : ∀ x ∈ p0 ++ p1 ++ p2, x.block < W.heap.size := fun x hx => hW'.lt x hx
  have hwalk := spSortsLaw_any k n hn va vb v1 v2 A B b1 xs2 W (maxTab_of hL hSh) hA hB hY1.toP hX2
  rw [← e0] at hwalk
  refine hwalk.mono fun e W' ⟨he, hb⟩ => ?_
  subst he
  refine ⟨_, rfl, ?_⟩
  have t0 := Below.trod Pm.Tryz.laidOut (by kernel_rfl) (of_decide_eq_true (by kernel_rfl)) h0 hb (fun x hx => hlt x (by simp [hx]))
  have t1 := Below.trod Pm.Tryz.laidOut (by kernel_rfl) (of_decide_eq_true (by kernel_rfl)) h1 hb (fun x hx => hlt x (by simp [hx]))
  have t2 := Below.trod Pm.Tryz.laidOut (by kernel_rfl) (of_decide_eq_true (by kernel_rfl)) h2 hb (fun x hx => hlt x (by simp [hx]))
  exact ⟨[d0, d1, d2], [], _, [], p0 ++ p1 ++ p2, [], hW', trodAll_mk1 (shut_bool Tryz.underlying4 true), (by rw [List.append_assoc]; exact trodAll_mk3 t0 t1 t2), rfl, hb.frame _, fun h => by cases h⟩

theorem laid_met (os : Os) : laidMet Tryz.prog Rows.spoolSortsRow.laid ((laidWorld Rows.spoolSortsRow.laid os).forCall (fun _ _ => 0) ⟨#[], #[noneV, .slice none 0 0, .slice none 0 0], []⟩).memory :=
  laidMet_of_run' 8 (by kernel_rfl) (by kernel_rfl)
set_option maxRecDepth 100000 in
theorem lifted (os : Os) (started : os.Started) (H : Type) (enc : TypeId × Value → H) (F : Stop.Interp) :
    ReturnsInHanded {} Tryz.checked os 7 .any ((OpenSpec.ofChange Rows.spoolSortsSpec).preRow enc Tryz.prog Tryz.f7 Rows.spoolSortsRow.domain false Rows.spoolSortsRow.laid) (((OpenSpec.ofChange Rows.spoolSortsSpec).at F).post enc Tryz.prog Tryz.f7 false true false false) := by
  have hx : DataW.whole enc Tryz.prog ((laidWorld Rows.spoolSortsRow.laid os).forCall (fun _ _ => 0) ⟨#[], #[noneV, .slice none 0 0, .slice none 0 0], []⟩).memory Tryz.f7.params.toList Rows.spoolSortsSpec.vars false (#[noneV, .slice none 0 0, .slice none 0 0] : Array Value).toList 8 = some ([noneD, .nil, .nil], [], []) := by kernel_rfl
  refine returnsInHanded_of_row (C := Tryz.checked) (s := OpenSpec.ofChange Rows.spoolSortsSpec) Pm.Tryz.own started (by kernel_rfl) Tryz.func7
    (witness_row_at (enc := enc) (C := Tryz.checked) false (laidWorld Rows.spoolSortsRow.laid os) #[noneV, .slice none 0 0, .slice none 0 0] rfl (by kernel_rfl) (by kernel_rfl) (by kernel_rfl)
      (OpenSpec.preRow_of_cond 8 hx (by kernel_rfl) (fun k hk => by cases hk) (by kernel_rfl) (laid_met os))) ?_
  intro W base args ds gs before hval hW _ _ _ hL hSh _
  exact contract H enc W base args ds gs before hval hW hL hSh

theorem said : Rows.SpoolSortsSaid :=
  OpenClaim.holds_of_cond 7 Tryz.f7 rfl rfl rfl rfl rfl rfl rfl ⟨rfl, rfl, rfl, rfl, rfl⟩ rfl rfl rfl rfl rfl (by kernel_rfl) Tryz.func7 (by kernel_rfl)
    (of_decide_eq_true (by kernel_rfl)) (by unfold Func.isWrapper; first | (rw [if_pos (by decide +kernel)]; kernel_rfl) | (rw [if_neg (by decide +kernel)]; exact ⟨rfl, rfl⟩))
    (fun os started H enc _ F => by rw [OpenClaim.pre_eq_preRow]; exact lifted os started H enc F)

theorem plain (f : FuncId) (fn : Func) (hf : Tryz.pinned.checked.prog.funcNamed "penstock/penstocklaw18.SpoolSorts" = some f) (hfn : Tryz.pinned.checked.prog.funcs[f]? = some fn) :
    false = Tryz.pinned.checked.prog.looks [] ∧ ∀ (j : Nat) t, fn.params[j]? = some t → Tryz.pinned.checked.prog.wantsStandIn t = false := by
  obtain rfl : f = 7 := Option.some.inj ((show Tryz.prog.funcNamed "penstock/penstocklaw18.SpoolSorts" = some 7 by kernel_rfl).symm.trans hf) |>.symm
  obtain rfl : fn = Tryz.f7 := (Option.some.inj (Tryz.func7.symm.trans hfn)).symm
  refine ⟨by kernel_rfl, fun j t ht => ?_⟩
  rw [Tryz.params7] at ht
  have hm : t = 24 ∨ t = 22 ∨ t = 38 := by simpa using Array.mem_of_getElem? ht
  rcases hm with rfl | rfl | rfl
  · exact (show Tryz.prog.wantsStandIn 24 = false by kernel_rfl)
  · exact (show Tryz.prog.wantsStandIn 22 = false by kernel_rfl)
  · exact (show Tryz.prog.wantsStandIn 38 = false by kernel_rfl)

end Go.Proofs.YtpgigpajpcianaaGreatDoor.spoolSorts
namespace Go.Proofs.YtpgigpajpcianaaGreatDoor
/-- THE CARD. -/
theorem spoolSorts_card : Rows.SpoolSortsCardSaid :=
  Claim7.holds_tied_plain_at .later [] _ _ _ _ spoolSorts.said (fun _ h => by cases h) (by kernel_rfl) (fun _ h => by cases h) spoolSorts_row_tie rfl ⟨rfl, rfl⟩ (by kernel_rfl) rfl spoolSorts.plain (by kernel_rfl)

#print axioms spoolSorts_card
end Go.Proofs.YtpgigpajpcianaaGreatDoor
