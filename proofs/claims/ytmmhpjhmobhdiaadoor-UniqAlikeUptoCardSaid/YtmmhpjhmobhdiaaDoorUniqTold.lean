/- What told does, of one input. -/
import Derived.Test.YtmmhpjhmobhdiaaDoorUniqAwake
import Derived.Test.YtmmhpjhmobhdiaaDoorGopen
import Derived.Test.YtmmhpjhmobhdiaaDoorPB
import Derived.Outline
import Derived.Test.YtmmhpjhmobhdiaaDoorRA
namespace Go.Proofs.YtmmhpjhmobhdiaaDoor
open Go.RowKit

/-- The call answers what the machine came to, and whether it has ended. -/
def ToldOf (w : World) (g : GotL) (e : Ending) (w' : World) : Prop := e = .returned (.tuple #[.agg (gotA g), .bool (decide (g.err = 0) && decide (g.need = -1))]) ∧ Below w.heap.size w w'

theorem ret_told {fn : Func} {p q : Tmp} (hr : fn.results = #[.cell p 42, .tmp q]) {a : Act} {w : World} {R : Ending → World → Prop} {B : Nat} {cs : Array Value} {b : Value} (hcs : cs.size = 12)
    (hd : a.defers = []) (hp : a.tmps.getD p undef = .pointer (some ⟨B, 0, none⟩)) (hq : a.tmps.getD q undef = b) (hg : w.heap[B]? = some (.cells cs 42 (0, 0))) (h : R (.returned (.tuple #[.agg cs, b])) w) : bodyPost Tryd.prog fn R .ret a w := by
  refine bodyPost_ret (v := .tuple #[.agg cs, b]) ?_ hd h
  have hp' : a.tmps[p]?.getD undef = .pointer (some ⟨B, 0, none⟩) := by simpa using hp
  have hq' : a.tmps[q]?.getD undef = b := by simpa using hq
  have hl := run_loadVar_row (P := Tryd.prog) w B 42 42 cs (0, 0) _ hg Tryd.underlying42 rfl (by rw [Tryd.size_got, hcs])
  simp [results, hr, hp', hq', asAddr, hl]

set_option maxRecDepth 100000 in
set_option maxHeartbeats 16000000 in
theorem told_any (N : Nat) (va vb cv iv : Value) (A B : List UInt8) (x : List UInt8) (cuts : List Int) (w : World) (hT : TenTab w) (hA : Pm.IsBytes w va A) (hB : Pm.IsBytes w vb B) (hI : IsPieces (· < w.heap.size) w iv [x]) (hC : IsInts (· < w.heap.size) w cv cuts) (hE : takeE 8 8 N A B = 0) (hok : uniqOk N A B)
    (sA : A.length ≤ 1000) (sB : B.length ≤ 1000) (hx : x.length ≤ 2000) (hcl : cuts.length ≤ 3000) :
    Calls Tryd.prog 25 #[Pm.parV 8 N va vb, cv, iv] w (ToldOf w (drive (uniqF N A B) [⟨x, true, 0, 0, 0⟩] cuts 100000 0 (start (uniqF N A B) (uniqI N A B))).got) := by
  obtain ⟨D, hD⟩ : ∃ D, D = drive (uniqF N A B) [⟨x, true, 0, 0, 0⟩] cuts 100000 0 (start (uniqF N A B) (uniqI N A B)) := ⟨_, rfl⟩
  rw [← hD]
  have HD := Lib.hid hD
  clear hD
  have HT := Lib.hid (show ∀ W, Below w.heap.size w W → TenTab W from fun W hb => hT.below hb)
  have HA := Lib.hid (show ∀ W, Below w.heap.size w W → Pm.IsBytes W va A from fun W hb => hA.below hb)
  have HB := Lib.hid (show ∀ W, Below w.heap.size w W → Pm.IsBytes W vb B from fun W hb => hB.below hb)
  have HC := Lib.hid (show ∀ W, Below w.heap.size w W → IsInts (· < w.heap.size) W cv cuts from fun W hb => hC.below hb)
  have HTk := Lib.hid hE
  have HOk := Lib.hid hok
  obtain ⟨ac, cc, rfl, -⟩ := id hC
  clear hT hA hB hC hE hok
  obtain ⟨_, _, e, hcs⟩ := hI
  subst e
  obtain ⟨gb, off, bv, rfl, -, c0, hbytes⟩ := hcs 0 x rfl
  simp only [Nat.add_zero] at c0
  obtain ⟨ax, cx, rfl, -, -⟩ := id hbytes
  have hb0 : Below w.heap.size w (w.alloc (.cells #[.int .i64 8, .int .i64 N, va, vb] 24)) := (Below.refl _ _).alloc (Nat.le_refl _) _
  unfold Pm.parV
  simp only [List.length_cons, List.length_nil, Nat.zero_add]
  go_enter Tryd.func25, Tryd.ntmps25
  go_wp2_with fail
  refine wp_loop_rounds 2 ?_
  rw [rounds_succ]
  go_upto_region 5 with fail
  have hg1 := heap_alloc_last (w.alloc (.cells #[.int .i64 8, .int .i64 N, va, vb] 24)) (.cells #[.string { data := #[] }, .string { data := #[] }, .string { data := #[] }, .string { data := #[] }, .int .i64 0, .int .i64 0, .int .i64 0, .int .i64 0, .int .i64 0, .int .i64 0, .int .i64 0, .bool false] 42)
  rw [World.size_alloc] at hg1
  have hb1 : Below w.heap.size w ((w.alloc (.cells #[.int .i64 8, .int .i64 N, va, vb] 24)).alloc (.cells #[.string { data := #[] }, .string { data := #[] }, .string { data := #[] }, .string { data := #[] }, .int .i64 0, .int .i64 0, .int .i64 0, .int .i64 0, .int .i64 0, .int .i64 0, .int .i64 0, .bool false] 42)) := hb0.alloc (by simp) _
  have hbx := box_cells (k := 8) (n := N) (va := va) (vb := vb) ((Below.refl (w.alloc (.cells #[.int .i64 8, .int .i64 N, va, vb] 24)).heap.size (w.alloc (.cells #[.int .i64 8, .int .i64 N, va, vb] 24))).alloc (Nat.le_refl _) (.cells #[.string { data := #[] }, .string { data := #[] }, .string { data := #[] }, .string { data := #[] }, .int .i64 0, .int .i64 0, .int .i64 0, .int .i64 0, .int .i64 0, .int .i64 0, .int .i64 0, .bool false] 42))
  have hs1 : ((w.alloc (.cells #[.int .i64 8, .int .i64 N, va, vb] 24)).alloc (.cells #[.string { data := #[] }, .string { data := #[] }, .string { data := #[] }, .string { data := #[] }, .int .i64 0, .int .i64 0, .int .i64 0, .int .i64 0, .int .i64 0, .int .i64 0, .int .i64 0, .bool false] 42)).heap.size = w.heap.size + 2 := by simp
  generalize (w.alloc (.cells #[.int .i64 8, .int .i64 N, va, vb] 24)).alloc (.cells #[.string { data := #[] }, .string { data := #[] }, .string { data := #[] }, .string { data := #[] }, .int .i64 0, .int .i64 0, .int .i64 0, .int .i64 0, .int .i64 0, .int .i64 0, .int .i64 0, .bool false] 42) = W at hg1 hb1 hbx hs1 ⊢
  obtain ⟨c0', c1, c2, c3⟩ := hbx
  have k0 := Pm.Below.cell hb1 c0
  clear c0 hcs hb0
  go_wp2_with fail
  have key : ∀ o1 o2 : Obj, ((W.alloc o1).alloc o2).drew.heap[w.heap.size + 2 + 1]? = some o2 ∧ Below W.heap.size W ((W.alloc o1).alloc o2).drew := fun o1 o2 => by
    refine ⟨?_, (((Below.refl _ _).alloc (Nat.le_refl _) _).alloc (by simp) _).drew⟩
    have := heap_alloc_last (W.alloc o1) o2
    rw [World.size_alloc, hs1] at this
    exact this
  generalize (Question.appendCap 1 0 61).cut (W.tape W.drawn (Question.appendCap 1 0 61)) = cap
  generalize Builtin.zeroCells #[.slice none 0 0, .bool false, .int .i64 0, .int .i64 0, .int .i64 0] (cap - 1) = zs
  obtain ⟨q1, q2⟩ := key (.cells (#[.slice ax x.length cx, .bool true, .int .i64 0, .int .i64 0, .int .i64 0]) 61) (.cells (#[.slice ax x.length cx, .bool true, .int .i64 0, .int .i64 0, .int .i64 0] ++ zs) 61)
  generalize ((W.alloc (.cells (#[.slice ax x.length cx, .bool true, .int .i64 0, .int .i64 0, .int .i64 0]) 61)).alloc (.cells (#[.slice ax x.length cx, .bool true, .int .i64 0, .int .i64 0, .int .i64 0] ++ zs) 61)).drew = W2 at q1 q2 ⊢
  have hlt2 := (Array.getElem?_eq_some_iff.1 q1).1
  have hbW2 : Below w.heap.size w W2 := hb1.trans (q2.mono hb1.size)
  have hst : IsStrms (· < W2.heap.size) W2 (.slice (some ⟨w.heap.size + 2 + 1, 0, none⟩) 1 cap) [⟨x, true, 0, 0, 0⟩] := by
    refine ⟨_, cap, rfl, fun j t hj => ?_⟩
    match j, hj with
    | 0, hj =>
      simp at hj
      subst hj
      refine ⟨w.heap.size + 2 + 1, 0, .slice ax x.length cx, rfl, hlt2, ?_, ?_, ?_, ?_, ?_, (hbytes.below hbW2).mono (fun k hk _ => hk)⟩
      all_goals
        rw [cell_of_row _ _ _ _ _ _ q1]; first | rfl | simp [Array.getElem?_append]
    | j + 1, hj => simp at hj
  have HSt := Lib.hid hst
  have HW2 := Lib.hid hbW2
  have hg2 := (q2.block (w.heap.size + 1) (by omega)).trans hg1
  have HG2 := Lib.hid hg2
  have HBX := Lib.hid (show ∀ W', Below W.heap.size W W' → W'.cell? ⟨w.heap.size, 0, none⟩ = some (.int .i64 8) ∧ W'.cell? ⟨w.heap.size, 1, none⟩ = some (.int .i64 N) ∧ W'.cell? ⟨w.heap.size, 2, none⟩ = some va ∧ W'.cell? ⟨w.heap.size, 3, none⟩ = some vb from fun W' hb => ⟨Pm.Below.cell hb c0', Pm.Below.cell hb c1, Pm.Below.cell hb c2, Pm.Below.cell hb c3⟩)
  have HWW := Lib.hid q2
  have hsz2 : w.heap.size + 4 ≤ W2.heap.size := by omega
  have HSz2 := Lib.hid hsz2
  clear hst hbW2 hg2 q1 hlt2 key k0 hg1 c0' c1 c2 c3 hbytes hb1 hsz2 hs1
  obtain ⟨c0, c1, c2, c3⟩ := HBX.out _ HWW.out
  clear q2
  rw [rounds_succ]
  have hcp := Pm.copy_any 8 N va vb A B W2 (HA.out _ HW2.out) (HB.out _ HW2.out) (by omega) (by omega)
  unfold Pm.parV at hcp
  have HCP := Lib.hid hcp
  clear hcp
  go_wp2_with fail
  refine HCP.out.mono ?_
  rintro e w3 ⟨xa, xb, rfl, hxa, hxb, hb3⟩
  obtain ⟨aa, ca, rfl, -⟩ := id hxa
  obtain ⟨ab, cb, rfl, -⟩ := id hxb
  have HXA := Lib.hid hxa
  have HXB := Lib.hid hxb
  have HW3 := Lib.hid (HW2.out.trans (hb3.mono HW2.out.size))
  have HB3 := Lib.hid hb3
  clear hb3 hxa hxb c0 c1 c2 c3
  unfold Pm.parV
  go_wp2_with fail
  have hnew := uniq_yes 8 N (.slice aa A.length ca) (.slice ab B.length cb) A B w3 (HT.out _ HW3.out) HXA.out HXB.out HTk.out HOk.out
  unfold Pm.parV at hnew
  refine hnew.mono ?_
  clear hnew
  rintro e w4 ⟨g, own, rfl, hR, hg, hb4⟩
  have HR := Lib.hid hR
  have HW4 := Lib.hid (HW3.out.trans (hb4.mono HW3.out.size))
  have HB4 := Lib.hid (HB3.out.trans (hb4.mono HB3.out.size))
  have HGw := Lib.hid (show ∀ k, own k → w3.heap.size ≤ k from fun k hk => hg k hk)
  clear hR hb4 hg
  go_wp2_with fail
  have hs3 := HW3.out.size
  have hs3' := HB3.out.size
  have hs2 := HSz2.out
  refine (driveUniq_any N A B g (uniqI N A B) own _ _ ⟨x, true, 0, 0, 0⟩ cuts w4 HR.out ((HSt.out.below HB4.out).mono (fun k _ h e => by have := HGw.out k e; omega)) ((HC.out _ HW4.out).mono (fun k _ h e => by have := HGw.out k e; omega)) (by omega) (by show x.length ≤ 1000000; omega)).mono ?_
  rintro e w5 ⟨rfl, -, hf5⟩
  rw [← HD.out]
  have hb5 : Below w.heap.size w w5 := Frame.belowO HW4.out (fun k hk => by have := HGw.out k hk; omega) HW4.out.size hf5
  have hg5 : w5.heap[w.heap.size + 1]? = some (.cells (gotA zeroG) 42 (0, 0)) := hf5.heap ((HB4.out.block (w.heap.size + 1) (by omega)).trans HG2.out) (fun e => by rcases e with e | e; (have := HGw.out _ e; omega); (have := HB4.out.size; omega))
  obtain ⟨S0, S1, S2, S3, -, -, -, -, hlit⟩ := got_lit D.got
  rw [hlit]
  have HLit := Lib.hid hlit
  have HB5 := Lib.hid hb5
  have HG5 := Lib.hid hg5
  have hsz5 := hb5.size
  have hne : w.heap.size + 1 < w5.heap.size := (Array.getElem?_eq_some_iff.1 hg5).1
  clear hf5 hlit hb5 hg5
  obtain ⟨er, her⟩ : ∃ er, er = D.got.err := ⟨_, rfl⟩
  obtain ⟨nd, hnd⟩ : ∃ nd, nd = D.got.need := ⟨_, rfl⟩
  have hone := one_gotA D.got
  rw [HLit.out, ← her, ← hnd] at hone
  have HOne := Lib.hid hone
  rw [← her, ← hnd]
  have HEr := Lib.hid her
  have HNd := Lib.hid hnd
  clear her hnd hone
  go_upto_region 10 with fail
  have hr6 := heap_alloc_last w5 (.cells #[.string S0, .string S1, .string S2, .string S3, .int .i64 nd, .int .i64 er, .int .i64 D.got.held, .int .i64 (D.got.taken 0), .int .i64 (D.got.taken 1), .int .i64 (D.got.taken 2), .int .i64 (D.got.taken 3), .bool false] 42)
  have hb6 : Below w5.heap.size w5 (w5.alloc (.cells #[.string S0, .string S1, .string S2, .string S3, .int .i64 nd, .int .i64 er, .int .i64 D.got.held, .int .i64 (D.got.taken 0), .int .i64 (D.got.taken 1), .int .i64 (D.got.taken 2), .int .i64 (D.got.taken 3), .bool false] 42)) := (Below.refl _ _).alloc (Nat.le_refl _) _
  generalize w5.alloc (.cells #[.string S0, .string S1, .string S2, .string S3, .int .i64 nd, .int .i64 er, .int .i64 D.got.held, .int .i64 (D.got.taken 0), .int .i64 (D.got.taken 1), .int .i64 (D.got.taken 2), .int .i64 (D.got.taken 3), .bool false] 42) = W6 at hr6 hb6 ⊢
  have HCe := Lib.hid (show ∀ W : World, W.heap[w5.heap.size]? = some (.cells #[.string S0, .string S1, .string S2, .string S3, .int .i64 nd, .int .i64 er, .int .i64 D.got.held, .int .i64 (D.got.taken 0), .int .i64 (D.got.taken 1), .int .i64 (D.got.taken 2), .int .i64 (D.got.taken 3), .bool false] 42 (0, 0)) → W.cell? ⟨w5.heap.size, 0, none⟩ = some (.string S0) ∧ W.cell? ⟨w5.heap.size, 1, none⟩ = some (.string S1) ∧ W.cell? ⟨w5.heap.size, 2, none⟩ = some (.string S2) ∧ W.cell? ⟨w5.heap.size, 3, none⟩ = some (.string S3) ∧ W.cell? ⟨w5.heap.size, 4, none⟩ = some (.int .i64 nd) ∧ W.cell? ⟨w5.heap.size, 5, none⟩ = some (.int .i64 er) ∧ W.cell? ⟨w5.heap.size, 6, none⟩ = some (.int .i64 D.got.held) ∧ W.cell? ⟨w5.heap.size, 7, none⟩ = some (.int .i64 (D.got.taken 0)) ∧ W.cell? ⟨w5.heap.size, 8, none⟩ = some (.int .i64 (D.got.taken 1)) ∧ W.cell? ⟨w5.heap.size, 9, none⟩ = some (.int .i64 (D.got.taken 2)) ∧ W.cell? ⟨w5.heap.size, 10, none⟩ = some (.int .i64 (D.got.taken 3)) ∧ W.cell? ⟨w5.heap.size, 11, none⟩ = some (.bool false) from fun W h => ⟨by rw [cell_of_row _ _ _ _ _ _ h]; rfl, by rw [cell_of_row _ _ _ _ _ _ h]; rfl, by rw [cell_of_row _ _ _ _ _ _ h]; rfl, by rw [cell_of_row _ _ _ _ _ _ h]; rfl, by rw [cell_of_row _ _ _ _ _ _ h]; rfl, by rw [cell_of_row _ _ _ _ _ _ h]; rfl, by rw [cell_of_row _ _ _ _ _ _ h]; rfl, by rw [cell_of_row _ _ _ _ _ _ h]; rfl, by rw [cell_of_row _ _ _ _ _ _ h]; rfl, by rw [cell_of_row _ _ _ _ _ _ h]; rfl, by rw [cell_of_row _ _ _ _ _ _ h]; rfl, by rw [cell_of_row _ _ _ _ _ _ h]; rfl⟩)
  have hg6 := (hb6.block (w.heap.size + 1) hne).trans HG5.out
  have hbw6 : Below w.heap.size w W6 := HB5.out.trans (hb6.mono hsz5)
  have HG6 := Lib.hid hg6
  have HBw6 := Lib.hid hbw6
  clear hb6 hg6 hbw6
  refine anyG_start (S := (fun W => W.heap[w5.heap.size]? = some (.cells #[.string S0, .string S1, .string S2, .string S3, .int .i64 nd, .int .i64 er, .int .i64 D.got.held, .int .i64 (D.got.taken 0), .int .i64 (D.got.taken 1), .int .i64 (D.got.taken 2), .int .i64 (D.got.taken 3), .bool false] 42 (0, 0)))) (by kernel_rfl) ?_
  have hM : W6.drew.heap[w5.heap.size]? = _ := hr6
  have hgd : W6.drew.heap[w.heap.size + 1]? = _ := HG6.out
  have hbd : Below w.heap.size w W6.drew := HBw6.out.drew
  generalize W6.drew = W7 at hM hgd hbd ⊢
  clear hr6
  by_cases h1 : er = 0
  · by_cases h2 : nd = -1
    · have g1 : (er == 0) = true := by simp [h1]
      have g2 : (nd == -1) = true := by simp [h2]
      have HR := Lib.hid (show (decide (er = 0) && decide (nd = -1)) = true by simp [h1, h2])
      clear h1 h2
      refine anyG_take (i := 0) 44 (.agg #[.string S0, .string S1, .string S2, .string S3, .int .i64 nd, .int .i64 er, .int .i64 D.got.held, .int .i64 (D.got.taken 0), .int .i64 (D.got.taken 1), .int .i64 (D.got.taken 2), .int .i64 (D.got.taken 3), .bool false]) rfl rfl (by kernel_rfl) (by kernel_rfl) (by kernel_rfl) rfl (fun W h => by obtain ⟨k0, k1, k2, k3, k4, k5, k6, k7, k8, k9, k10, k11⟩ := HCe.out W h; go_simp) hM ?_
      simp only [Act.put, List.setIfInBounds_toArray, List.set_cons_succ, List.set_cons_zero]
      refine anyG_take (i := 1) 45 (.pointer (some ⟨w5.heap.size, 5, none⟩)) rfl rfl (by kernel_rfl) (by kernel_rfl) (by kernel_rfl) rfl (fun _ _ => by go_simp) hM ?_
      simp only [Act.put, List.setIfInBounds_toArray, List.set_cons_succ, List.set_cons_zero]
      refine anyG_take (i := 2) 46 (.int .i64 er) rfl rfl (by kernel_rfl) (by kernel_rfl) (by kernel_rfl) rfl (fun W h => by obtain ⟨-, -, -, -, -, k5, -⟩ := HCe.out W h; go_simp) hM ?_
      simp only [Act.put, List.setIfInBounds_toArray, List.set_cons_succ, List.set_cons_zero]
      refine anyG_take (i := 3) 47 (.bool true) rfl rfl (by kernel_rfl) (by kernel_rfl) (by kernel_rfl) rfl (fun _ _ => by go_simp) hM ?_
      simp only [Act.put, List.setIfInBounds_toArray, List.set_cons_succ, List.set_cons_zero]
      refine anyG_take (i := 4) 48 (.bool true) rfl rfl (by kernel_rfl) (by kernel_rfl) (by kernel_rfl) rfl (fun _ _ => by go_simp) hM ?_
      simp only [Act.put, List.setIfInBounds_toArray, List.set_cons_succ, List.set_cons_zero]
      refine anyG_take (i := 5) 49 (.pointer (some ⟨w5.heap.size, 4, none⟩)) rfl rfl (by kernel_rfl) (by kernel_rfl) (by kernel_rfl) rfl (fun _ _ => by go_simp) hM ?_
      simp only [Act.put, List.setIfInBounds_toArray, List.set_cons_succ, List.set_cons_zero]
      refine anyG_take (i := 6) 50 (.int .i64 nd) rfl rfl (by kernel_rfl) (by kernel_rfl) (by kernel_rfl) rfl (fun W h => by obtain ⟨-, -, -, -, k4, -⟩ := HCe.out W h; go_simp) hM ?_
      simp only [Act.put, List.setIfInBounds_toArray, List.set_cons_succ, List.set_cons_zero]
      refine anyG_take (i := 7) 51 (.bool true) rfl rfl (by kernel_rfl) (by kernel_rfl) (by kernel_rfl) rfl (fun _ _ => by go_simp) hM ?_
      simp only [Act.put, List.setIfInBounds_toArray, List.set_cons_succ, List.set_cons_zero]
      refine anyG_take (i := 8) 52 (.bool true) rfl rfl (by kernel_rfl) (by kernel_rfl) (by kernel_rfl) rfl (fun _ _ => by go_simp) hM ?_
      simp only [Act.put, List.setIfInBounds_toArray, List.set_cons_succ, List.set_cons_zero]
      refine anyG_take (i := 9) 53 (.bool true) rfl rfl (by kernel_rfl) (by kernel_rfl) (by kernel_rfl) rfl (fun _ _ => by go_simp) hM ?_
      simp only [Act.put, List.setIfInBounds_toArray, List.set_cons_succ, List.set_cons_zero]
      refine anyG_take (i := 10) 54 (.pointer (some ⟨w5.heap.size, 11, none⟩)) rfl rfl (by kernel_rfl) (by kernel_rfl) (by kernel_rfl) rfl (fun _ _ => by go_simp) hM ?_
      simp only [Act.put, List.setIfInBounds_toArray, List.set_cons_succ, List.set_cons_zero]
      refine anyG_take (i := 11) 55 (.bool false) rfl rfl (by kernel_rfl) (by kernel_rfl) (by kernel_rfl) rfl (fun W h => by obtain ⟨-, -, -, -, -, -, -, -, -, -, -, k11⟩ := HCe.out W h; go_simp) hM ?_
      simp only [Act.put, List.setIfInBounds_toArray, List.set_cons_succ, List.set_cons_zero]
      refine anyG_take (i := 12) 56 (.bool true) rfl rfl (by kernel_rfl) (by kernel_rfl) (by kernel_rfl) rfl (fun _ _ => by go_simp) hM ?_
      simp only [Act.put, List.setIfInBounds_toArray, List.set_cons_succ, List.set_cons_zero]
      refine anyG_take (i := 13) 57 (.bool true) rfl rfl (by kernel_rfl) (by kernel_rfl) (by kernel_rfl) rfl (fun _ _ => by go_simp) hM ?_
      simp only [Act.put, List.setIfInBounds_toArray, List.set_cons_succ, List.set_cons_zero]
      refine anyG_one (i := 14) rfl (by kernel_rfl) rfl ?_
      refine wp_store_row 42 (.tmp 6) (.tmp 44) rfl (w.heap.size + 1) (#[.string S0, .string S1, .string S2, .string S3, .int .i64 nd, .int .i64 er, .int .i64 D.got.held, .int .i64 (D.got.taken 0), .int .i64 (D.got.taken 1), .int .i64 (D.got.taken 2), .int .i64 (D.got.taken 3), .bool false]) rfl rfl 42 (gotA zeroG) hgd (by rw [Tryd.size_got]; rfl) rfl HOne.out ?_
      have hM2 := (setRow_other W7 (w.heap.size + 1) w5.heap.size (#[.string S0, .string S1, .string S2, .string S3, .int .i64 nd, .int .i64 er, .int .i64 D.got.held, .int .i64 (D.got.taken 0), .int .i64 (D.got.taken 1), .int .i64 (D.got.taken 2), .int .i64 (D.got.taken 3), .bool false]) (by omega)).trans hM
      refine ⟨hM2, ?_⟩
      have hg8 := setRow_heap W7 (w.heap.size + 1) (gotA zeroG) (#[.string S0, .string S1, .string S2, .string S3, .int .i64 nd, .int .i64 er, .int .i64 D.got.held, .int .i64 (D.got.taken 0), .int .i64 (D.got.taken 1), .int .i64 (D.got.taken 2), .int .i64 (D.got.taken 3), .bool false]) _ _ hgd
      have hb8 : Below w.heap.size w (W7.setRow (w.heap.size + 1) (#[.string S0, .string S1, .string S2, .string S3, .int .i64 nd, .int .i64 er, .int .i64 D.got.held, .int .i64 (D.got.taken 0), .int .i64 (D.got.taken 1), .int .i64 (D.got.taken 2), .int .i64 (D.got.taken 3), .bool false])) := hbd.trans ⟨rfl, rfl, rfl, by simp, fun j hj => setRow_other _ _ _ _ (by omega)⟩
      generalize W7.setRow (w.heap.size + 1) (#[.string S0, .string S1, .string S2, .string S3, .int .i64 nd, .int .i64 er, .int .i64 D.got.held, .int .i64 (D.got.taken 0), .int .i64 (D.got.taken 1), .int .i64 (D.got.taken 2), .int .i64 (D.got.taken 3), .bool false]) = W8 at hM2 hg8 hb8 ⊢
      refine anyG_one (i := 15) rfl (by kernel_rfl) rfl ?_
      go_wp2_with fail
      refine ⟨by kernel_rfl, NoPanic.normal ?_⟩
      go_wp2_with fail
      refine ret_told rfl rfl rfl rfl rfl hg8 ?_
      exact ⟨by rw [HLit.out, ← HEr.out, ← HNd.out, HR.out]; rfl, hb8⟩
    · have g1 : (er == 0) = true := by simp [h1]
      have g2 : (nd == -1) = false := by simp [h2]
      have HR := Lib.hid (show (decide (er = 0) && decide (nd = -1)) = false by simp [h2])
      clear h1 h2
      refine anyG_take (i := 0) 44 (.agg #[.string S0, .string S1, .string S2, .string S3, .int .i64 nd, .int .i64 er, .int .i64 D.got.held, .int .i64 (D.got.taken 0), .int .i64 (D.got.taken 1), .int .i64 (D.got.taken 2), .int .i64 (D.got.taken 3), .bool false]) rfl rfl (by kernel_rfl) (by kernel_rfl) (by kernel_rfl) rfl (fun W h => by obtain ⟨k0, k1, k2, k3, k4, k5, k6, k7, k8, k9, k10, k11⟩ := HCe.out W h; go_simp) hM ?_
      simp only [Act.put, List.setIfInBounds_toArray, List.set_cons_succ, List.set_cons_zero]
      refine anyG_take (i := 1) 45 (.pointer (some ⟨w5.heap.size, 5, none⟩)) rfl rfl (by kernel_rfl) (by kernel_rfl) (by kernel_rfl) rfl (fun _ _ => by go_simp) hM ?_
      simp only [Act.put, List.setIfInBounds_toArray, List.set_cons_succ, List.set_cons_zero]
      refine anyG_take (i := 2) 46 (.int .i64 er) rfl rfl (by kernel_rfl) (by kernel_rfl) (by kernel_rfl) rfl (fun W h => by obtain ⟨-, -, -, -, -, k5, -⟩ := HCe.out W h; go_simp) hM ?_
      simp only [Act.put, List.setIfInBounds_toArray, List.set_cons_succ, List.set_cons_zero]
      refine anyG_take (i := 3) 47 (.bool true) rfl rfl (by kernel_rfl) (by kernel_rfl) (by kernel_rfl) rfl (fun _ _ => by go_simp) hM ?_
      simp only [Act.put, List.setIfInBounds_toArray, List.set_cons_succ, List.set_cons_zero]
      refine anyG_take (i := 4) 48 (.bool true) rfl rfl (by kernel_rfl) (by kernel_rfl) (by kernel_rfl) rfl (fun _ _ => by go_simp) hM ?_
      simp only [Act.put, List.setIfInBounds_toArray, List.set_cons_succ, List.set_cons_zero]
      refine anyG_take (i := 5) 49 (.pointer (some ⟨w5.heap.size, 4, none⟩)) rfl rfl (by kernel_rfl) (by kernel_rfl) (by kernel_rfl) rfl (fun _ _ => by go_simp) hM ?_
      simp only [Act.put, List.setIfInBounds_toArray, List.set_cons_succ, List.set_cons_zero]
      refine anyG_take (i := 6) 50 (.int .i64 nd) rfl rfl (by kernel_rfl) (by kernel_rfl) (by kernel_rfl) rfl (fun W h => by obtain ⟨-, -, -, -, k4, -⟩ := HCe.out W h; go_simp) hM ?_
      simp only [Act.put, List.setIfInBounds_toArray, List.set_cons_succ, List.set_cons_zero]
      refine anyG_take (i := 7) 51 (.bool false) rfl rfl (by kernel_rfl) (by kernel_rfl) (by kernel_rfl) rfl (fun _ _ => by go_simp) hM ?_
      simp only [Act.put, List.setIfInBounds_toArray, List.set_cons_succ, List.set_cons_zero]
      refine anyG_take (i := 8) 52 (.bool false) rfl rfl (by kernel_rfl) (by kernel_rfl) (by kernel_rfl) rfl (fun _ _ => by go_simp) hM ?_
      simp only [Act.put, List.setIfInBounds_toArray, List.set_cons_succ, List.set_cons_zero]
      refine anyG_take (i := 9) 53 (.bool false) rfl rfl (by kernel_rfl) (by kernel_rfl) (by kernel_rfl) rfl (fun _ _ => by go_simp) hM ?_
      simp only [Act.put, List.setIfInBounds_toArray, List.set_cons_succ, List.set_cons_zero]
      refine anyG_skip (i := 10) 54 rfl rfl (by kernel_rfl) (by kernel_rfl) (by kernel_rfl) rfl hM ?_
      simp only [Act.put, List.setIfInBounds_toArray, List.set_cons_succ, List.set_cons_zero]
      refine anyG_skip (i := 11) 55 rfl rfl (by kernel_rfl) (by kernel_rfl) (by kernel_rfl) rfl hM ?_
      simp only [Act.put, List.setIfInBounds_toArray, List.set_cons_succ, List.set_cons_zero]
      refine anyG_skip (i := 12) 56 rfl rfl (by kernel_rfl) (by kernel_rfl) (by kernel_rfl) rfl hM ?_
      simp only [Act.put, List.setIfInBounds_toArray, List.set_cons_succ, List.set_cons_zero]
      refine anyG_take (i := 13) 57 (.bool false) rfl rfl (by kernel_rfl) (by kernel_rfl) (by kernel_rfl) rfl (fun _ _ => by go_simp) hM ?_
      simp only [Act.put, List.setIfInBounds_toArray, List.set_cons_succ, List.set_cons_zero]
      refine anyG_one (i := 14) rfl (by kernel_rfl) rfl ?_
      refine wp_store_row 42 (.tmp 6) (.tmp 44) rfl (w.heap.size + 1) (#[.string S0, .string S1, .string S2, .string S3, .int .i64 nd, .int .i64 er, .int .i64 D.got.held, .int .i64 (D.got.taken 0), .int .i64 (D.got.taken 1), .int .i64 (D.got.taken 2), .int .i64 (D.got.taken 3), .bool false]) rfl rfl 42 (gotA zeroG) hgd (by rw [Tryd.size_got]; rfl) rfl HOne.out ?_
      have hM2 := (setRow_other W7 (w.heap.size + 1) w5.heap.size (#[.string S0, .string S1, .string S2, .string S3, .int .i64 nd, .int .i64 er, .int .i64 D.got.held, .int .i64 (D.got.taken 0), .int .i64 (D.got.taken 1), .int .i64 (D.got.taken 2), .int .i64 (D.got.taken 3), .bool false]) (by omega)).trans hM
      refine ⟨hM2, ?_⟩
      have hg8 := setRow_heap W7 (w.heap.size + 1) (gotA zeroG) (#[.string S0, .string S1, .string S2, .string S3, .int .i64 nd, .int .i64 er, .int .i64 D.got.held, .int .i64 (D.got.taken 0), .int .i64 (D.got.taken 1), .int .i64 (D.got.taken 2), .int .i64 (D.got.taken 3), .bool false]) _ _ hgd
      have hb8 : Below w.heap.size w (W7.setRow (w.heap.size + 1) (#[.string S0, .string S1, .string S2, .string S3, .int .i64 nd, .int .i64 er, .int .i64 D.got.held, .int .i64 (D.got.taken 0), .int .i64 (D.got.taken 1), .int .i64 (D.got.taken 2), .int .i64 (D.got.taken 3), .bool false])) := hbd.trans ⟨rfl, rfl, rfl, by simp, fun j hj => setRow_other _ _ _ _ (by omega)⟩
      generalize W7.setRow (w.heap.size + 1) (#[.string S0, .string S1, .string S2, .string S3, .int .i64 nd, .int .i64 er, .int .i64 D.got.held, .int .i64 (D.got.taken 0), .int .i64 (D.got.taken 1), .int .i64 (D.got.taken 2), .int .i64 (D.got.taken 3), .bool false]) = W8 at hM2 hg8 hb8 ⊢
      refine anyG_one (i := 15) rfl (by kernel_rfl) rfl ?_
      go_wp2_with fail
      refine ⟨by kernel_rfl, NoPanic.normal ?_⟩
      go_wp2_with fail
      refine ret_told rfl rfl rfl rfl rfl hg8 ?_
      exact ⟨by rw [HLit.out, ← HEr.out, ← HNd.out, HR.out]; rfl, hb8⟩
  · have g1 : (er == 0) = false := by simp [h1]
    have HR := Lib.hid (show (decide (er = 0) && decide (nd = -1)) = false by simp [h1])
    clear h1
    refine anyG_take (i := 0) 44 (.agg #[.string S0, .string S1, .string S2, .string S3, .int .i64 nd, .int .i64 er, .int .i64 D.got.held, .int .i64 (D.got.taken 0), .int .i64 (D.got.taken 1), .int .i64 (D.got.taken 2), .int .i64 (D.got.taken 3), .bool false]) rfl rfl (by kernel_rfl) (by kernel_rfl) (by kernel_rfl) rfl (fun W h => by obtain ⟨k0, k1, k2, k3, k4, k5, k6, k7, k8, k9, k10, k11⟩ := HCe.out W h; go_simp) hM ?_
    simp only [Act.put, List.setIfInBounds_toArray, List.set_cons_succ, List.set_cons_zero]
    refine anyG_take (i := 1) 45 (.pointer (some ⟨w5.heap.size, 5, none⟩)) rfl rfl (by kernel_rfl) (by kernel_rfl) (by kernel_rfl) rfl (fun _ _ => by go_simp) hM ?_
    simp only [Act.put, List.setIfInBounds_toArray, List.set_cons_succ, List.set_cons_zero]
    refine anyG_take (i := 2) 46 (.int .i64 er) rfl rfl (by kernel_rfl) (by kernel_rfl) (by kernel_rfl) rfl (fun W h => by obtain ⟨-, -, -, -, -, k5, -⟩ := HCe.out W h; go_simp) hM ?_
    simp only [Act.put, List.setIfInBounds_toArray, List.set_cons_succ, List.set_cons_zero]
    refine anyG_take (i := 3) 47 (.bool false) rfl rfl (by kernel_rfl) (by kernel_rfl) (by kernel_rfl) rfl (fun _ _ => by go_simp) hM ?_
    simp only [Act.put, List.setIfInBounds_toArray, List.set_cons_succ, List.set_cons_zero]
    refine anyG_take (i := 4) 48 (.bool false) rfl rfl (by kernel_rfl) (by kernel_rfl) (by kernel_rfl) rfl (fun _ _ => by go_simp) hM ?_
    simp only [Act.put, List.setIfInBounds_toArray, List.set_cons_succ, List.set_cons_zero]
    refine anyG_skip (i := 5) 49 rfl rfl (by kernel_rfl) (by kernel_rfl) (by kernel_rfl) rfl hM ?_
    simp only [Act.put, List.setIfInBounds_toArray, List.set_cons_succ, List.set_cons_zero]
    refine anyG_skip (i := 6) 50 rfl rfl (by kernel_rfl) (by kernel_rfl) (by kernel_rfl) rfl hM ?_
    simp only [Act.put, List.setIfInBounds_toArray, List.set_cons_succ, List.set_cons_zero]
    refine anyG_skip (i := 7) 51 rfl rfl (by kernel_rfl) (by kernel_rfl) (by kernel_rfl) rfl hM ?_
    simp only [Act.put, List.setIfInBounds_toArray, List.set_cons_succ, List.set_cons_zero]
    refine anyG_take (i := 8) 52 (.bool false) rfl rfl (by kernel_rfl) (by kernel_rfl) (by kernel_rfl) rfl (fun _ _ => by go_simp) hM ?_
    simp only [Act.put, List.setIfInBounds_toArray, List.set_cons_succ, List.set_cons_zero]
    refine anyG_take (i := 9) 53 (.bool false) rfl rfl (by kernel_rfl) (by kernel_rfl) (by kernel_rfl) rfl (fun _ _ => by go_simp) hM ?_
    simp only [Act.put, List.setIfInBounds_toArray, List.set_cons_succ, List.set_cons_zero]
    refine anyG_skip (i := 10) 54 rfl rfl (by kernel_rfl) (by kernel_rfl) (by kernel_rfl) rfl hM ?_
    simp only [Act.put, List.setIfInBounds_toArray, List.set_cons_succ, List.set_cons_zero]
    refine anyG_skip (i := 11) 55 rfl rfl (by kernel_rfl) (by kernel_rfl) (by kernel_rfl) rfl hM ?_
    simp only [Act.put, List.setIfInBounds_toArray, List.set_cons_succ, List.set_cons_zero]
    refine anyG_skip (i := 12) 56 rfl rfl (by kernel_rfl) (by kernel_rfl) (by kernel_rfl) rfl hM ?_
    simp only [Act.put, List.setIfInBounds_toArray, List.set_cons_succ, List.set_cons_zero]
    refine anyG_take (i := 13) 57 (.bool false) rfl rfl (by kernel_rfl) (by kernel_rfl) (by kernel_rfl) rfl (fun _ _ => by go_simp) hM ?_
    simp only [Act.put, List.setIfInBounds_toArray, List.set_cons_succ, List.set_cons_zero]
    refine anyG_one (i := 14) rfl (by kernel_rfl) rfl ?_
    refine wp_store_row 42 (.tmp 6) (.tmp 44) rfl (w.heap.size + 1) (#[.string S0, .string S1, .string S2, .string S3, .int .i64 nd, .int .i64 er, .int .i64 D.got.held, .int .i64 (D.got.taken 0), .int .i64 (D.got.taken 1), .int .i64 (D.got.taken 2), .int .i64 (D.got.taken 3), .bool false]) rfl rfl 42 (gotA zeroG) hgd (by rw [Tryd.size_got]; rfl) rfl HOne.out ?_
    have hM2 := (setRow_other W7 (w.heap.size + 1) w5.heap.size (#[.string S0, .string S1, .string S2, .string S3, .int .i64 nd, .int .i64 er, .int .i64 D.got.held, .int .i64 (D.got.taken 0), .int .i64 (D.got.taken 1), .int .i64 (D.got.taken 2), .int .i64 (D.got.taken 3), .bool false]) (by omega)).trans hM
    refine ⟨hM2, ?_⟩
    have hg8 := setRow_heap W7 (w.heap.size + 1) (gotA zeroG) (#[.string S0, .string S1, .string S2, .string S3, .int .i64 nd, .int .i64 er, .int .i64 D.got.held, .int .i64 (D.got.taken 0), .int .i64 (D.got.taken 1), .int .i64 (D.got.taken 2), .int .i64 (D.got.taken 3), .bool false]) _ _ hgd
    have hb8 : Below w.heap.size w (W7.setRow (w.heap.size + 1) (#[.string S0, .string S1, .string S2, .string S3, .int .i64 nd, .int .i64 er, .int .i64 D.got.held, .int .i64 (D.got.taken 0), .int .i64 (D.got.taken 1), .int .i64 (D.got.taken 2), .int .i64 (D.got.taken 3), .bool false])) := hbd.trans ⟨rfl, rfl, rfl, by simp, fun j hj => setRow_other _ _ _ _ (by omega)⟩
    generalize W7.setRow (w.heap.size + 1) (#[.string S0, .string S1, .string S2, .string S3, .int .i64 nd, .int .i64 er, .int .i64 D.got.held, .int .i64 (D.got.taken 0), .int .i64 (D.got.taken 1), .int .i64 (D.got.taken 2), .int .i64 (D.got.taken 3), .bool false]) = W8 at hM2 hg8 hb8 ⊢
    refine anyG_one (i := 15) rfl (by kernel_rfl) rfl ?_
    go_wp2_with fail
    refine ⟨by kernel_rfl, NoPanic.normal ?_⟩
    go_wp2_with fail
    refine ret_told rfl rfl rfl rfl rfl hg8 ?_
    exact ⟨by rw [HLit.out, ← HEr.out, ← HNd.out, HR.out]; rfl, hb8⟩

end Go.Proofs.YtmmhpjhmobhdiaaDoor
