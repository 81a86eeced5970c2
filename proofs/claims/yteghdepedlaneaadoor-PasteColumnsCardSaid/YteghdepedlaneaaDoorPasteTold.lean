/- What told does, of any inputs. -/
import Derived.Test.YteghdepedlaneaaDoorPasteAwake
import Derived.Test.YteghdepedlaneaaDoorGopen
import Derived.Test.YteghdepedlaneaaDoorStold
import Derived.Test.YteghdepedlaneaaDoorPB
import Derived.Outline
import Derived.Test.YteghdepedlaneaaDoorRA
namespace Go.Proofs.YteghdepedlaneaaDoor
open Go.RowKit

/-- The call answers what the machine came to, and whether it has ended. -/
def ToldOf (w : World) (g : GotL) (e : Ending) (w' : World) : Prop := e = .returned (.tuple #[.agg (gotA g), .bool (decide (g.err = 0) && decide (g.need = -1))]) ∧ Below w.heap.size w w'

theorem ret_told {fn : Func} {p q : Tmp} (hr : fn.results = #[.cell p 42, .tmp q]) {a : Act} {w : World} {R : Ending → World → Prop} {B : Nat} {cs : Array Value} {b : Value} (hcs : cs.size = 12)
    (hd : a.defers = []) (hp : a.tmps.getD p undef = .pointer (some ⟨B, 0, none⟩)) (hq : a.tmps.getD q undef = b) (hg : w.heap[B]? = some (.cells cs 42 (0, 0))) (h : R (.returned (.tuple #[.agg cs, b])) w) : bodyPost Tryd.prog fn R .ret a w := by
  refine bodyPost_ret (v := .tuple #[.agg cs, b]) ?_ hd h
  have hp' : a.tmps[p]?.getD undef = .pointer (some ⟨B, 0, none⟩) := by simpa using hp
  have hq' : a.tmps[q]?.getD undef = b := by simpa using hq
  have hl := run_loadVar_row (P := Tryd.prog) w B 42 42 cs (0, 0) _ hg Tryd.underlying42 rfl (by rw [Tryd.size_got, hcs])
  simp [results, hr, hp', hq', asAddr, hl]

set_option maxRecDepth 100000 in
set_option maxHeartbeats 16000000 in
theorem told_any (N : Nat) (va vb cv iv : Value) (A B : List UInt8) (xs : List (List UInt8)) (cuts : List Int) (w : World) (hT : Pm.Tab w) (hA : Pm.IsBytes w va A) (hB : Pm.IsBytes w vb B) (hI : IsPieces (· < w.heap.size) w iv xs) (hC : IsInts (· < w.heap.size) w cv cuts) (hE : takeE 13 13 N A B = 0) (hok : pasteOk N A B)
    (sA : A.length ≤ 1000) (sB : B.length ≤ 1000) (hlen : xs.length = pasteIns N) (h8 : xs.length ≤ 8) (hx : ∀ x ∈ xs, x.length ≤ 2000) (hcl : cuts.length ≤ 3000) :
    Calls Tryd.prog 25 #[Pm.parV 13 N va vb, cv, iv] w (ToldOf w (drive (pasteF N A B) (toldIns xs) cuts 100000 0 (start (pasteF N A B) (pasteI N A B))).got) := by
  obtain ⟨D, hD⟩ : ∃ D, D = drive (pasteF N A B) (toldIns xs) cuts 100000 0 (start (pasteF N A B) (pasteI N A B)) := ⟨_, rfl⟩
  rw [← hD]
  have HD := Lib.hid hD
  clear hD
  have HT := Lib.hid (show ∀ W, Below w.heap.size w W → Pm.Tab W from fun W hb => hT.below hb)
  have HA := Lib.hid (show ∀ W, Below w.heap.size w W → Pm.IsBytes W va A from fun W hb => hA.below hb)
  have HB := Lib.hid (show ∀ W, Below w.heap.size w W → Pm.IsBytes W vb B from fun W hb => hB.below hb)
  have HC := Lib.hid (show ∀ W, Below w.heap.size w W → IsInts (· < w.heap.size) W cv cuts from fun W hb => hC.below hb)
  have HTk := Lib.hid hE
  have HOk := Lib.hid hok
  obtain ⟨ac, cc, rfl, -⟩ := id hC
  clear hT hA hB hC hE hok
  have HPc := Lib.hid (show ∀ W, Below w.heap.size w W → IsPieces (· < w.heap.size) W iv xs from fun W hb => hI.below hb)
  obtain ⟨aq, cq, rfl, -⟩ := id hI
  have HXs := Lib.hid hx
  have HLen := Lib.hid hlen
  clear hI hx hlen
  have hb0 : Below w.heap.size w (w.alloc (.cells #[.int .i64 13, .int .i64 N, va, vb] 24)) := (Below.refl _ _).alloc (Nat.le_refl _) _
  unfold Pm.parV
  go_enter Tryd.func25, Tryd.ntmps25
  go_wp2_with fail
  have hg1 := heap_alloc_last (w.alloc (.cells #[.int .i64 13, .int .i64 N, va, vb] 24)) (.cells #[.string { data := #[] }, .string { data := #[] }, .string { data := #[] }, .string { data := #[] }, .int .i64 0, .int .i64 0, .int .i64 0, .int .i64 0, .int .i64 0, .int .i64 0, .int .i64 0, .bool false] 42)
  rw [World.size_alloc] at hg1
  have hb1 : Below w.heap.size w ((w.alloc (.cells #[.int .i64 13, .int .i64 N, va, vb] 24)).alloc (.cells #[.string { data := #[] }, .string { data := #[] }, .string { data := #[] }, .string { data := #[] }, .int .i64 0, .int .i64 0, .int .i64 0, .int .i64 0, .int .i64 0, .int .i64 0, .int .i64 0, .bool false] 42)) := hb0.alloc (by simp) _
  have hbx := box_cells (k := 13) (n := N) (va := va) (vb := vb) ((Below.refl (w.alloc (.cells #[.int .i64 13, .int .i64 N, va, vb] 24)).heap.size (w.alloc (.cells #[.int .i64 13, .int .i64 N, va, vb] 24))).alloc (Nat.le_refl _) (.cells #[.string { data := #[] }, .string { data := #[] }, .string { data := #[] }, .string { data := #[] }, .int .i64 0, .int .i64 0, .int .i64 0, .int .i64 0, .int .i64 0, .int .i64 0, .int .i64 0, .bool false] 42))
  have hs1 : ((w.alloc (.cells #[.int .i64 13, .int .i64 N, va, vb] 24)).alloc (.cells #[.string { data := #[] }, .string { data := #[] }, .string { data := #[] }, .string { data := #[] }, .int .i64 0, .int .i64 0, .int .i64 0, .int .i64 0, .int .i64 0, .int .i64 0, .int .i64 0, .bool false] 42)).heap.size = w.heap.size + 2 := by simp
  generalize (w.alloc (.cells #[.int .i64 13, .int .i64 N, va, vb] 24)).alloc (.cells #[.string { data := #[] }, .string { data := #[] }, .string { data := #[] }, .string { data := #[] }, .int .i64 0, .int .i64 0, .int .i64 0, .int .i64 0, .int .i64 0, .int .i64 0, .int .i64 0, .bool false] 42) = W at hg1 hb1 hbx hs1 ⊢
  obtain ⟨c0', c1, c2, c3⟩ := hbx
  have HW := Lib.hid hb1
  have HG1 := Lib.hid hg1
  have HS1 := Lib.hid hs1
  have HI0 := Lib.hid (ToldInv.start (· < w.heap.size) xs W)
  have HBX := Lib.hid (show ∀ W', Below W.heap.size W W' → W'.cell? ⟨w.heap.size, 0, none⟩ = some (.int .i64 13) ∧ W'.cell? ⟨w.heap.size, 1, none⟩ = some (.int .i64 N) ∧ W'.cell? ⟨w.heap.size, 2, none⟩ = some va ∧ W'.cell? ⟨w.heap.size, 3, none⟩ = some vb from fun W' hb => ⟨Pm.Below.cell hb c0', Pm.Below.cell hb c1, Pm.Below.cell hb c2, Pm.Below.cell hb c3⟩)
  clear hb1 hb0 hg1 hs1 c0' c1 c2 c3
  go_loopw [8, 9] (fun lv jv wr => ∃ (j : Nat) (v : Value), v = lv ∧ jv = .int .i64 j ∧ ToldInv (· < w.heap.size) xs W v j wr) (fun _ j _ => xs.length - (intOf j).toNat)
  case atStart => exact ⟨0, _, rfl, rfl, HI0.out⟩
  case round =>
    obtain ⟨j, v, rfl, rfl, hinv⟩ := hrel
    obtain ⟨X, hX, hown, hbt⟩ := hinv.ex
    have hle := hinv.le
    have hXl : X.length = j := by have := congrArg List.length hX; rw [List.length_map, toldIns, List.length_map, List.length_take] at this; omega
    obtain ⟨av, cv, e⟩ := owns_slice hown
    rw [hXl] at e
    subst e
    have hbwr := HW.out.trans (hinv.below.mono HW.out.size)
    by_cases hlt : j < xs.length
    · obtain ⟨x, hxj⟩ : ∃ x, xs[j]? = some x := ⟨xs[j]'hlt, List.getElem?_eq_getElem hlt⟩
      obtain ⟨_, _, e, hcs⟩ := HPc.out _ hbwr
      cases e
      obtain ⟨gb, off, bv, rfl, -, c0, hbytes⟩ := hcs j x hxj
      have hbyW : IsBytes (· < w.heap.size) W bv x := by
        obtain ⟨_, _, e, hcs2⟩ := HPc.out _ HW.out
        cases e
        obtain ⟨gb2, off2, bv2, e2, -, d0, hb2⟩ := hcs2 j x hxj
        cases e2
        have := Pm.Below.cell hinv.below d0
        rw [c0] at this
        cases this
        exact hb2
      obtain ⟨ax, cx, rfl, -, -⟩ := id hbytes
      have q0 : (0 : Int) ≤ (j : Int) := by omega
      have q1 : (j : Int) < (xs.length : Int) := by omega
      have HXl := Lib.hid hXl
      have HX := Lib.hid hX
      have HXj := Lib.hid hxj
      have HBt := Lib.hid hbt
      have HByW := Lib.hid hbyW
      have HRow := Lib.hid (fun o : Obj => (hown.alloc o : (wr.alloc o).ownsRow W.heap.size 61 5 (.slice av j cv) X.length (strCells X)))
      have HBw := Lib.hid (show ∀ o : Obj, Below W.heap.size W (wr.alloc o) from fun o => hinv.below.alloc hinv.below.size o)
      have HNew := Lib.hid (show ∀ o : Obj, (wr.alloc o).heap[wr.heap.size]? = some o from fun o => heap_alloc_last wr o)
      clear hXl hX hxj hbt hbyW hown hinv hcs hbytes hbwr
      go_wp2_with (at_builtin; refine wpList_append_row rfl (.tmp 19) (.tmp 25) rfl (⟨x, true, 0, 0, 0⟩, .slice ax x.length cx) wr.heap.size rfl (HRow.out _) rfl (HNew.out _) rfl (by have := HXl.out; omega) (HBw.out _).size ?_; intro v' w' ho' hg'; have hb' := owns_below_of (HRow.out _) (HBw.out _) hg'; have HO' := Lib.hid ho'; have HB' := Lib.hid hb'; clear ho' hg' hb')
      go_roundw
      case rel =>
        refine ⟨j + 1, _, rfl, by go_num, ⟨by omega, ⟨X ++ [(⟨x, true, 0, 0, 0⟩, .slice ax x.length cx)], ?_, HO'.out, ?_⟩, HB'.out⟩⟩
        · rw [List.map_append, HX.out, take_snoc HXj.out]
          simp [toldIns]
        · intro t ht
          rcases List.mem_append.1 ht with ht | ht
          · exact HBt.out t ht
          · rw [List.mem_singleton.1 ht]
            exact HByW.out
      case measure => simp [intOf]; omega
    · obtain rfl : j = xs.length := by omega
      have q1 : ¬ (xs.length : Int) < (xs.length : Int) := by omega
      rename World => W2
      have HSt := Lib.hid (hinv.all.mono (q := (· < W2.heap.size)) (fun k hk _ => hk))
      have HW2 := Lib.hid hbwr
      have HWW := Lib.hid hinv.below
      have HG2 := Lib.hid ((hinv.below.block (w.heap.size + 1) (by have := HS1.out; omega)).trans HG1.out)
      have hsz2 : w.heap.size + 2 ≤ W2.heap.size := by have := HS1.out; have := hinv.below.size; omega
      have HSz2 := Lib.hid hsz2
      clear hsz2 hbwr hX hown hbt hXl hinv
      obtain ⟨c0, c1, c2, c3⟩ := HBX.out _ HWW.out
      have hcp := Pm.copy_any 13 N va vb A B W2 (HA.out _ HW2.out) (HB.out _ HW2.out) (by omega) (by omega)
      unfold Pm.parV at hcp
      have HCP := Lib.hid hcp
      clear hcp
      go_wp2_with fail
      refine HCP.out.mono ?_
      rintro e w3 ⟨xa, xb, rfl, hxa, hxb, hb3⟩
      obtain ⟨aa, ca, rfl, -⟩ := id hxa
      obtain ⟨ab, cb, rfl, -⟩ := id hxb
      have HXA := Lib.hid hxa
      have HXB := Lib.hid hxb
      have HW3 := Lib.hid (HW2.out.trans (hb3.mono HW2.out.size))
      have HB3 := Lib.hid hb3
      clear hb3 hxa hxb c0 c1 c2 c3
      unfold Pm.parV
      go_wp2_with fail
      have hnew := paste_yes 13 N (.slice aa A.length ca) (.slice ab B.length cb) A B w3 (HT.out _ HW3.out) HXA.out HXB.out HTk.out HOk.out
      unfold Pm.parV at hnew
      refine hnew.mono ?_
      clear hnew
      rintro e w4 ⟨g, own, rfl, hR, hg, hb4⟩
      have HR := Lib.hid hR
      have HW4 := Lib.hid (HW3.out.trans (hb4.mono HW3.out.size))
      have HB4 := Lib.hid (HB3.out.trans (hb4.mono HB3.out.size))
      have HGw := Lib.hid (show ∀ k, own k → w3.heap.size ≤ k from fun k hk => hg k hk)
      clear hR hb4 hg
      go_wp2_with fail
      have hs3 := HW3.out.size
      have hs3' := HB3.out.size
      have hs2 := HSz2.out
      refine (drivePaste_any N A B g (pasteI N A B) own _ _ (toldIns xs) cuts w4 HOk.out (by rw [toldIns, List.length_map]; exact HLen.out) HR.out ((HSt.out.below HB4.out).mono (fun k _ h e => by have := HGw.out k e; omega)) ((HC.out _ HW4.out).mono (fun k _ h e => by have := HGw.out k e; omega)) (by omega) (fun t ht => by obtain ⟨x, hx, rfl⟩ := List.mem_map.1 ht; have := HXs.out x hx; show x.length ≤ 1000000; omega)).mono ?_
      rintro e w5 ⟨rfl, -, hf5⟩
      rw [← HD.out]
      have hb5 : Below w.heap.size w w5 := Frame.belowO HW4.out (fun k hk => by have := HGw.out k hk; omega) HW4.out.size hf5
      have hg5 : w5.heap[w.heap.size + 1]? = some (.cells (gotA zeroG) 42 (0, 0)) := hf5.heap ((HB4.out.block (w.heap.size + 1) (by omega)).trans HG2.out) (fun e => by rcases e with e | e; (have := HGw.out _ e; omega); (have := HB4.out.size; omega))
      obtain ⟨S0, S1, S2, S3, -, -, -, -, hlit⟩ := got_lit D.got
      rw [hlit]
      have HLit := Lib.hid hlit
      have HB5 := Lib.hid hb5
      have HG5 := Lib.hid hg5
      have hsz5 := hb5.size
      have hne : w.heap.size + 1 < w5.heap.size := (Array.getElem?_eq_some_iff.1 hg5).1
      clear hf5 hlit hb5 hg5
      obtain ⟨er, her⟩ : ∃ er, er = D.got.err := ⟨_, rfl⟩
      obtain ⟨nd, hnd⟩ : ∃ nd, nd = D.got.need := ⟨_, rfl⟩
      have hone := one_gotA D.got
      rw [HLit.out, ← her, ← hnd] at hone
      have HOne := Lib.hid hone
      rw [← her, ← hnd]
      have HEr := Lib.hid her
      have HNd := Lib.hid hnd
      clear her hnd hone
      go_upto_region 10 with fail
      have hr6 := heap_alloc_last w5 (.cells #[.string S0, .string S1, .string S2, .string S3, .int .i64 nd, .int .i64 er, .int .i64 D.got.held, .int .i64 (D.got.taken 0), .int .i64 (D.got.taken 1), .int .i64 (D.got.taken 2), .int .i64 (D.got.taken 3), .bool false] 42)
      have hb6 : Below w5.heap.size w5 (w5.alloc (.cells #[.string S0, .string S1, .string S2, .string S3, .int .i64 nd, .int .i64 er, .int .i64 D.got.held, .int .i64 (D.got.taken 0), .int .i64 (D.got.taken 1), .int .i64 (D.got.taken 2), .int .i64 (D.got.taken 3), .bool false] 42)) := (Below.refl _ _).alloc (Nat.le_refl _) _
      generalize w5.alloc (.cells #[.string S0, .string S1, .string S2, .string S3, .int .i64 nd, .int .i64 er, .int .i64 D.got.held, .int .i64 (D.got.taken 0), .int .i64 (D.got.taken 1), .int .i64 (D.got.taken 2), .int .i64 (D.got.taken 3), .bool false] 42) = W6 at hr6 hb6 ⊢
      have HCe := Lib.hid (show ∀ W : World, W.heap[w5.heap.size]? = some (.cells #[.string S0, .string S1, .string S2, .string S3, .int .i64 nd, .int .i64 er, .int .i64 D.got.held, .int .i64 (D.got.taken 0), .int .i64 (D.got.taken 1), .int .i64 (D.got.taken 2), .int .i64 (D.got.taken 3), .bool false] 42 (0, 0)) → W.cell? ⟨w5.heap.size, 0, none⟩ = some (.string S0) ∧ W.cell? ⟨w5.heap.size, 1, none⟩ = some (.string S1) ∧ W.cell? ⟨w5.heap.size, 2, none⟩ = some (.string S2) ∧ W.cell? ⟨w5.heap.size, 3, none⟩ = some (.string S3) ∧ W.cell? ⟨w5.heap.size, 4, none⟩ = some (.int .i64 nd) ∧ W.cell? ⟨w5.heap.size, 5, none⟩ = some (.int .i64 er) ∧ W.cell? ⟨w5.heap.size, 6, none⟩ = some (.int .i64 D.got.held) ∧ W.cell? ⟨w5.heap.size, 7, none⟩ = some (.int .i64 (D.got.taken 0)) ∧ W.cell? ⟨w5.heap.size, 8, none⟩ = some (.int .i64 (D.got.taken 1)) ∧ W.cell? ⟨w5.heap.size, 9, none⟩ = some (.int .i64 (D.got.taken 2)) ∧ W.cell? ⟨w5.heap.size, 10, none⟩ = some (.int .i64 (D.got.taken 3)) ∧ W.cell? ⟨w5.heap.size, 11, none⟩ = some (.bool false) from fun W h => ⟨by rw [cell_of_row _ _ _ _ _ _ h]; rfl, by rw [cell_of_row _ _ _ _ _ _ h]; rfl, by rw [cell_of_row _ _ _ _ _ _ h]; rfl, by rw [cell_of_row _ _ _ _ _ _ h]; rfl, by rw [cell_of_row _ _ _ _ _ _ h]; rfl, by rw [cell_of_row _ _ _ _ _ _ h]; rfl, by rw [cell_of_row _ _ _ _ _ _ h]; rfl, by rw [cell_of_row _ _ _ _ _ _ h]; rfl, by rw [cell_of_row _ _ _ _ _ _ h]; rfl, by rw [cell_of_row _ _ _ _ _ _ h]; rfl, by rw [cell_of_row _ _ _ _ _ _ h]; rfl, by rw [cell_of_row _ _ _ _ _ _ h]; rfl⟩)
      have hg6 := (hb6.block (w.heap.size + 1) hne).trans HG5.out
      have hbw6 : Below w.heap.size w W6 := HB5.out.trans (hb6.mono hsz5)
      have HG6 := Lib.hid hg6
      have HBw6 := Lib.hid hbw6
      clear hb6 hg6 hbw6
      refine anyG_start (S := (fun W => W.heap[w5.heap.size]? = some (.cells #[.string S0, .string S1, .string S2, .string S3, .int .i64 nd, .int .i64 er, .int .i64 D.got.held, .int .i64 (D.got.taken 0), .int .i64 (D.got.taken 1), .int .i64 (D.got.taken 2), .int .i64 (D.got.taken 3), .bool false] 42 (0, 0)))) (by kernel_rfl) ?_
      have hM : W6.drew.heap[w5.heap.size]? = _ := hr6
      have hgd : W6.drew.heap[w.heap.size + 1]? = _ := HG6.out
      have hbd : Below w.heap.size w W6.drew := HBw6.out.drew
      generalize W6.drew = W7 at hM hgd hbd ⊢
      clear hr6
      by_cases h1 : er = 0
      · by_cases h2 : nd = -1
        · have g1 : (er == 0) = true := by simp [h1]
          have g2 : (nd == -1) = true := by simp [h2]
          have HR := Lib.hid (show (decide (er = 0) && decide (nd = -1)) = true by simp [h1, h2])
          clear h1 h2
          refine anyG_take (i := 0) 44 (.agg #[.string S0, .string S1, .string S2, .string S3, .int .i64 nd, .int .i64 er, .int .i64 D.got.held, .int .i64 (D.got.taken 0), .int .i64 (D.got.taken 1), .int .i64 (D.got.taken 2), .int .i64 (D.got.taken 3), .bool false]) rfl rfl (by kernel_rfl) (by kernel_rfl) (by kernel_rfl) rfl (fun W h => by obtain ⟨k0, k1, k2, k3, k4, k5, k6, k7, k8, k9, k10, k11⟩ := HCe.out W h; go_simp) hM ?_
          simp only [Act.put, List.setIfInBounds_toArray, List.set_cons_succ, List.set_cons_zero]
          refine anyG_take (i := 1) 45 (.pointer (some ⟨w5.heap.size, 5, none⟩)) rfl rfl (by kernel_rfl) (by kernel_rfl) (by kernel_rfl) rfl (fun _ _ => by go_simp) hM ?_
          simp only [Act.put, List.setIfInBounds_toArray, List.set_cons_succ, List.set_cons_zero]
          refine anyG_take (i := 2) 46 (.int .i64 er) rfl rfl (by kernel_rfl) (by kernel_rfl) (by kernel_rfl) rfl (fun W h => by obtain ⟨-, -, -, -, -, k5, -⟩ := HCe.out W h; go_simp) hM ?_
          simp only [Act.put, List.setIfInBounds_toArray, List.set_cons_succ, List.set_cons_zero]
          refine anyG_take (i := 3) 47 (.bool true) rfl rfl (by kernel_rfl) (by kernel_rfl) (by kernel_rfl) rfl (fun _ _ => by go_simp) hM ?_
          simp only [Act.put, List.setIfInBounds_toArray, List.set_cons_succ, List.set_cons_zero]
          refine anyG_take (i := 4) 48 (.bool true) rfl rfl (by kernel_rfl) (by kernel_rfl) (by kernel_rfl) rfl (fun _ _ => by go_simp) hM ?_
          simp only [Act.put, List.setIfInBounds_toArray, List.set_cons_succ, List.set_cons_zero]
          refine anyG_take (i := 5) 49 (.pointer (some ⟨w5.heap.size, 4, none⟩)) rfl rfl (by kernel_rfl) (by kernel_rfl) (by kernel_rfl) rfl (fun _ _ => by go_simp) hM ?_
          simp only [Act.put, List.setIfInBounds_toArray, List.set_cons_succ, List.set_cons_zero]
          refine anyG_take (i := 6) 50 (.int .i64 nd) rfl rfl (by kernel_rfl) (by kernel_rfl) (by kernel_rfl) rfl (fun W h => by obtain ⟨-, -, -, -, k4, -⟩ := HCe.out W h; go_simp) hM ?_
          simp only [Act.put, List.setIfInBounds_toArray, List.set_cons_succ, List.set_cons_zero]
          refine anyG_take (i := 7) 51 (.bool true) rfl rfl (by kernel_rfl) (by kernel_rfl) (by kernel_rfl) rfl (fun _ _ => by go_simp) hM ?_
          simp only [Act.put, List.setIfInBounds_toArray, List.set_cons_succ, List.set_cons_zero]
          refine anyG_take (i := 8) 52 (.bool true) rfl rfl (by kernel_rfl) (by kernel_rfl) (by kernel_rfl) rfl (fun _ _ => by go_simp) hM ?_
          simp only [Act.put, List.setIfInBounds_toArray, List.set_cons_succ, List.set_cons_zero]
          refine anyG_take (i := 9) 53 (.bool true) rfl rfl (by kernel_rfl) (by kernel_rfl) (by kernel_rfl) rfl (fun _ _ => by go_simp) hM ?_
          simp only [Act.put, List.setIfInBounds_toArray, List.set_cons_succ, List.set_cons_zero]
          refine anyG_take (i := 10) 54 (.pointer (some ⟨w5.heap.size, 11, none⟩)) rfl rfl (by kernel_rfl) (by kernel_rfl) (by kernel_rfl) rfl (fun _ _ => by go_simp) hM ?_
          simp only [Act.put, List.setIfInBounds_toArray, List.set_cons_succ, List.set_cons_zero]
          refine anyG_take (i := 11) 55 (.bool false) rfl rfl (by kernel_rfl) (by kernel_rfl) (by kernel_rfl) rfl (fun W h => by obtain ⟨-, -, -, -, -, -, -, -, -, -, -, k11⟩ := HCe.out W h; go_simp) hM ?_
          simp only [Act.put, List.setIfInBounds_toArray, List.set_cons_succ, List.set_cons_zero]
          refine anyG_take (i := 12) 56 (.bool true) rfl rfl (by kernel_rfl) (by kernel_rfl) (by kernel_rfl) rfl (fun _ _ => by go_simp) hM ?_
          simp only [Act.put, List.setIfInBounds_toArray, List.set_cons_succ, List.set_cons_zero]
          refine anyG_take (i := 13) 57 (.bool true) rfl rfl (by kernel_rfl) (by kernel_rfl) (by kernel_rfl) rfl (fun _ _ => by go_simp) hM ?_
          simp only [Act.put, List.setIfInBounds_toArray, List.set_cons_succ, List.set_cons_zero]
          refine anyG_one (i := 14) rfl (by kernel_rfl) rfl ?_
          refine wp_store_row 42 (.tmp 6) (.tmp 44) rfl (w.heap.size + 1) (#[.string S0, .string S1, .string S2, .string S3, .int .i64 nd, .int .i64 er, .int .i64 D.got.held, .int .i64 (D.got.taken 0), .int .i64 (D.got.taken 1), .int .i64 (D.got.taken 2), .int .i64 (D.got.taken 3), .bool false]) rfl rfl 42 (gotA zeroG) hgd (by rw [Tryd.size_got]; rfl) rfl HOne.out ?_
          have hM2 := (setRow_other W7 (w.heap.size + 1) w5.heap.size (#[.string S0, .string S1, .string S2, .string S3, .int .i64 nd, .int .i64 er, .int .i64 D.got.held, .int .i64 (D.got.taken 0), .int .i64 (D.got.taken 1), .int .i64 (D.got.taken 2), .int .i64 (D.got.taken 3), .bool false]) (by omega)).trans hM
          refine ⟨hM2, ?_⟩
          have hg8 := setRow_heap W7 (w.heap.size + 1) (gotA zeroG) (#[.string S0, .string S1, .string S2, .string S3, .int .i64 nd, .int .i64 er, .int .i64 D.got.held, .int .i64 (D.got.taken 0), .int .i64 (D.got.taken 1), .int .i64 (D.got.taken 2), .int .i64 (D.got.taken 3), .bool false]) _ _ hgd
          have hb8 : Below w.heap.size w (W7.setRow (w.heap.size + 1) (#[.string S0, .string S1, .string S2, .string S3, .int .i64 nd, .int .i64 er, .int .i64 D.got.held, .int .i64 (D.got.taken 0), .int .i64 (D.got.taken 1), .int .i64 (D.got.taken 2), .int .i64 (D.got.taken 3), .bool false])) := hbd.trans ⟨rfl, rfl, rfl, by simp, fun j hj => setRow_other _ _ _ _ (by omega)⟩
          generalize W7.setRow (w.heap.size + 1) (#[.string S0, .string S1, .string S2, .string S3, .int .i64 nd, .int .i64 er, .int .i64 D.got.held, .int .i64 (D.got.taken 0), .int .i64 (D.got.taken 1), .int .i64 (D.got.taken 2), .int .i64 (D.got.taken 3), .bool false]) = W8 at hM2 hg8 hb8 ⊢
          refine anyG_one (i := 15) rfl (by kernel_rfl) rfl ?_
          go_wp2_with fail
          refine ⟨by kernel_rfl, NoPanic.normal ?_⟩
          go_wp2_with fail
          refine ret_told rfl rfl rfl rfl rfl hg8 ?_
          exact ⟨by rw [HLit.out, ← HEr.out, ← HNd.out, HR.out]; rfl, hb8⟩
        · have g1 : (er == 0) = true := by simp [h1]
          have g2 : (nd == -1) = false := by simp [h2]
          have HR := Lib.hid (show (decide (er = 0) && decide (nd = -1)) = false by simp [h2])
          clear h1 h2
          refine anyG_take (i := 0) 44 (.agg #[.string S0, .string S1, .string S2, .string S3, .int .i64 nd, .int .i64 er, .int .i64 D.got.held, .int .i64 (D.got.taken 0), .int .i64 (D.got.taken 1), .int .i64 (D.got.taken 2), .int .i64 (D.got.taken 3), .bool false]) rfl rfl (by kernel_rfl) (by kernel_rfl) (by kernel_rfl) rfl (fun W h => by obtain ⟨k0, k1, k2, k3, k4, k5, k6, k7, k8, k9, k10, k11⟩ := HCe.out W h; go_simp) hM ?_
          simp only [Act.put, List.setIfInBounds_toArray, List.set_cons_succ, List.set_cons_zero]
          refine anyG_take (i := 1) 45 (.pointer (some ⟨w5.heap.size, 5, none⟩)) rfl rfl (by kernel_rfl) (by kernel_rfl) (by kernel_rfl) rfl (fun _ _ => by go_simp) hM ?_
          simp only [Act.put, List.setIfInBounds_toArray, List.set_cons_succ, List.set_cons_zero]
          refine anyG_take (i := 2) 46 (.int .i64 er) rfl rfl (by kernel_rfl) (by kernel_rfl) (by kernel_rfl) rfl (fun W h => by obtain ⟨-, -, -, -, -, k5, -⟩ := HCe.out W h; go_simp) hM ?_
          simp only [Act.put, List.setIfInBounds_toArray, List.set_cons_succ, List.set_cons_zero]
          refine anyG_take (i := 3) 47 (.bool true) rfl rfl (by kernel_rfl) (by kernel_rfl) (by kernel_rfl) rfl (fun _ _ => by go_simp) hM ?_
          simp only [Act.put, List.setIfInBounds_toArray, List.set_cons_succ, List.set_cons_zero]
          refine anyG_take (i := 4) 48 (.bool true) rfl rfl (by kernel_rfl) (by kernel_rfl) (by kernel_rfl) rfl (fun _ _ => by go_simp) hM ?_
          simp only [Act.put, List.setIfInBounds_toArray, List.set_cons_succ, List.set_cons_zero]
          refine anyG_take (i := 5) 49 (.pointer (some ⟨w5.heap.size, 4, none⟩)) rfl rfl (by kernel_rfl) (by kernel_rfl) (by kernel_rfl) rfl (fun _ _ => by go_simp) hM ?_
          simp only [Act.put, List.setIfInBounds_toArray, List.set_cons_succ, List.set_cons_zero]
          refine anyG_take (i := 6) 50 (.int .i64 nd) rfl rfl (by kernel_rfl) (by kernel_rfl) (by kernel_rfl) rfl (fun W h => by obtain ⟨-, -, -, -, k4, -⟩ := HCe.out W h; go_simp) hM ?_
          simp only [Act.put, List.setIfInBounds_toArray, List.set_cons_succ, List.set_cons_zero]
          refine anyG_take (i := 7) 51 (.bool false) rfl rfl (by kernel_rfl) (by kernel_rfl) (by kernel_rfl) rfl (fun _ _ => by go_simp) hM ?_
          simp only [Act.put, List.setIfInBounds_toArray, List.set_cons_succ, List.set_cons_zero]
          refine anyG_take (i := 8) 52 (.bool false) rfl rfl (by kernel_rfl) (by kernel_rfl) (by kernel_rfl) rfl (fun _ _ => by go_simp) hM ?_
          simp only [Act.put, List.setIfInBounds_toArray, List.set_cons_succ, List.set_cons_zero]
          refine anyG_take (i := 9) 53 (.bool false) rfl rfl (by kernel_rfl) (by kernel_rfl) (by kernel_rfl) rfl (fun _ _ => by go_simp) hM ?_
          simp only [Act.put, List.setIfInBounds_toArray, List.set_cons_succ, List.set_cons_zero]
          refine anyG_skip (i := 10) 54 rfl rfl (by kernel_rfl) (by kernel_rfl) (by kernel_rfl) rfl hM ?_
          simp only [Act.put, List.setIfInBounds_toArray, List.set_cons_succ, List.set_cons_zero]
          refine anyG_skip (i := 11) 55 rfl rfl (by kernel_rfl) (by kernel_rfl) (by kernel_rfl) rfl hM ?_
          simp only [Act.put, List.setIfInBounds_toArray, List.set_cons_succ, List.set_cons_zero]
          refine anyG_skip (i := 12) 56 rfl rfl (by kernel_rfl) (by kernel_rfl) (by kernel_rfl) rfl hM ?_
          simp only [Act.put, List.setIfInBounds_toArray, List.set_cons_succ, List.set_cons_zero]
          refine anyG_take (i := 13) 57 (.bool false) rfl rfl (by kernel_rfl) (by kernel_rfl) (by kernel_rfl) rfl (fun _ _ => by go_simp) hM ?_
          simp only [Act.put, List.setIfInBounds_toArray, List.set_cons_succ, List.set_cons_zero]
          refine anyG_one (i := 14) rfl (by kernel_rfl) rfl ?_
          refine wp_store_row 42 (.tmp 6) (.tmp 44) rfl (w.heap.size + 1) (#[.string S0, .string S1, .string S2, .string S3, .int .i64 nd, .int .i64 er, .int .i64 D.got.held, .int .i64 (D.got.taken 0), .int .i64 (D.got.taken 1), .int .i64 (D.got.taken 2), .int .i64 (D.got.taken 3), .bool false]) rfl rfl 42 (gotA zeroG) hgd (by rw [Tryd.size_got]; rfl) rfl HOne.out ?_
          have hM2 := (setRow_other W7 (w.heap.size + 1) w5.heap.size (#[.string S0, .string S1, .string S2, .string S3, .int .i64 nd, .int .i64 er, .int .i64 D.got.held, .int .i64 (D.got.taken 0), .int .i64 (D.got.taken 1), .int .i64 (D.got.taken 2), .int .i64 (D.got.taken 3), .bool false]) (by omega)).trans hM
          refine ⟨hM2, ?_⟩
          have hg8 := setRow_heap W7 (w.heap.size + 1) (gotA zeroG) (#[.string S0, .string S1, .string S2, .string S3, .int .i64 nd, .int .i64 er, .int .i64 D.got.held, .int .i64 (D.got.taken 0), .int .i64 (D.got.taken 1), .int .i64 (D.got.taken 2), .int .i64 (D.got.taken 3), .bool false]) _ _ hgd
          have hb8 : Below w.heap.size w (W7.setRow (w.heap.size + 1) (#[.string S0, .string S1, .string S2, .string S3, .int .i64 nd, .int .i64 er, .int .i64 D.got.held, .int .i64 (D.got.taken 0), .int .i64 (D.got.taken 1), .int .i64 (D.got.taken 2), .int .i64 (D.got.taken 3), .bool false])) := hbd.trans ⟨rfl, rfl, rfl, by simp, fun j hj => setRow_other _ _ _ _ (by omega)⟩
          generalize W7.setRow (w.heap.size + 1) (#[.string S0, .string S1, .string S2, .string S3, .int .i64 nd, .int .i64 er, .int .i64 D.got.held, .int .i64 (D.got.taken 0), .int .i64 (D.got.taken 1), .int .i64 (D.got.taken 2), .int .i64 (D.got.taken 3), .bool false]) = W8 at hM2 hg8 hb8 ⊢
          refine anyG_one (i := 15) rfl (by kernel_rfl) rfl ?_
          go_wp2_with fail
          refine ⟨by kernel_rfl, NoPanic.normal ?_⟩
          go_wp2_with fail
          refine ret_told rfl rfl rfl rfl rfl hg8 ?_
          exact ⟨by rw [HLit.out, ← HEr.out, ← HNd.out, HR.out]; rfl, hb8⟩
      · have g1 : (er == 0) = false := by simp [h1]
        have HR := Lib.hid (show (decide (er = 0) && decide (nd = -1)) = false by simp [h1])
        clear h1
        refine anyG_take (i := 0) 44 (.agg #[.string S0, .string S1, .string S2, .string S3, .int .i64 nd, .int .i64 er, .int .i64 D.got.held, .int .i64 (D.got.taken 0), .int .i64 (D.got.taken 1), .int .i64 (D.got.taken 2), .int .i64 (D.got.taken 3), .bool false]) rfl rfl (by kernel_rfl) (by kernel_rfl) (by kernel_rfl) rfl (fun W h => by obtain ⟨k0, k1, k2, k3, k4, k5, k6, k7, k8, k9, k10, k11⟩ := HCe.out W h; go_simp) hM ?_
        simp only [Act.put, List.setIfInBounds_toArray, List.set_cons_succ, List.set_cons_zero]
        refine anyG_take (i := 1) 45 (.pointer (some ⟨w5.heap.size, 5, none⟩)) rfl rfl (by kernel_rfl) (by kernel_rfl) (by kernel_rfl) rfl (fun _ _ => by go_simp) hM ?_
        simp only [Act.put, List.setIfInBounds_toArray, List.set_cons_succ, List.set_cons_zero]
        refine anyG_take (i := 2) 46 (.int .i64 er) rfl rfl (by kernel_rfl) (by kernel_rfl) (by kernel_rfl) rfl (fun W h => by obtain ⟨-, -, -, -, -, k5, -⟩ := HCe.out W h; go_simp) hM ?_
        simp only [Act.put, List.setIfInBounds_toArray, List.set_cons_succ, List.set_cons_zero]
        refine anyG_take (i := 3) 47 (.bool false) rfl rfl (by kernel_rfl) (by kernel_rfl) (by kernel_rfl) rfl (fun _ _ => by go_simp) hM ?_
        simp only [Act.put, List.setIfInBounds_toArray, List.set_cons_succ, List.set_cons_zero]
        refine anyG_take (i := 4) 48 (.bool false) rfl rfl (by kernel_rfl) (by kernel_rfl) (by kernel_rfl) rfl (fun _ _ => by go_simp) hM ?_
        simp only [Act.put, List.setIfInBounds_toArray, List.set_cons_succ, List.set_cons_zero]
        refine anyG_skip (i := 5) 49 rfl rfl (by kernel_rfl) (by kernel_rfl) (by kernel_rfl) rfl hM ?_
        simp only [Act.put, List.setIfInBounds_toArray, List.set_cons_succ, List.set_cons_zero]
        refine anyG_skip (i := 6) 50 rfl rfl (by kernel_rfl) (by kernel_rfl) (by kernel_rfl) rfl hM ?_
        simp only [Act.put, List.setIfInBounds_toArray, List.set_cons_succ, List.set_cons_zero]
        refine anyG_skip (i := 7) 51 rfl rfl (by kernel_rfl) (by kernel_rfl) (by kernel_rfl) rfl hM ?_
        simp only [Act.put, List.setIfInBounds_toArray, List.set_cons_succ, List.set_cons_zero]
        refine anyG_take (i := 8) 52 (.bool false) rfl rfl (by kernel_rfl) (by kernel_rfl) (by kernel_rfl) rfl (fun _ _ => by go_simp) hM ?_
        simp only [Act.put, List.setIfInBounds_toArray, List.set_cons_succ, List.set_cons_zero]
        refine anyG_take (i := 9) 53 (.bool false) rfl rfl (by kernel_rfl) (by kernel_rfl) (by kernel_rfl) rfl (fun _ _ => by go_simp) hM ?_
        simp only [Act.put, List.setIfInBounds_toArray, List.set_cons_succ, List.set_cons_zero]
        refine anyG_skip (i := 10) 54 rfl rfl (by kernel_rfl) (by kernel_rfl) (by kernel_rfl) rfl hM ?_
        simp only [Act.put, List.setIfInBounds_toArray, List.set_cons_succ, List.set_cons_zero]
        refine anyG_skip (i := 11) 55 rfl rfl (by kernel_rfl) (by kernel_rfl) (by kernel_rfl) rfl hM ?_
        simp only [Act.put, List.setIfInBounds_toArray, List.set_cons_succ, List.set_cons_zero]
        refine anyG_skip (i := 12) 56 rfl rfl (by kernel_rfl) (by kernel_rfl) (by kernel_rfl) rfl hM ?_
        simp only [Act.put, List.setIfInBounds_toArray, List.set_cons_succ, List.set_cons_zero]
        refine anyG_take (i := 13) 57 (.bool false) rfl rfl (by kernel_rfl) (by kernel_rfl) (by kernel_rfl) rfl (fun _ _ => by go_simp) hM ?_
        simp only [Act.put, List.setIfInBounds_toArray, List.set_cons_succ, List.set_cons_zero]
        refine anyG_one (i := 14) rfl (by kernel_rfl) rfl ?_
        refine wp_store_row 42 (.tmp 6) (.tmp 44) rfl (w.heap.size + 1) (#[.string S0, .string S1, .string S2, .string S3, .int .i64 nd, .int .i64 er, .int .i64 D.got.held, .int .i64 (D.got.taken 0), .int .i64 (D.got.taken 1), .int .i64 (D.got.taken 2), .int .i64 (D.got.taken 3), .bool false]) rfl rfl 42 (gotA zeroG) hgd (by rw [Tryd.size_got]; rfl) rfl HOne.out ?_
        have hM2 := (setRow_other W7 (w.heap.size + 1) w5.heap.size (#[.string S0, .string S1, .string S2, .string S3, .int .i64 nd, .int .i64 er, .int .i64 D.got.held, .int .i64 (D.got.taken 0), .int .i64 (D.got.taken 1), .int .i64 (D.got.taken 2), .int .i64 (D.got.taken 3), .bool false]) (by omega)).trans hM
        refine ⟨hM2, ?_⟩
        have hg8 := setRow_heap W7 (w.heap.size + 1) (gotA zeroG) (#[.string S0, .string S1, .string S2, .string S3, .int .i64 nd, .int .i64 er, .int .i64 D.got.held, .int .i64 (D.got.taken 0), .int .i64 (D.got.taken 1), .int .i64 (D.got.taken 2), .int .i64 (D.got.taken 3), .bool false]) _ _ hgd
        have hb8 : Below w.heap.size w (W7.setRow (w.heap.size + 1) (#[.string S0, .string S1, .string S2, .string S3, .int .i64 nd, .int .i64 er, .int .i64 D.got.held, .int .i64 (D.got.taken 0), .int .i64 (D.got.taken 1), .int .i64 (D.got.taken 2), .int .i64 (D.got.taken 3), .bool false])) := hbd.trans ⟨rfl, rfl, rfl, by simp, fun j hj => setRow_other _ _ _ _ (by omega)⟩
        generalize W7.setRow (w.heap.size + 1) (#[.string S0, .string S1, .string S2, .string S3, .int .i64 nd, .int .i64 er, .int .i64 D.got.held, .int .i64 (D.got.taken 0), .int .i64 (D.got.taken 1), .int .i64 (D.got.taken 2), .int .i64 (D.got.taken 3), .bool false]) = W8 at hM2 hg8 hb8 ⊢
        refine anyG_one (i := 15) rfl (by kernel_rfl) rfl ?_
        go_wp2_with fail
        refine ⟨by kernel_rfl, NoPanic.normal ?_⟩
        go_wp2_with fail
        refine ret_told rfl rfl rfl rfl rfl hg8 ?_
        exact ⟨by rw [HLit.out, ← HEr.out, ← HNd.out, HR.out]; rfl, hb8⟩

end Go.Proofs.YteghdepedlaneaaDoor
