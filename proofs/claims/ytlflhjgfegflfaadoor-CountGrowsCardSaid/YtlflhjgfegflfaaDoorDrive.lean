/- What Drive does, of every machine that keeps to its contract: the walk. -/
import Derived.Test.YtlflhjgfegflfaaDoorDdefs
import Derived.Test.YtlflhjgfegflfaaDoorRA
import Derived.StillTailTactics
namespace Go.Proofs.YtlflhjgfegflfaaDoor
open Go.RowKit

set_option maxRecDepth 100000 in
set_option maxHeartbeats 80000000 in
theorem drive_any {S : Type} (M : Mach S) (base : Nat) (own : Nat → Prop) (Rep : S → (Nat → Prop) → World → Prop) (T : TypeId) (rv : Value) (fN fH fF fE fM : FuncId) (rN rH rF rE rM : Value) (hD : Driven M base Rep T rv fN fH fF fE fM rN rH rF rE rM)
    (s : S) (iv cv : Value) (ins : List Strm) (cuts : List Int) (w : World) (hbase : base ≤ w.heap.size) (hR : Rep s own w) (hI : IsStrms (fun k => ¬ own k) w iv ins) (hC : IsInts (fun k => ¬ own k) w cv cuts) (hcl : cuts.length ≤ 1000000)
    (hN : ∀ s own w, Rep s own w → M.need s = -1 ∨ M.need s = -2 ∨ (0 ≤ M.need s ∧ M.need s ≤ 3 ∧ M.need s < ins.length)) (hlb : ∀ t ∈ ins, t.bytes.length ≤ 1000000) :
    Calls Tryd.prog 17 #[.iface T rv, iv, cv] w (DriveEnd own Rep w (drive M ins cuts 100000 0 (start M s))) := by
  have HD := Lib.hid hD
  have HN := Lib.hid hN
  have HIn := Lib.hid (hI.mono (q := fun k => ¬ own k ∧ k < w.heap.size) (fun k hk h => ⟨h, hk⟩))
  have HCu := Lib.hid (hC.mono (q := fun k => ¬ own k ∧ k < w.heap.size) (fun k hk h => ⟨h, hk⟩))
  have HLB := Lib.hid hlb
  obtain ⟨ai, ci, rfl, -⟩ := hI
  obtain ⟨ac, cc, rfl, -⟩ := hC
  obtain ⟨D, hDD⟩ : ∃ D, D = drive M ins cuts 100000 0 (start M s) := ⟨_, rfl⟩
  rw [← hDD]
  have hold := hD.old s own w hR
  have hI0 : DInv M own Rep ins cuts w D 0 (start M s) own (((w.alloc (.cells (gotA zeroG) 42)).alloc (.cells (gotA { zeroG with need := M.need s }) 42)).alloc (.cells (toldA fun _ => false) 83)) := by
    have hb : Below w.heap.size w (((w.alloc (.cells (gotA zeroG) 42)).alloc (.cells (gotA { zeroG with need := M.need s }) 42)).alloc (.cells (toldA fun _ => false) 83)) :=
      (((Below.refl _ _).alloc (Nat.le_refl _) _).alloc (by simp) _).alloc (by simp; omega) _
    obtain ⟨h1, h2, h3⟩ := heap3 w (.cells (gotA zeroG) 42) (.cells (gotA { zeroG with need := M.need s }) 42) (.cells (toldA fun _ => false) 83)
    exact ⟨by omega, hDD, hD.keep s own w _ (fun _ => False) hR (Below.toFrame hb _) (fun _ _ h => h), fun k hk => .inl ⟨hk, hold k hk⟩, rfl, h2, h3, h1, Below.toFrame hb _, fun i _ => by simp [start], fun i t _ => by simp [start], by simp [start]⟩
  have HI0 := Lib.hid hI0
  have hR1 : Rep s own (w.alloc (.cells (gotA zeroG) 42)) := hD.keep s own w _ (fun _ => False) hR (Below.toFrame ((Below.refl _ _).alloc (Nat.le_refl _) _) _) (fun _ _ h => h)
  have HR1 := Lib.hid hR1
  have goN := hD.goN
  have inN := hD.inN
  unfold Goes at goN
  unfold Enters at inN
  clear hD hR hN hI0 hR1 hDD hlb hold
  go_enter Tryd.func17, Tryd.ntmps17
  go_wp2_with fail
  refine (HD.out.need s _ _ HR1.out).mono ?_
  rintro e w' ⟨rfl, rfl⟩
  clear goN inN
  go_wp2_with fail
  go_loopw [9] (fun nv wr => ∃ n x now, nv = .int .i64 (n : Nat) ∧ DInv M own Rep ins cuts w D n x now wr) (fun nv _ => 100000 - (intOf nv).toNat)
  case atStart => exact ⟨0, start M s, own, rfl, HI0.out⟩
  case round =>
    clear HI0 HR1
    obtain ⟨n, x, now, rfl, hinv⟩ := hrel
    have HV := Lib.hid hinv
    have hle := hinv.le
    have cE := hinv.got.errC
    have cN := hinv.got.needC
    have hold : ∀ k, now k ∨ k < base → (k < w.heap.size ∨ w.heap.size + 3 ≤ k) ∧ k < wr.heap.size := by
      intro k hk
      have hgl := (Array.getElem?_eq_some_iff.1 hinv.told).1
      rcases hk with hk | hk
      · have := HD.out.old _ _ _ hinv.rep k hk
        have := hinv.here k hk
        omega
      · omega
    have HOld := Lib.hid hold
    have HGot := Lib.hid (show wr.heap[w.heap.size + 1]? = some (.cells (gotA x.got) 42 (0, 0)) from hinv.got)
    clear hinv hold
    have HLe := Lib.hid hle
    clear hle
    by_cases hn : (n : Int) < 100000
    · by_cases he : x.got.err = 0
      · by_cases hm1 : x.got.need = -1
        · have HX := Lib.hid (show D = x by rw [HV.out.eq]; exact drive_stop M ins cuts _ n x (by rintro ⟨_, h⟩; exact h hm1))
          rw [hm1] at cN
          rw [he] at cE
          clear he hm1
          go_wp2_with (first
            | (with_reducible refine wpList_load_row rfl 42 (.tmp 7) rfl (w.heap.size + 1) rfl 42 (gotA x.got) (0, 0) _ HGot.out Tryd.underlying42 rfl (by rw [Tryd.size_got, size_gotA]) ?_)
            | (with_reducible refine wpList_store_row rfl 42 (.tmp 6) (.tmp 147) rfl w.heap.size (gotA x.got) rfl rfl 42 (gotA zeroG) HV.out.res (by rw [Tryd.size_got, size_gotA]) rfl (one_gotA _) ?_))
          have hdone := HV.out.done HD.out.keep HOld.out HX.out
          try simp only [Exit.inBlock, Exit.then]
          exact ret_got rfl rfl rfl hdone.2 hdone.1
        · by_cases hm2 : x.got.need = -2
          · have HM := Lib.hid (show M.need x.s = -2 by rw [← HV.out.need, hm2])
            have HStep := Lib.hid (show step M ins cuts n x = some (after M x (M.more x.s)) by rw [step, if_pos hm2])
            have HD1 := Lib.hid (show x.got.err = 0 ∧ x.got.need ≠ -1 from ⟨he, hm1⟩)
            rw [hm2] at cN
            rw [he] at cE
            have goM := HD.out.goM
            have inM := HD.out.inM
            unfold Goes at goM
            unfold Enters at inM
            clear he hm1 hm2
            go_wp2_with fail
            clear goM inM
            refine (HD.out.more x.s now wr HV.out.rep HM.out).mono ?_
            rintro e w1 ⟨v, rfl, ho, ⟨now', hr1, hnow⟩, hf1, hok, hol⟩
            have hg3 := (Array.getElem?_eq_some_iff.1 HV.out.told).1
            have HNow := Lib.hid (show ∀ k, now' k → (own k ∧ k < w.heap.size) ∨ w.heap.size + 3 ≤ k from fun k hk => by rcases hnow k hk with h | h; exact HV.out.here k h; exact .inr (by omega))
            have HOld2 := Lib.hid (show ∀ k, now' k ∨ k < base → k < w.heap.size ∨ w.heap.size + 3 ≤ k from fun k hk => by rcases hk with hk | hk; (have := HNow.out k hk; omega); (have := hbase; omega))
            clear hnow hg3
            generalize M.more x.s = r at ho hr1 hok hol HStep ⊢
            have hgot1 := HV.out.got.frame hf1 (fun h => by have := HOld.out _ (.inl h); omega)
            have ho1 : IsOuts (· ≠ w.heap.size + 1) w1 v r.2.1 := ho.mono (fun k _ h => by have := HV.out.got.lt; omega)
            have HGot1 := Lib.hid hgot1
            have HO1 := Lib.hid ho1
            have HR1 := Lib.hid hr1
            have HF1 := Lib.hid hf1
            have HOk := Lib.hid hok
            have hsz := HV.out.outs
            have HSz := Lib.hid (show ∀ i, i ≤ 3 → (x.got.outs i).length ≤ 1000000000 from fun i hi => by have := hsz i hi; omega)
            clear ho hr1 hf1 hok hgot1 ho1 cE cN hsz
            go_wp2_with fail
            refine (put_any (w.heap.size + 1) x.got v r.2.1 r.2.2 w1 HGot1.out HO1.out HOk.out hol HSz.out).mono ?_
            rintro e w2 ⟨rfl, hgot2, hf2⟩
            have HGot2 := Lib.hid hgot2
            have HF2 := Lib.hid hf2
            have hr2 := HD.out.keep _ _ _ w2.drew _ HR1.out hf2.drew (fun k hk e => by have := HOld2.out k hk; omega)
            have HR2 := Lib.hid hr2
            have cH := hgot2.heldC
            simp only at cH
            have goH := HD.out.goH
            have inH := HD.out.inH
            unfold Goes at goH
            unfold Enters at inH
            have hbH := HD.out.heldB _ _ _ hr2
            clear hgot2 hf2 hr2
            go_wp2_with fail
            refine anyG_start (S := fun _ => True) (by kernel_rfl) ?_
            refine anyG_take (i := 0) 49 (.pointer (some ⟨w.heap.size + 1, 6, none⟩)) rfl rfl (by kernel_rfl) (by kernel_rfl) (by kernel_rfl) rfl (fun _ _ => by go_simp) trivial ?_
            try simp only [Act.put, List.setIfInBounds_toArray, List.set_cons_succ, List.set_cons_zero]
            refine anyG_take (i := 2) 51 (.iface T rv) rfl rfl (by kernel_rfl) (by kernel_rfl) (by kernel_rfl) rfl (fun _ _ => by go_simp) trivial ?_
            try simp only [Act.put, List.setIfInBounds_toArray, List.set_cons_succ, List.set_cons_zero]
            refine anyG_quiet (i := 1) (j := 3) (Below w2.drew.heap.size w2.drew) 50 52 (.int .i64 x.got.held) (.int .i64 (M.held r.1)) rfl rfl rfl rfl (by decide) (by decide) (by kernel_rfl) (by kernel_rfl) (by kernel_rfl) rfl rfl rfl rfl (by go_simp) (fun w' hw' => by have cH2 := (Below.toFrame hw' (fun _ => False)).cell? (a := w2.drew) cH (fun h => h); go_simp) (fun K hK => ?_) (fun K hK => ?_) (fun W3 hb3 => ?_)
            · go_simp
              refine (HD.out.held _ _ _ HR2.out).mono ?_
              rintro e w' ⟨rfl, hb⟩
              exact hK _ hb
            · go_simp
              refine (HD.out.held _ _ _ HR2.out).mono ?_
              rintro e w' ⟨rfl, hb⟩
              exact hK _ hb
            try simp only [Act.put, List.setIfInBounds_toArray, List.set_cons_succ, List.set_cons_zero]
            have hgd := IsGot.past (w := w2.drew) HGot2.out hb3
            have hfd := HF2.out.drew.trans (Below.toFrame hb3 _)
            have hr2 := HD.out.keep _ _ _ _ (fun _ => False) HR2.out (Below.toFrame hb3 _) (fun _ _ h => h)
            clear HR2
            have HR2 := Lib.hid hr2
            clear hr2
            clear hb3 cH
            have hz6 := hgd.froz 6
            have cH := hgd.heldC
            have HGd := Lib.hid hgd
            have HFd := Lib.hid hfd
            have goN := HD.out.goN
            have inN := HD.out.inN
            unfold Goes at goN
            unfold Enters at inN
            clear hgd hfd goH inH
            obtain ⟨mx, hmx⟩ : ∃ mx, mx = (if x.got.held < M.held r.1 then M.held r.1 else x.got.held) := ⟨_, rfl⟩
            have HMg := Lib.hid hmx.symm
            have hmx2 : mx = max x.got.held (M.held r.1) := by rw [hmx]; split <;> omega
            have HMx := Lib.hid hmx2
            have HBH := Lib.hid hbH
            clear hmx hmx2 hbH
            refine anyG_step (i := 4) rfl (by kernel_rfl) rfl (fun K hK => ?_)
            go_simp
            rw [HMg.out]
            refine hK.out _ _ trivial ?_
            clear hK K
            try simp only [Act.put, List.setIfInBounds_toArray, List.set_cons_succ, List.set_cons_zero]
            refine anyG_step (i := 5) rfl (by kernel_rfl) rfl (fun K hK => ?_)
            go_simp
            refine hK.out _ _ trivial ?_
            clear hK K
            try simp only [Act.put, List.setIfInBounds_toArray, List.set_cons_succ, List.set_cons_zero]
            refine anyG_step (i := 6) rfl (by kernel_rfl) rfl (fun K hK => ?_)
            go_simp
            refine hK.out _ _ trivial ?_
            clear hK K
            try simp only [Act.put, List.setIfInBounds_toArray, List.set_cons_succ, List.set_cons_zero]
            refine anyG_done (by kernel_rfl) ?_
            go_wp2_with fail
            have hg4 := HGd.out.putHeld mx
            have hf4 := HFd.out.trans (Frame.cell W3 ⟨w.heap.size + 1, 6, none⟩ (.int .i64 mx))
            have hr4 := HD.out.keep _ _ _ _ _ HR2.out (Frame.cell W3 ⟨w.heap.size + 1, 6, none⟩ (.int .i64 mx)) (fun k hk e => by have := HOld2.out k hk; simp at e; omega)
            generalize W3.setCell ⟨w.heap.size + 1, 6, none⟩ (.int .i64 mx) = W4 at hg4 hf4 hr4 ⊢
            have HG4 := Lib.hid hg4
            have HF4 := Lib.hid hf4
            have HR4 := Lib.hid hr4
            clear hg4 hf4 hr4 cH hz6 HGd HFd HR2 inN goN
            refine (HD.out.need _ _ _ HR4.out).mono ?_
            rintro e w5 ⟨rfl, rfl⟩
            have cN := HG4.out.needC
            have hz4 := HG4.out.froz 4
            go_wp2_with fail
            have hcell := Frame.cell W4 ⟨w.heap.size + 1, 4, none⟩ (.int .i64 (M.need r.1))
            have hg5 := HG4.out.putNeed (M.need r.1)
            rw [HMx.out] at hg5
            have hfr : Frame (fun k => now k ∨ k = w.heap.size + 1) wr _ := (HF1.out.mono (fun _ _ h => .inl h)).trans ((HF4.out.trans hcell).mono (fun _ _ h => .inr h))
            refine ⟨⟨n + 1, after M x r, now', by go_num, HV.out.next hn HD1.out x r HStep.out (HD.out.keep _ _ _ _ _ HR4.out hcell (fun k hk e => by have := HOld2.out k hk; simp at e; omega)) HNow.out hg5 (hfr.heap HV.out.told (fun h => by rcases h with h | h; (have := HOld.out _ (.inl h); omega); omega)) (hfr.mono (fun _ _ h => by rcases h with h | h; exact .inl h; exact .inr (.inl h))) HOk.out rfl HV.out.taken rfl HBH.out⟩, ?_⟩
            simp [intOf]
            omega
          · have hnd := HN.out x.s now wr HV.out.rep
            rw [← HV.out.need] at hnd
            obtain ⟨k, hk, hk3, hkl⟩ : ∃ k : Nat, x.got.need = k ∧ k ≤ 3 ∧ k < ins.length := ⟨x.got.need.toNat, by omega, by omega, by omega⟩
            have HK := Lib.hid hk
            have HD1 := Lib.hid (show x.got.err = 0 ∧ x.got.need ≠ -1 from ⟨he, hm1⟩)
            rw [hk] at cN
            rw [he] at cE
            obtain ⟨t, ht⟩ : ∃ t, ins[k]? = some t := ⟨ins[k], by simp⟩
            have HT := Lib.hid ht
            have hlb := HLB.out t (List.mem_of_getElem? ht)
            have htk := HV.out.taken k t ht
            have hInw := HIn.out.frame HV.out.fr (fun k h e => by rcases e with e | e; exact h.1 e; omega)
            obtain ⟨_, _, e, hcs⟩ := hInw
            cases e
            obtain ⟨gb, off, bv, rfl, hgb, c0, c1, -, -, -, hbytes⟩ := hcs k t ht
            obtain ⟨ab, cb, rfl, hcb, -⟩ := id hbytes
            have HBy := Lib.hid hbytes
            have cT := HV.out.got.takenC hk3
            have cTo : wr.cell? ⟨w.heap.size + 1 + 1, k, none⟩ = some (.bool (x.told k)) := by rw [cell_of_row _ _ _ _ _ _ HV.out.told]; exact told_at x.told hk3
            have q1 : ((k : Int) == -2) = false := by simp
            have q2 : ((k : Int) != -1) = true := by simp
            have q3 : decide ((k : Int) < 0) = false := by simp
            have q4 : ¬ (ins.length : Int) ≤ (k : Int) := by omega
            have q5 : ¬ (3 : Int) < (k : Int) := by omega
            have q6 : (k : Int) < 4 := by omega
            have q7 : (0 : Int) ≤ (k : Int) := by omega
            have q8 : (k : Int) < (ins.length : Int) := by omega
            clear hnd hk ht hcs hbytes he hm1 hm2
            by_cases hlt : (x.got.taken k : Int) < (t.bytes.length : Int)
            · have hnk : M.need x.s = k := by rw [← HV.out.need, HK.out]
              have HNk := Lib.hid hnk
              have hcu := HCu.out.frame HV.out.fr (fun k h e => by rcases e with e | e; exact h.1 e; omega)
              obtain ⟨c, hc⟩ : ∃ c, c = cutAt cuts n := ⟨_, rfl⟩
              have hcle := cutAt_le cuts n
              rw [← hc] at hcle
              have HC := Lib.hid hc
              have HCM := Lib.hid (show ∀ m, Calls Tryd.prog 32 #[.slice ac cuts.length cc, .int .i64 n] (wr.drewN m) (fun e w' => e = .returned (.int .i64 c) ∧ w' = wr.drewN m) from fun m => by
                rw [hc]
                exact (cutAt_any _ cuts n (wr.drewN m) (hcu.below ⟨rfl, rfl, rfl, Nat.le_refl _, fun _ _ => rfl⟩) (by omega) hcl).mono fun _ _ h => ⟨h.1, h.2.symm⟩)
              have hw1 : IntKind.i64.wrap ((x.got.taken k : Int) + (c : Int)) = (x.got.taken k : Int) + (c : Int) := IntWalk.i64_in _ (by omega)
              have r1 : (0 : Int) ≤ (x.got.taken k : Int) := by omega
              clear hnk hcu hc
              go_wp2_with fail
              go_quiet ((go_at_call 32; exact Calls.quiet_of_same (HCM.out _)))
              obtain ⟨q, hq⟩ : ∃ q : Nat, q = min t.bytes.length (x.got.taken k + c) := ⟨_, rfl⟩
              have hqi : (if (x.got.taken k : Int) + (c : Int) < (t.bytes.length : Int) then (x.got.taken k : Int) + (c : Int) else (t.bytes.length : Int)) = (q : Int) := by rw [hq]; split <;> omega
              rw [hqi]
              have HQ := Lib.hid hq
              have s1 : (x.got.taken k : Int) < (q : Int) := by omega
              have s2 : (q : Int) ≤ (t.bytes.length : Int) := by omega
              have s3 : (q : Int) ≤ (cb : Int) := by omega
              have s4 : (x.got.taken k : Int) ≤ (q : Int) := by omega
              have s5 : (0 : Int) ≤ (q : Int) := by omega
              obtain ⟨A, hA2⟩ : ∃ A, (ab.map fun y => y.add (x.got.taken k)) = A := ⟨_, rfl⟩
              have hA : A = if cb = x.got.taken k then ab else ab.map fun y => y.add (x.got.taken k) := by rw [if_neg (by omega)]; exact hA2.symm
              obtain ⟨ch, hch⟩ : ∃ ch, ch = (t.bytes.take q).drop (x.got.taken k) := ⟨_, rfl⟩
              have hchl : ch.length = q - x.got.taken k := by rw [hch]; simp; omega
              have hb1 : IsBytes (fun k => ¬ own k ∧ k < w.heap.size) wr (.slice A (q - x.got.taken k) (cb - x.got.taken k)) ch := by
                rw [hch]
                exact bytes_part HBy.out (by omega) (by omega) hA
              have HB1 := Lib.hid hb1
              have HCh := Lib.hid hch
              have HChl := Lib.hid hchl
              have HStep := Lib.hid (show step M ins cuts n x = some (after M (took x k q) (M.feed x.s ch)) by
                have hm2' : x.got.need ≠ -2 := by rw [HK.out]; omega
                have hkt : x.got.need.toNat = k := by rw [HK.out]; rfl
                simp only [step, if_neg hm2', hkt, HT.out]
                rw [if_pos (by omega)]
                have e1 : toAt cuts x n k t.bytes = q := by rw [toAt, ← HC.out, HQ.out]
                rw [chunkAt, e1, ← HCh.out])
              have hfr0 : Frame (fun _ => False) wr (wr.drewN nq) := (Frame.refl _ _).drewN nq
              have HCM2 := HCM
              clear HCM
              generalize wr.drewN nq = W0 at hfr0 ⊢
              have hgot0 := HV.out.got.frame hfr0 (fun h => h)
              have hown0 := World.ownsRow_made W0 (e := 5) (base := W0.heap.size) (size := 1) #[] 0 (Nat.le_refl _) (by decide) rfl
              have HOwn0 := Lib.hid hown0
              have hb0 := HB1.out.frame hfr0 (fun k hk h => h)
              have HB0 := Lib.hid hb0
              have hszw := hfr0.size
              have hBl := hgot0.lt
              have cT0 : (W0.alloc (.cells #[] 5)).cell? ⟨w.heap.size + 1, 7 + k, none⟩ = some (.int .i64 (x.got.taken k)) := (hgot0.frame (Below.toFrame ((Below.refl _ _).alloc (Nat.le_refl _) _) fun _ => False) (fun h => h)).takenC hk3
              have HG0 := Lib.hid hgot0
              have HF0 := Lib.hid hfr0
              clear hq hqi hw1 hA hb1 hch hchl hown0 hgot0 hfr0 hb0 HB1 c0 c1 cT cTo cE cN
              go_upto_region 20 with (at_builtin; refine wpList_append_bytes rfl (.tmp 93) (.tmp 100) rfl W0.heap.size (.slice (some ⟨W0.heap.size, 0, none⟩) 0 0) (.slice A (q - x.got.taken k) (cb - x.got.taken k)) [] ch rfl HOwn0.out rfl (HB0.out.below ((Below.refl _ _).alloc (Nat.le_refl _) _)) (by have := HChl.out; simp; omega) (by simp) ?_; intro v1 w1 ho1 hg1; have HO1 := Lib.hid ho1; have HG1 := Lib.hid hg1; clear ho1 hg1)
              have hF1 : Frame (fun k => W0.heap.size ≤ k) W0 w1 := ((Frame.refl _ W0).alloc _).grown HG1.out (fun k _ e => by simp [Value.ownBlock] at e; omega)
              have hgot1 := HG0.out.frame hF1 (by omega)
              have cT1 := hgot1.takenC hk3
              have hz1 := hgot1.froz (7 + k)
              have hv1 := isBytes_of_owns HO1.out
              simp only [List.nil_append] at hv1
              have hg2 := hgot1.putTaken hk3 q
              have hc2 := Frame.cell w1 ⟨w.heap.size + 1, 7 + k, none⟩ (.int .i64 q)
              have hf2 : Frame (fun k => now k ∨ k = w.heap.size + 1 ∨ k = w.heap.size + 2) wr (w1.setCell ⟨w.heap.size + 1, 7 + k, none⟩ (.int .i64 q)) := by
                have hf := HF0.out.size
                refine ⟨hc2.os.trans (hF1.os.trans HF0.out.os), hc2.tape.trans (hF1.tape.trans HF0.out.tape), hc2.output.trans (hF1.output.trans HF0.out.output), Nat.le_trans hf (Nat.le_trans hF1.size hc2.size), fun j hj hp => ?_⟩
                rw [hc2.block j (Nat.lt_of_lt_of_le hj (Nat.le_trans hf hF1.size)) (fun e => hp (.inr (.inl e))), hF1.block j (by omega) (by omega), HF0.out.block j hj (fun h => h)]
              have hr2 := HD.out.keep _ _ _ _ (fun k => k = w.heap.size + 1 ∨ W0.heap.size ≤ k) (HD.out.keep _ _ _ _ (fun _ => False) HV.out.rep HF0.out (fun _ _ h => h)) ((hF1.mono (fun _ _ h => .inr h)).trans (hc2.mono (fun _ _ e => .inl e))) (fun k hk e => by have := HOld.out k hk; omega)
              have htoldW := hf2.heap (g := w.heap.size + 2) (o := .cells (toldA x.told) 83 (0, 0))
              clear htoldW
              have htoldW : (w1.setCell ⟨w.heap.size + 1, 7 + k, none⟩ (.int .i64 q)).heap[w.heap.size + 2]? = some (.cells (toldA x.told) 83 (0, 0)) :=
                hc2.heap (hF1.heap (HF0.out.heap HV.out.told (fun h => h)) (by have := (Array.getElem?_eq_some_iff.1 (HF0.out.heap HV.out.told (fun h => h))).1; omega)) (by simp)
              have hvb : IsBytes (fun k => ¬ now k) (w1.setCell ⟨w.heap.size + 1, 7 + k, none⟩ (.int .i64 q)) v1 ch :=
                ((hv1.mono (q := fun j => W0.heap.size ≤ j) (fun _ _ h => h)).frame hc2 (fun j hj e => by have e' : j = w.heap.size + 1 := e; omega)).mono (fun j _ hj h => by have := HOld.out j (.inl h); omega)
              have hnk : M.need x.s = k := by rw [← HV.out.need, HK.out]
              have HNk := Lib.hid hnk
              have HTB := Lib.hid (show ∀ (i : Nat) t', ins[i]? = some t' → (took x k q).got.taken i ≤ t'.bytes.length from fun i t' hi => by
                show (if i = k then q else x.got.taken i) ≤ t'.bytes.length
                split
                · rename_i h
                  subst h
                  rw [HT.out] at hi
                  cases hi
                  omega
                · exact HV.out.taken i t' hi)
              have HTW := Lib.hid htoldW
              have HF1 := Lib.hid hf2
              have HR1 := Lib.hid hr2
              have HG2 := Lib.hid hg2
              have HVB := Lib.hid hvb
              have goF := HD.out.goF
              have inF := HD.out.inF
              unfold Goes at goF
              unfold Enters at inF
              clear htoldW hf2 hr2 hg2 hvb hnk hv1 hgot1 hF1 hc2 hA2
              go_wp2_with fail
              have htoldW := HTW.out
              have hf1 := HF1.out
              have hr1 := HR1.out
              have hg1 := HG2.out
              have hvb := HVB.out
              clear HTW HF1 HR1 HG2 HVB goF inF cT0 cT1 hz1
              generalize w1.setCell ⟨w.heap.size + 1, 7 + k, none⟩ (.int .i64 q) = W1 at htoldW hf1 hr1 hg1 hvb ⊢
              have hcall := HD.out.feed x.s now W1 v1 ch hr1 (by rw [HNk.out]; omega) hvb (by rw [HChl.out]; omega) (by rw [HChl.out]; have := HQ.out; omega)
              rw [HNk.out] at hcall
              refine hcall.mono ?_
              clear hcall hvb
              rintro e w1' ⟨v, rfl, ho, ⟨now', hr2, hnow⟩, hf2, hok, hol⟩
              have hg3 := (Array.getElem?_eq_some_iff.1 htoldW).1
              have HNow := Lib.hid (show ∀ k, now' k → (own k ∧ k < w.heap.size) ∨ w.heap.size + 3 ≤ k from fun k hk => by rcases hnow k hk with h | h; exact HV.out.here k h; exact .inr (by omega))
              have HOld2 := Lib.hid (show ∀ k, now' k ∨ k < base → k < w.heap.size ∨ w.heap.size + 3 ≤ k from fun k hk => by rcases hk with hk | hk; (have := HNow.out k hk; omega); (have := hbase; omega))
              clear hnow hg3
              generalize M.feed x.s ch = r at ho hr2 hok hol HStep ⊢
              have hgot1 := hg1.frame hf2 (fun h => by have := HOld.out _ (.inl h); omega)
              have ho1 : IsOuts (· ≠ w.heap.size + 1) w1' v r.2.1 := ho.mono (fun k _ h => by have := hg1.lt; omega)
              have HGot1 := Lib.hid hgot1
              have HO1' := Lib.hid ho1
              have HR1 := Lib.hid hr2
              have HF1 := Lib.hid (hf1.trans (hf2.mono (fun _ _ h => .inl h)))
              have HTW := Lib.hid (hf2.heap htoldW (fun h => by have := HOld.out _ (.inl h); omega))
              have HOk := Lib.hid hok
              have hsz := HV.out.outs
              have HSz := Lib.hid (show ∀ i, i ≤ 3 → (x.got.outs i).length ≤ 1000000000 from fun i hi => by have := hsz i hi; omega)
              clear ho hr1 hr2 hf1 hf2 hg1 htoldW hok hgot1 ho1 hsz
              go_wp2_with fail
              refine (put_any (w.heap.size + 1) (took x k q).got v r.2.1 r.2.2 w1' HGot1.out HO1'.out HOk.out hol HSz.out).mono ?_
              rintro e w2 ⟨rfl, hgot2, hf2⟩
              have HGot2 := Lib.hid hgot2
              have HF2 := Lib.hid hf2
              have hr2 := HD.out.keep _ _ _ w2.drew _ HR1.out hf2.drew (fun k hk e => by have := HOld2.out k hk; omega)
              have HR2 := Lib.hid hr2
              have cH := hgot2.heldC
              simp only [took] at cH
              have goH := HD.out.goH
              have inH := HD.out.inH
              unfold Goes at goH
              unfold Enters at inH
              have hbH := HD.out.heldB _ _ _ hr2
              clear hgot2 hf2 hr2
              go_wp2_with fail
              refine anyG_start (S := fun _ => True) (by kernel_rfl) ?_
              refine anyG_take (i := 0) 138 (.pointer (some ⟨w.heap.size + 1, 6, none⟩)) rfl rfl (by kernel_rfl) (by kernel_rfl) (by kernel_rfl) rfl (fun _ _ => by go_simp) trivial ?_
              try simp only [Act.put, List.setIfInBounds_toArray, List.set_cons_succ, List.set_cons_zero]
              refine anyG_take (i := 2) 140 (.iface T rv) rfl rfl (by kernel_rfl) (by kernel_rfl) (by kernel_rfl) rfl (fun _ _ => by go_simp) trivial ?_
              try simp only [Act.put, List.setIfInBounds_toArray, List.set_cons_succ, List.set_cons_zero]
              refine anyG_quiet (i := 1) (j := 3) (Below w2.drew.heap.size w2.drew) 139 141 (.int .i64 x.got.held) (.int .i64 (M.held r.1)) rfl rfl rfl rfl (by decide) (by decide) (by kernel_rfl) (by kernel_rfl) (by kernel_rfl) rfl rfl rfl rfl (by go_simp) (fun w' hw' => by have cH2 := (Below.toFrame hw' (fun _ => False)).cell? (a := w2.drew) cH (fun h => h); go_simp) (fun K hK => ?_) (fun K hK => ?_) (fun W3 hb3 => ?_)
              · go_simp
                refine (HD.out.held _ _ _ HR2.out).mono ?_
                rintro e w' ⟨rfl, hb⟩
                exact hK _ hb
              · go_simp
                refine (HD.out.held _ _ _ HR2.out).mono ?_
                rintro e w' ⟨rfl, hb⟩
                exact hK _ hb
              try simp only [Act.put, List.setIfInBounds_toArray, List.set_cons_succ, List.set_cons_zero]
              have hgd := IsGot.past (w := w2.drew) HGot2.out hb3
              have hfd := HF2.out.drew.trans (Below.toFrame hb3 _)
              have hr2 := HD.out.keep _ _ _ _ (fun _ => False) HR2.out (Below.toFrame hb3 _) (fun _ _ h => h)
              clear HR2
              have HR2 := Lib.hid hr2
              clear hr2
              clear hb3 cH
              have hz6 := hgd.froz 6
              have cH := hgd.heldC
              have HGd := Lib.hid hgd
              have HFd := Lib.hid hfd
              have goN := HD.out.goN
              have inN := HD.out.inN
              unfold Goes at goN
              unfold Enters at inN
              clear hgd hfd goH inH
              obtain ⟨mx, hmx⟩ : ∃ mx, mx = (if x.got.held < M.held r.1 then M.held r.1 else x.got.held) := ⟨_, rfl⟩
              have HMg := Lib.hid hmx.symm
              have hmx2 : mx = max x.got.held (M.held r.1) := by rw [hmx]; split <;> omega
              have HMx := Lib.hid hmx2
              have HBH := Lib.hid hbH
              clear hmx hmx2 hbH
              refine anyG_step (i := 4) rfl (by kernel_rfl) rfl (fun K hK => ?_)
              go_simp
              rw [HMg.out]
              refine hK.out _ _ trivial ?_
              clear hK K
              try simp only [Act.put, List.setIfInBounds_toArray, List.set_cons_succ, List.set_cons_zero]
              refine anyG_step (i := 5) rfl (by kernel_rfl) rfl (fun K hK => ?_)
              go_simp
              refine hK.out _ _ trivial ?_
              clear hK K
              try simp only [Act.put, List.setIfInBounds_toArray, List.set_cons_succ, List.set_cons_zero]
              refine anyG_step (i := 6) rfl (by kernel_rfl) rfl (fun K hK => ?_)
              go_simp
              refine hK.out _ _ trivial ?_
              clear hK K
              try simp only [Act.put, List.setIfInBounds_toArray, List.set_cons_succ, List.set_cons_zero]
              refine anyG_done (by kernel_rfl) ?_
              go_wp2_with fail
              have hg4 := HGd.out.putHeld mx
              have hf4 := HFd.out.trans (Frame.cell W3 ⟨w.heap.size + 1, 6, none⟩ (.int .i64 mx))
              have hr4 := HD.out.keep _ _ _ _ _ HR2.out (Frame.cell W3 ⟨w.heap.size + 1, 6, none⟩ (.int .i64 mx)) (fun k hk e => by have := HOld2.out k hk; simp at e; omega)
              generalize W3.setCell ⟨w.heap.size + 1, 6, none⟩ (.int .i64 mx) = W4 at hg4 hf4 hr4 ⊢
              have HG4 := Lib.hid hg4
              have HF4 := Lib.hid hf4
              have HR4 := Lib.hid hr4
              clear hg4 hf4 hr4 cH hz6 HGd HFd HR2 inN goN
              refine (HD.out.need _ _ _ HR4.out).mono ?_
              rintro e w5 ⟨rfl, rfl⟩
              have cN := HG4.out.needC
              have hz4 := HG4.out.froz 4
              go_wp2_with fail
              have hcell := Frame.cell W4 ⟨w.heap.size + 1, 4, none⟩ (.int .i64 (M.need r.1))
              have hg5 := HG4.out.putNeed (M.need r.1)
              rw [HMx.out] at hg5
              have hfr : Frame (fun k => now k ∨ k = w.heap.size + 1 ∨ k = w.heap.size + 2) wr _ := HF1.out.trans ((HF4.out.trans hcell).mono (fun _ _ h => .inr (.inl h)))
              refine ⟨⟨n + 1, after M (took x k q) r, now', by go_num, HV.out.next hn HD1.out (took x k q) r HStep.out (HD.out.keep _ _ _ _ _ HR4.out hcell (fun k hk e => by have := HOld2.out k hk; simp at e; omega)) HNow.out hg5 ((HF4.out.trans hcell).heap HTW.out (fun h => by omega)) hfr HOk.out rfl HTB.out rfl HBH.out⟩, ?_⟩
              simp [intOf]
              omega
            · by_cases hend : t.ended = true ∧ x.told k = false
              · have HStep := Lib.hid (show step M ins cuts n x = some (after M (tells x k) (M.fin x.s)) by
                  have hm2' : x.got.need ≠ -2 := by rw [HK.out]; omega
                  have hkt : x.got.need.toNat = k := by rw [HK.out]; rfl
                  simp only [step, if_neg hm2', hkt, HT.out]
                  rw [if_neg (by omega), if_pos hend])
                have hnk : M.need x.s = k := by rw [← HV.out.need, HK.out]
                have HNk := Lib.hid hnk
                obtain ⟨h1, h2⟩ := hend
                rw [h1] at c1
                rw [h2] at cTo
                have hz8 : wr.frozen? ⟨w.heap.size + 1 + 1, k, none⟩ = false := by
                  have := HV.out.told
                  rw [show w.heap.size + 2 = w.heap.size + 1 + 1 from rfl] at this
                  simp [World.frozen?, this]
                have htoldW : (wr.setCell ⟨w.heap.size + 1 + 1, k, none⟩ (.bool true)).heap[w.heap.size + 2]? = some (.cells (toldA (tells x k).told) 83 (0, 0)) := by
                  have := setCell_row (o := k) (v := .bool true) HV.out.told
                  rw [told_set x.told hk3] at this
                  exact this
                have hf1 := Frame.cell wr ⟨w.heap.size + 1 + 1, k, none⟩ (.bool true)
                have hr1 := HD.out.keep _ _ _ _ _ HV.out.rep hf1 (fun j hj e => by have := HOld.out j hj; simp at e; omega)
                have hg1 := HV.out.got.frame hf1 (fun e => by simp at e)
                have HTW := Lib.hid htoldW
                have HF1 := Lib.hid hf1
                have HR1 := Lib.hid hr1
                have HG1 := Lib.hid hg1
                have goE := HD.out.goE
                have inE := HD.out.inE
                unfold Goes at goE
                unfold Enters at inE
                clear h1 h2 htoldW hf1 hr1 hg1 hnk
                go_wp2_with fail
                have htoldW := HTW.out
                have hf1 := HF1.out
                have hr1 := HR1.out
                have hg1 := HG1.out
                clear HTW HF1 HR1 HG1 goE inE cT cTo c0 c1 cE cN hz8
                generalize wr.setCell ⟨w.heap.size + 1 + 1, k, none⟩ (.bool true) = W1 at htoldW hf1 hr1 hg1 ⊢
                have hcall := HD.out.fin x.s now W1 hr1 (by rw [HNk.out]; omega)
                rw [HNk.out] at hcall
                refine hcall.mono ?_
                clear hcall
                rintro e w1 ⟨v, rfl, ho, ⟨now', hr2, hnow⟩, hf2, hok, hol⟩
                have hg3 := (Array.getElem?_eq_some_iff.1 htoldW).1
                have HNow := Lib.hid (show ∀ k, now' k → (own k ∧ k < w.heap.size) ∨ w.heap.size + 3 ≤ k from fun k hk => by rcases hnow k hk with h | h; exact HV.out.here k h; exact .inr (by omega))
                have HOld2 := Lib.hid (show ∀ k, now' k ∨ k < base → k < w.heap.size ∨ w.heap.size + 3 ≤ k from fun k hk => by rcases hk with hk | hk; (have := HNow.out k hk; omega); (have := hbase; omega))
                clear hnow hg3
                generalize M.fin x.s = r at ho hr2 hok hol HStep ⊢
                have hgot1 := hg1.frame hf2 (fun h => by have := HOld.out _ (.inl h); omega)
                have ho1 : IsOuts (· ≠ w.heap.size + 1) w1 v r.2.1 := ho.mono (fun k _ h => by have := hg1.lt; omega)
                have HGot1 := Lib.hid hgot1
                have HO1 := Lib.hid ho1
                have HR1 := Lib.hid hr2
                have HF1 := Lib.hid ((hf1.mono (q := fun k => now k ∨ k = w.heap.size + 1 ∨ k = w.heap.size + 2) (fun k _ e => by have e' : k = w.heap.size + 1 + 1 := e; exact .inr (.inr e'))).trans (hf2.mono (fun _ _ h => .inl h)))
                have HTW := Lib.hid (hf2.heap htoldW (fun h => by have := HOld.out _ (.inl h); omega))
                have HOk := Lib.hid hok
                have hsz := HV.out.outs
                have HSz := Lib.hid (show ∀ i, i ≤ 3 → (x.got.outs i).length ≤ 1000000000 from fun i hi => by have := hsz i hi; omega)
                clear ho hr1 hr2 hf1 hf2 hg1 htoldW hok hgot1 ho1 hsz
                go_wp2_with fail
                refine (put_any (w.heap.size + 1) x.got v r.2.1 r.2.2 w1 HGot1.out HO1.out HOk.out hol HSz.out).mono ?_
                rintro e w2 ⟨rfl, hgot2, hf2⟩
                have HGot2 := Lib.hid hgot2
                have HF2 := Lib.hid hf2
                have hr2 := HD.out.keep _ _ _ w2.drew _ HR1.out hf2.drew (fun k hk e => by have := HOld2.out k hk; omega)
                have HR2 := Lib.hid hr2
                have cH := hgot2.heldC
                simp only at cH
                have goH := HD.out.goH
                have inH := HD.out.inH
                unfold Goes at goH
                unfold Enters at inH
                have hbH := HD.out.heldB _ _ _ hr2
                clear hgot2 hf2 hr2
                go_wp2_with fail
                refine anyG_start (S := fun _ => True) (by kernel_rfl) ?_
                refine anyG_take (i := 0) 138 (.pointer (some ⟨w.heap.size + 1, 6, none⟩)) rfl rfl (by kernel_rfl) (by kernel_rfl) (by kernel_rfl) rfl (fun _ _ => by go_simp) trivial ?_
                try simp only [Act.put, List.setIfInBounds_toArray, List.set_cons_succ, List.set_cons_zero]
                refine anyG_take (i := 2) 140 (.iface T rv) rfl rfl (by kernel_rfl) (by kernel_rfl) (by kernel_rfl) rfl (fun _ _ => by go_simp) trivial ?_
                try simp only [Act.put, List.setIfInBounds_toArray, List.set_cons_succ, List.set_cons_zero]
                refine anyG_quiet (i := 1) (j := 3) (Below w2.drew.heap.size w2.drew) 139 141 (.int .i64 x.got.held) (.int .i64 (M.held r.1)) rfl rfl rfl rfl (by decide) (by decide) (by kernel_rfl) (by kernel_rfl) (by kernel_rfl) rfl rfl rfl rfl (by go_simp) (fun w' hw' => by have cH2 := (Below.toFrame hw' (fun _ => False)).cell? (a := w2.drew) cH (fun h => h); go_simp) (fun K hK => ?_) (fun K hK => ?_) (fun W3 hb3 => ?_)
                · go_simp
                  refine (HD.out.held _ _ _ HR2.out).mono ?_
                  rintro e w' ⟨rfl, hb⟩
                  exact hK _ hb
                · go_simp
                  refine (HD.out.held _ _ _ HR2.out).mono ?_
                  rintro e w' ⟨rfl, hb⟩
                  exact hK _ hb
                try simp only [Act.put, List.setIfInBounds_toArray, List.set_cons_succ, List.set_cons_zero]
                have hgd := IsGot.past (w := w2.drew) HGot2.out hb3
                have hfd := HF2.out.drew.trans (Below.toFrame hb3 _)
                have hr2 := HD.out.keep _ _ _ _ (fun _ => False) HR2.out (Below.toFrame hb3 _) (fun _ _ h => h)
                clear HR2
                have HR2 := Lib.hid hr2
                clear hr2
                clear hb3 cH
                have hz6 := hgd.froz 6
                have cH := hgd.heldC
                have HGd := Lib.hid hgd
                have HFd := Lib.hid hfd
                have goN := HD.out.goN
                have inN := HD.out.inN
                unfold Goes at goN
                unfold Enters at inN
                clear hgd hfd goH inH
                obtain ⟨mx, hmx⟩ : ∃ mx, mx = (if x.got.held < M.held r.1 then M.held r.1 else x.got.held) := ⟨_, rfl⟩
                have HMg := Lib.hid hmx.symm
                have hmx2 : mx = max x.got.held (M.held r.1) := by rw [hmx]; split <;> omega
                have HMx := Lib.hid hmx2
                have HBH := Lib.hid hbH
                clear hmx hmx2 hbH
                refine anyG_step (i := 4) rfl (by kernel_rfl) rfl (fun K hK => ?_)
                go_simp
                rw [HMg.out]
                refine hK.out _ _ trivial ?_
                clear hK K
                try simp only [Act.put, List.setIfInBounds_toArray, List.set_cons_succ, List.set_cons_zero]
                refine anyG_step (i := 5) rfl (by kernel_rfl) rfl (fun K hK => ?_)
                go_simp
                refine hK.out _ _ trivial ?_
                clear hK K
                try simp only [Act.put, List.setIfInBounds_toArray, List.set_cons_succ, List.set_cons_zero]
                refine anyG_step (i := 6) rfl (by kernel_rfl) rfl (fun K hK => ?_)
                go_simp
                refine hK.out _ _ trivial ?_
                clear hK K
                try simp only [Act.put, List.setIfInBounds_toArray, List.set_cons_succ, List.set_cons_zero]
                refine anyG_done (by kernel_rfl) ?_
                go_wp2_with fail
                have hg4 := HGd.out.putHeld mx
                have hf4 := HFd.out.trans (Frame.cell W3 ⟨w.heap.size + 1, 6, none⟩ (.int .i64 mx))
                have hr4 := HD.out.keep _ _ _ _ _ HR2.out (Frame.cell W3 ⟨w.heap.size + 1, 6, none⟩ (.int .i64 mx)) (fun k hk e => by have := HOld2.out k hk; simp at e; omega)
                generalize W3.setCell ⟨w.heap.size + 1, 6, none⟩ (.int .i64 mx) = W4 at hg4 hf4 hr4 ⊢
                have HG4 := Lib.hid hg4
                have HF4 := Lib.hid hf4
                have HR4 := Lib.hid hr4
                clear hg4 hf4 hr4 cH hz6 HGd HFd HR2 inN goN
                refine (HD.out.need _ _ _ HR4.out).mono ?_
                rintro e w5 ⟨rfl, rfl⟩
                have cN := HG4.out.needC
                have hz4 := HG4.out.froz 4
                go_wp2_with fail
                have hcell := Frame.cell W4 ⟨w.heap.size + 1, 4, none⟩ (.int .i64 (M.need r.1))
                have hg5 := HG4.out.putNeed (M.need r.1)
                rw [HMx.out] at hg5
                have hfr : Frame (fun k => now k ∨ k = w.heap.size + 1 ∨ k = w.heap.size + 2) wr _ := HF1.out.trans ((HF4.out.trans hcell).mono (fun _ _ h => .inr (.inl h)))
                refine ⟨⟨n + 1, after M (tells x k) r, now', by go_num, HV.out.next hn HD1.out (tells x k) r HStep.out (HD.out.keep _ _ _ _ _ HR4.out hcell (fun k hk e => by have := HOld2.out k hk; simp at e; omega)) HNow.out hg5 ((HF4.out.trans hcell).heap HTW.out (fun h => by omega)) hfr HOk.out rfl HV.out.taken rfl HBH.out⟩, ?_⟩
                simp [intOf]
                omega
              · have HX := Lib.hid (show D = x by
                  rw [HV.out.eq]
                  refine drive_none M ins cuts _ n x ?_
                  have hm2' : x.got.need ≠ -2 := by rw [HK.out]; omega
                  have hkt : x.got.need.toNat = k := by rw [HK.out]; rfl
                  simp only [step, if_neg hm2', hkt, HT.out]
                  rw [if_neg (by omega), if_neg hend])
                have hcase : t.ended = false ∨ (t.ended = true ∧ x.told k = true) := by
                  rcases Bool.eq_false_or_eq_true t.ended with h1 | h1
                  · rcases Bool.eq_false_or_eq_true (x.told k) with h2 | h2
                    · exact .inr ⟨h1, h2⟩
                    · exact absurd ⟨h1, h2⟩ hend
                  · exact .inl h1
                clear hend
                rcases hcase with h1 | ⟨h1, h2⟩
                · rw [h1] at c1
                  clear h1
                  go_wp2_with (first
                    | (with_reducible refine wpList_load_row rfl 42 (.tmp 7) rfl (w.heap.size + 1) rfl 42 (gotA x.got) (0, 0) _ HGot.out Tryd.underlying42 rfl (by rw [Tryd.size_got, size_gotA]) ?_)
                    | (with_reducible refine wpList_store_row rfl 42 (.tmp 6) (.tmp 147) rfl w.heap.size (gotA x.got) rfl rfl 42 (gotA zeroG) HV.out.res (by rw [Tryd.size_got, size_gotA]) rfl (one_gotA _) ?_))
                  have hdone := HV.out.done HD.out.keep HOld.out HX.out
                  try simp only [Exit.inBlock, Exit.then]
                  exact ret_got rfl rfl rfl hdone.2 hdone.1
                · rw [h1] at c1
                  rw [h2] at cTo
                  clear h1 h2
                  go_wp2_with (first
                    | (with_reducible refine wpList_load_row rfl 42 (.tmp 7) rfl (w.heap.size + 1) rfl 42 (gotA x.got) (0, 0) _ HGot.out Tryd.underlying42 rfl (by rw [Tryd.size_got, size_gotA]) ?_)
                    | (with_reducible refine wpList_store_row rfl 42 (.tmp 6) (.tmp 147) rfl w.heap.size (gotA x.got) rfl rfl 42 (gotA zeroG) HV.out.res (by rw [Tryd.size_got, size_gotA]) rfl (one_gotA _) ?_))
                  have hdone := HV.out.done HD.out.keep HOld.out HX.out
                  try simp only [Exit.inBlock, Exit.then]
                  exact ret_got rfl rfl rfl hdone.2 hdone.1
      · have HX := Lib.hid (show D = x by rw [HV.out.eq]; exact drive_stop M ins cuts _ n x (by rintro ⟨h, _⟩; exact he h))
        have q1 : (x.got.err == 0) = false := by simpa using he
        clear he
        go_wp2_with (first
          | (with_reducible refine wpList_load_row rfl 42 (.tmp 7) rfl (w.heap.size + 1) rfl 42 (gotA x.got) (0, 0) _ HGot.out Tryd.underlying42 rfl (by rw [Tryd.size_got, size_gotA]) ?_)
          | (with_reducible refine wpList_store_row rfl 42 (.tmp 6) (.tmp 147) rfl w.heap.size (gotA x.got) rfl rfl 42 (gotA zeroG) HV.out.res (by rw [Tryd.size_got, size_gotA]) rfl (one_gotA _) ?_))
        have hdone := HV.out.done HD.out.keep HOld.out HX.out
        try simp only [Exit.inBlock, Exit.then]
        exact ret_got rfl rfl rfl hdone.2 hdone.1
    · have hn2 : 100000 - n = 0 := by have := HLe.out; omega
      have HX := Lib.hid (show D = x by rw [HV.out.eq, hn2]; rfl)
      clear hn2
      go_wp2_with (first
        | (with_reducible refine wpList_load_row rfl 42 (.tmp 7) rfl (w.heap.size + 1) rfl 42 (gotA x.got) (0, 0) _ HGot.out Tryd.underlying42 rfl (by rw [Tryd.size_got, size_gotA]) ?_)
        | (with_reducible refine wpList_store_row rfl 42 (.tmp 6) (.tmp 147) rfl w.heap.size (gotA x.got) rfl rfl 42 (gotA zeroG) HV.out.res (by rw [Tryd.size_got, size_gotA]) rfl (one_gotA _) ?_))
      have hdone := HV.out.done HD.out.keep HOld.out HX.out
      try simp only [Exit.inBlock, Exit.then]
      exact ret_got rfl rfl rfl hdone.2 hdone.1

end Go.Proofs.YtlflhjgfegflfaaDoor
