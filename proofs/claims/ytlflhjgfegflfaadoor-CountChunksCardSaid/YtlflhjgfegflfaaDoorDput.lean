/- What the driver's cut and put do. -/
import Derived.Test.YtlflhjgfegflfaaDoorDA
import Derived.Outline
namespace Go.Proofs.YtlflhjgfegflfaaDoor
open Go.RowKit

theorem cutAt_le (cuts : List Int) (n : Nat) : 1 ≤ cutAt cuts n ∧ cutAt cuts n ≤ 32 := by
  unfold cutAt
  split
  · omega
  · have h1 := Int.tmod_lt_of_pos (cuts.getD (n % cuts.length) 0) (b := 32) (by omega)
    have h2 := Int.lt_tmod_of_pos (cuts.getD (n % cuts.length) 0) (b := 32) (by omega)
    omega

set_option maxRecDepth 100000 in
set_option maxHeartbeats 1000000 in
theorem cutAt_any {p : Nat → Prop} (v : Value) (cuts : List Int) (n : Nat) (w : World) (hI : IsInts p w v cuts) (hn : n ≤ 1000000) (hl : cuts.length ≤ 1000000) :
    Calls Tryd.prog 32 #[v, .int .i64 n] w (Says w (.int .i64 (cutAt cuts n))) := by
  obtain ⟨a, cap, rfl, hc⟩ := hI
  by_cases h0 : cuts = []
  · subst h0
    rw [cutAt, if_pos rfl]
    clear hc
    go_enter Tryd.func32, Tryd.ntmps32
    go_wp2
    go_ret
    exact ⟨rfl, rfl⟩
  · have hpos : 0 < cuts.length := List.length_pos_iff.2 h0
    have g1 : ((cuts.length : Int) == 0) = false := by simp; omega
    have hm : n % cuts.length < cuts.length := Nat.mod_lt _ hpos
    obtain ⟨c, hcn⟩ : ∃ c, cuts[n % cuts.length]? = some c := ⟨_, List.getElem?_eq_getElem hm⟩
    obtain ⟨gb, off, rfl, -, hx⟩ := hc _ _ hcn
    have hd : cuts.getD (n % cuts.length) 0 = c := by rw [List.getD_eq_getElem?_getD, hcn]; rfl
    have hcut : cutAt cuts n = (c.tmod 32).natAbs + 1 := by rw [cutAt, if_neg h0, hd]
    rw [hcut]
    have h1 := Int.tmod_lt_of_pos c (b := 32) (by omega)
    have h2 := Int.lt_tmod_of_pos c (b := 32) (by omega)
    obtain ⟨m, hmm⟩ : ∃ m, m = n % cuts.length := ⟨_, rfl⟩
    have hmod : (n : Int) % (cuts.length : Int) = (m : Int) := by rw [hmm]; rfl
    have q1 : (0 : Int) ≤ (m : Int) := by omega
    rw [← hmm] at hx hm
    have q2 : (m : Int) < (cuts.length : Int) := by omega
    clear hc h0 hcn hd hcut hmm
    go_enter Tryd.func32, Tryd.ntmps32
    go_wp2
    all_goals
      go_ret
      exact ⟨ret_int (by omega), rfl⟩

/-! What a machine did, in memory. -/
def gotL (g : GotL) : List Value := [strV (g.outs 0), strV (g.outs 1), strV (g.outs 2), strV (g.outs 3), .int .i64 g.need, .int .i64 g.err, .int .i64 g.held, .int .i64 (g.taken 0), .int .i64 (g.taken 1), .int .i64 (g.taken 2), .int .i64 (g.taken 3), .bool false]
def gotA (g : GotL) : Array Value := (gotL g).toArray
def IsGot (B : Nat) (g : GotL) (w : World) : Prop := w.heap[B]? = some (.cells (gotA g) 42 (0, 0))
theorem IsGot.frame {p : Nat → Prop} {B : Nat} {g : GotL} {w w' : World} (h : IsGot B g w) (hf : Frame p w w') (hp : ¬ p B) : IsGot B g w' := hf.heap h hp
theorem IsGot.lt {B : Nat} {g : GotL} {w : World} (h : IsGot B g w) : B < w.heap.size := (Array.getElem?_eq_some_iff.1 h).1
theorem IsGot.out {B : Nat} {g : GotL} {w : World} (h : IsGot B g w) {k : Nat} (hk : k ≤ 3) : w.cell? ⟨B, k, none⟩ = some (strV (g.outs k)) := by
  rw [cell_of_row _ _ _ _ _ _ h]
  obtain rfl | rfl | rfl | rfl : k = 0 ∨ k = 1 ∨ k = 2 ∨ k = 3 := by omega
  all_goals rfl
theorem IsGot.froz {B : Nat} {g : GotL} {w : World} (h : IsGot B g w) (k : Nat) : w.frozen? ⟨B, k, none⟩ = false := by simp [World.frozen?, show w.heap[B]? = _ from h]
theorem IsGot.putOut {B : Nat} {g : GotL} {w : World} (h : IsGot B g w) {k : Nat} (hk : k ≤ 3) (b : List UInt8) : IsGot B { g with outs := fun i => if i = k then b else g.outs i } (w.setCell ⟨B, k, none⟩ (strV b)) := by
  unfold IsGot
  rw [setCell_row h]
  obtain rfl | rfl | rfl | rfl : k = 0 ∨ k = 1 ∨ k = 2 ∨ k = 3 := by omega
  all_goals rfl
theorem IsGot.putErr {B : Nat} {g : GotL} {w : World} (h : IsGot B g w) (e : Int) : IsGot B { g with err := e } (w.setCell ⟨B, 5, none⟩ (.int .i64 e)) := by
  unfold IsGot
  rw [setCell_row h]
  rfl
theorem IsGot.drewN {B : Nat} {g : GotL} {w : World} (h : IsGot B g w) (n : Nat) : IsGot B g (w.drewN n) := h

/-- What is told may be put: ports from 0 to 3, no answer without bytes, not too much. -/
def outSum (L : Outs) : Nat := (L.map (·.2.length)).sum
structure OutsOk (L : Outs) : Prop where
  port : ∀ t ∈ L, t.1 ≤ 3
  some : ∀ t ∈ L, t.2 ≠ []
  sum : outSum L ≤ 1024
theorem putOuts_snoc (f : Nat → List UInt8) (L : Outs) (t : Nat × List UInt8) : putOuts f (L ++ [t]) = fun i => if i = t.1 then putOuts f L i ++ t.2 else putOuts f L i := by simp [putOuts]
theorem outSum_take (L : Outs) (k : Nat) : outSum (L.take k) ≤ outSum L := by
  have := congrArg outSum (List.take_append_drop k L)
  simp only [outSum, List.map_append, List.sum_append] at this ⊢
  omega
theorem outSum_snoc (L : Outs) (t : Nat × List UInt8) : outSum (L ++ [t]) = outSum L + t.2.length := by simp [outSum]

theorem putOuts_le (f : Nat → List UInt8) (i : Nat) : ∀ L : Outs, (putOuts f L i).length ≤ (f i).length + outSum L := by
  intro L
  induction L generalizing f with
  | nil => simp [putOuts, outSum]
  | cons t L ih =>
    have h1 := ih (fun i => if i = t.1 then f i ++ t.2 else f i)
    simp only [putOuts, List.foldl_cons, outSum, List.map_cons, List.sum_cons] at h1 ⊢
    split at h1
    · rw [List.length_append] at h1
      omega
    · omega
structure PutInv (B : Nat) (g : GotL) (L : Outs) (w : World) (k : Nat) (wr : World) : Prop where
  le : k ≤ L.length
  got : IsGot B { g with outs := putOuts g.outs (L.take k) } wr
  fr : Frame (· = B) w wr
def PutEnd (B : Nat) (g : GotL) (w : World) (e : Ending) (w' : World) : Prop := e = .returned (.tuple #[]) ∧ IsGot B g w' ∧ Frame (· = B) w w'

set_option maxRecDepth 100000 in
set_option maxHeartbeats 4000000 in
theorem put_any (B : Nat) (g : GotL) (v : Value) (L : Outs) (err : Int) (w : World) (hG : IsGot B g w) (hO : IsOuts (· ≠ B) w v L) (hok : OutsOk L) (hl : L.length ≤ 1000000) (hsz : ∀ i, i ≤ 3 → (g.outs i).length ≤ 1000000000) :
    Calls Tryd.prog 31 #[.pointer (some ⟨B, 0, none⟩), v, .int .i64 err] w (PutEnd B { g with outs := putOuts g.outs L, err := err } w) := by
  obtain ⟨X, rfl, ⟨a, cap, rfl, hc⟩, hb⟩ := hO
  have HC := Lib.hid hc
  have HB := Lib.hid hb
  have HOk := Lib.hid hok
  rw [List.length_map] at hl
  have hI : PutInv B g (X.map (·.1)) w 0 w := ⟨Nat.zero_le _, hG, Frame.refl _ _⟩
  have HI := Lib.hid hI
  clear hc hb hok hG hI
  go_enter Tryd.func31, Tryd.ntmps31
  go_wp2
  go_loopw [6, 7] (fun sv i wr => ∃ k : Nat, sv = .int .i64 (outSum ((X.map (·.1)).take k)) ∧ i = .int .i64 k ∧ PutInv B g (X.map (·.1)) w k wr) (fun _ i _ => X.length - (intOf i).toNat)
  case atStart => exact ⟨0, rfl, rfl, HI.out⟩
  case round =>
    clear HI
    obtain ⟨k, rfl, rfl, hle, hgot, hfr⟩ := hrel
    rw [List.length_map] at hle
    have HG := Lib.hid hgot
    have HF := Lib.hid hfr
    have hsum := outSum_take (X.map (·.1)) k
    have hs1 := HOk.out.sum
    obtain ⟨sm, hsm⟩ : ∃ sm, sm = outSum ((X.map (·.1)).take k) := ⟨_, rfl⟩
    rw [← hsm] at hsum ⊢
    have HSM := Lib.hid hsm
    clear hgot hfr hsm
    by_cases hlt : k < X.length
    · obtain ⟨⟨⟨port, bs⟩, bv⟩, ht⟩ : ∃ t, X[k]? = some t := ⟨X[k], by simp⟩
      obtain ⟨gb, off, rfl, hgb, hx1, hx2⟩ := HC.out k _ ht
      have hmem := List.mem_of_getElem? ht
      have hm1 : (port, bs) ∈ X.map (·.1) := List.mem_map.2 ⟨_, hmem, rfl⟩
      have hp3 := HOk.out.port _ hm1
      have hne := HOk.out.some _ hm1
      have hbb := HB.out _ hmem
      simp only at hx1 hx2 hp3 hne hbb
      have htk := take_snoc (L := X.map (·.1)) (k := k) (t := (port, bs)) (by rw [List.getElem?_map, ht]; rfl)
      have hsn := outSum_take (X.map (·.1)) (k + 1)
      rw [htk, outSum_snoc, ← HSM.out] at hsn
      simp only at hsn
      have hb1 := hbb.frame HF.out (fun _ h => h)
      have hx1' := HF.out.cell? hx1 hgb
      have hx2' := HF.out.cell? hx2 hgb
      have HTK := Lib.hid htk
      have hblen : 0 < (bs.length : Int) := by have := List.length_pos_iff.2 hne; omega
      have hb0 : ((bs.length : Int) == 0) = false := by simpa using hne
      have HCV := Lib.hid (show ∀ n, (convert 22 9 bv).run Tryd.prog (wr.drewN n) = .ok (strV bs) (wr.drewN n) from fun n => conv_any (hb1.below ⟨rfl, rfl, rfl, Nat.le_refl _, fun _ _ => rfl⟩))
      obtain ⟨ab, cb, rfl, -, -⟩ := hb1
      have q1 : (0 : Int) ≤ (k : Int) := by omega
      have q2 : (k : Int) < (X.length : Int) := by omega
      have q3 : ¬ (1024 : Int) < (sm : Int) + (bs.length : Int) := by omega
      have q4 : (0 : Int) ≤ (port : Int) := by omega
      have q5 : ¬ (3 : Int) < (port : Int) := by omega
      have q6 : (port : Int) < 4 := by omega
      have hcp := HG.out.out hp3
      clear hx1 hx2 htk hne hbb ht hmem hm1
      have hol := putOuts_le g.outs port ((X.map (·.1)).take k)
      have hol2 := hsz port hp3
      rw [← HSM.out] at hol
      have q7 : decide ((port : Int) < 0) = false := by simp
      obtain ⟨S1, hS1⟩ : ∃ S : ByteArray, strV (putOuts g.outs ((X.map (·.1)).take k) port) = .string S := ⟨_, rfl⟩
      obtain ⟨S2, hS2⟩ : ∃ S : ByteArray, strV bs = .string S := ⟨_, rfl⟩
      simp only at hcp
      rw [hS1] at hcp
      have HS1 := Lib.hid hS1
      have HS2 := Lib.hid hS2
      clear hS1 hS2
      go_wp2_with fail
      have hconv : (convert 22 9 (.slice ab bs.length cb)).run Tryd.prog wr.drew = .ok (.string S2) wr.drew := by
        have := HCV.out 1
        rw [HS2.out] at this
        exact this
      have hadd := add_fits (S := S1) (T := S2) (by rw [strV_size HS1.out]; omega) (by rw [strV_size HS2.out]; omega)
      go_still_tail 18, (by kernel_rfl)
      have hG1 : IsGot B { g with outs := putOuts g.outs ((X.map (·.1)).take k) } wr.drew := HG.out
      have hF1 : Frame (· = B) w wr.drew := HF.out.drew
      change wpList _ _ _ _ _ wr.drew
      generalize wr.drew = W1 at hG1 hF1 ⊢
      have hz := hG1.froz port
      have hcp := hG1.out hp3
      have HG1 := Lib.hid hG1
      have HF1 := Lib.hid hF1
      clear hconv hx1' hx2' hG1 hF1 hadd
      simp only at hcp
      rw [HS1.out] at hcp
      go_wp2_with fail
      refine ⟨⟨k + 1, ?_, by go_num, by rw [List.length_map]; omega, ?_, HF1.out.trans (Frame.cell W1 ⟨B, port, none⟩ _)⟩, by simp [intOf]; omega⟩
      · rw [HTK.out, outSum_snoc, ← HSM.out]
        go_num
      · have h := HG1.out.putOut hp3 (putOuts g.outs ((X.map (·.1)).take k) port ++ bs)
        rw [strV_add HS1.out HS2.out] at h
        rw [HTK.out, putOuts_snoc]
        have e : (fun i => if i = port then putOuts g.outs ((X.map (·.1)).take k) port ++ bs else putOuts g.outs ((X.map (·.1)).take k) i) = (fun i => if i = port then putOuts g.outs ((X.map (·.1)).take k) i ++ bs else putOuts g.outs ((X.map (·.1)).take k) i) := by
          funext i
          split
          · rename_i h; rw [h]
          · rfl
        simp only at h
        rw [e] at h
        exact h
    · have g2 : ¬ (k : Int) < (X.length : Int) := by omega
      obtain rfl : k = X.length := by omega
      have hz := HG.out.froz 5
      have hc5 : wr.cell? ⟨B, 5, none⟩ = some (.int .i64 g.err) := by rw [cell_of_row _ _ _ _ _ _ HG.out]; rfl
      go_wp2_with fail
      go_returns
      have := HG.out.putErr err
      rw [List.take_of_length_le (by simp)] at this
      exact ⟨rfl, this, HF.out.trans (Frame.cell wr ⟨B, 5, none⟩ _)⟩

end Go.Proofs.YtlflhjgfegflfaaDoor
