/- The law's ints and same: one call of both disks. -/
import Derived.Test.YtpengkkbmenkpaaFsawake
import Derived.Test.YtpengkkbmenkpaaFsmade
import Derived.Test.YtpengkkbmenkpaaFscalls
import Derived.Test.YtpengkkbmenkpaaFsrefnew
import Derived.Test.YtpengkkbmenkpaaFsrefput
import Derived.Test.YtpengkkbmenkpaaFsrefget
import Derived.Test.YtpengkkbmenkpaaFsreflive
namespace Go.Proofs.Ytpengkkbmenkpaa
open Go.RowKit

theorem isInts_of_owns {base : Nat} {w : World} {v : Value} {L : List Int} (h : w.ownsRow base 3 1 v L.length (L.map (Value.int .i64))) : IsInts (base ≤ ·) w v L := by
  have h' := h
  rcases h.2 with ⟨rfl, h0⟩ | ⟨g, cap, cur, rfl, hb, _⟩
  · refine ⟨none, 0, by rw [h0], fun j c hj => ?_⟩
    rw [List.eq_nil_of_length_eq_zero h0] at hj
    simp at hj
  · refine ⟨_, cap, rfl, fun j c hj => ⟨g, 0, rfl, hb, ?_⟩⟩
    have := World.ownsRow.cells h' (g := g) rfl j (.int .i64 c) (by simp [hj])
    rwa [Addr.add_mid] at this

set_option maxRecDepth 100000 in
set_option maxHeartbeats 1000000 in
theorem ints_any {p q : Nat → Prop} (va vb : Value) (L : List Int) (w : World) (hA : IsInts p w va L) (hB : IsInts q w vb L) (hl : L.length ≤ 1000000) :
    Calls Try.prog 10 #[va, vb] w fun e w' => e = .returned (.bool true) ∧ Below w.heap.size w w' := by
  obtain ⟨aa, ca, rfl, ha⟩ := hA
  obtain ⟨ab, cb, rfl, hb⟩ := hB
  have HA := Lib.hid ha
  have HB := Lib.hid hb
  have HL := Lib.hid hl
  clear ha hb hl
  go_enter Try.func10, Try.ntmps10
  go_wp2_with fail
  go_loopw [5] (fun i wr => ∃ k : Nat, k ≤ L.length ∧ i = .int .i64 k ∧ Below w.heap.size w wr) (fun i _ => L.length - (intOf i).toNat)
  case atStart => exact ⟨0, Nat.zero_le _, rfl, Below.refl _ _⟩
  case round =>
    obtain ⟨k, hk, rfl, hbe⟩ := hrel
    by_cases hlt : k < L.length
    · obtain ⟨x, hx⟩ : ∃ x, L[k]? = some x := ⟨L[k], by simp⟩
      obtain ⟨ga, oa, rfl, -, ha⟩ := HA.out k x hx
      obtain ⟨gb, ob, rfl, -, hb⟩ := HB.out k x hx
      have ha2 : wr.cell? ⟨ga, oa + k, none⟩ = some (.int .i64 x) := by rw [hbe.cell (block_lt_of_cell ha)]; exact ha
      have hb2 : wr.cell? ⟨gb, ob + k, none⟩ = some (.int .i64 x) := by rw [hbe.cell (block_lt_of_cell hb)]; exact hb
      have q1 : (0 : Int) ≤ (k : Int) := by omega
      have q2 : (k : Int) < (L.length : Int) := by omega
      have q3 : (k : Int) ≤ 1000000 := by have := HL.out; omega
      have HBE := Lib.hid hbe
      have HLT := Lib.hid hlt
      clear hx ha hb hbe hlt hk
      go_wp2_with fail
      go_region
      go_wp2_with fail
      exact ⟨⟨k + 1, HLT.out, by go_num, HBE.out.trans (Below.drew (Below.refl _ _))⟩, by have := HLT.out; simp [intOf]; omega⟩
    · have q2 : ¬ (k : Int) < (L.length : Int) := by omega
      have HBE := Lib.hid hbe
      clear hbe hlt hk
      go_wp2_with fail
      go_ret
      exact ⟨rfl, HBE.out⟩

/-- Both disks, which share no block. -/
structure Both (base g r : Nat) (ownD ownR : Nat → Nat) (S : Script) (s1 s2 : DSt) (W : World) : Prop where
  disk : DiskAt base g ownD S s1 W
  ref : RAt base r ownR S s2 W
  sep : ∀ k, ownD k ≠ 0 → ownR k = 0
section
variable {base g r : Nat} {ownD ownR : Nat → Nat} {S : Script} {s1 s2 s' : DSt} {W W' : World}
theorem Both.below (h : Both base g r ownD ownR S s1 s2 W) (hb : Below W.heap.size W W') : Both base g r ownD ownR S s1 s2 W' := ⟨h.disk.below hb, h.ref.below hb, h.sep⟩
theorem Both.frame {p : Nat → Prop} (h : Both base g r ownD ownR S s1 s2 W) (hf : Frame p W W') (h1 : ∀ k, p k → ownD k = 0) (h2 : ∀ k, p k → ownR k = 0) (h3 : ∀ k, p k → base ≤ k) : Both base g r ownD ownR S s1 s2 W' := ⟨h.disk.frame hf h1, h.ref.frame hf h2 h3, h.sep⟩
theorem Both.leftD (h : Both base g r ownD ownR S s1 s2 W) (hl : DiskLeft base g ownD S s' W W') : ∃ ownD', Both base g r ownD' ownR S s' s2 W' ∧ (∀ k, k < W.heap.size → ownD' k = ownD k) ∧ Frame (fun k => ownD k ≠ 0) W W' := by
  obtain ⟨own', hd, ho, hf⟩ := hl
  refine ⟨own', ⟨hd, h.ref.frame hf (fun k hk => h.sep k hk) (fun k hk => (h.disk.bnd k hk).1), fun k hk => ?_⟩, ho, hf⟩
  by_cases hlt : k < W.heap.size
  · rw [ho k hlt] at hk
    exact h.sep k hk
  · exact Classical.byContradiction fun h0 => by have := (h.ref.bnd k h0).2; omega
theorem Both.leftR (h : Both base g r ownD ownR S s1 s2 W) (hl : RLeft base r ownR S s' W W') : ∃ ownR', Both base g r ownD ownR' S s1 s' W' ∧ (∀ k, k < W.heap.size → ownR' k = ownR k) ∧ Frame (fun k => ownR k ≠ 0) W W' := by
  obtain ⟨own', hd, ho, hf⟩ := hl
  refine ⟨own', ⟨h.disk.frame hf (fun k hk => Classical.byContradiction fun h0 => hk (h.sep k h0)), hd, fun k hk => ?_⟩, ho, hf⟩
  have hlt := (h.disk.bnd k hk).2
  rw [ho k hlt]
  exact h.sep k hk
theorem DiskAt.atG (h : DiskAt base g ownD S s1 W) : ownD g = 1 := by obtain ⟨bf, mf, F, hx⟩ := h; exact hx.og
theorem RAt.atR (h : RAt base r ownR S s2 W) : ownR r = 1 := by obtain ⟨_, _, _, hx⟩ := h; exact hx.orr
theorem Both.readD (h : Both base g r ownD ownR S s1 s2 W) (hd : DiskAt base g ownD S s' W') (hf : Frame (· = g) W W') : Both base g r ownD ownR S s' s2 W' :=
  ⟨hd, h.ref.frame hf (fun k e => by have e' : k = g := e; subst e'; exact h.sep k (by rw [h.disk.atG]; omega)) (fun k e => by have e' : k = g := e; subst e'; exact (h.disk.bnd k (by rw [h.disk.atG]; omega)).1), h.sep⟩
theorem Both.readR (h : Both base g r ownD ownR S s1 s2 W) (hd : RAt base r ownR S s' W') (hf : Frame (· = r) W W') : Both base g r ownD ownR S s1 s' W' :=
  ⟨h.disk.frame hf (fun k e => by have e' : k = r := e; subst e'; exact Classical.byContradiction fun h0 => by have := h.sep k h0; rw [h.ref.atR] at this; omega), hd, h.sep⟩
end

/-- What is known within same: both disks; the call in block cb; its bytes, and the copy of them in the zone from lo up to hi. -/
structure SR (w : World) (base lo hi g r cb : Nat) (c : FCall) (bv bv2 : Value) (ownD ownR : Nat → Nat) (S : Script) (s1 s2 : DSt) (W : World) : Prop where
  both : Both base g r ownD ownR S s1 s2 W
  call : W.heap[cb]? = some (.cells (callL c bv).toArray 36 (0, 0))
  byt : IsBytes (· < base) W bv c.b
  cpy : IsBytes (fun k => lo ≤ k ∧ k < hi) W bv2 c.b
  zone : ∀ k, lo ≤ k → k < hi → ownD k = 0 ∧ ownR k = 0
  cz : lo ≤ cb ∧ cb < hi
  hb : hi ≤ W.heap.size
  lb : base ≤ lo
  bel : Below base w W
section
variable {w : World} {base lo hi g r cb : Nat} {c : FCall} {bv bv2 : Value} {ownD ownR : Nat → Nat} {S : Script} {s1 s2 s' : DSt} {W W' : World}
theorem SR.k1 (h : SR w base lo hi g r cb c bv bv2 ownD ownR S s1 s2 W) : W.cell? ⟨cb, 1, none⟩ = some (.int .i64 c.no) := by rw [cell_of_row _ _ _ _ _ _ h.call]; rfl
theorem SR.k2 (h : SR w base lo hi g r cb c bv bv2 ownD ownR S s1 s2 W) : W.cell? ⟨cb, 2, none⟩ = some (.int .i64 c.at') := by rw [cell_of_row _ _ _ _ _ _ h.call]; rfl
theorem SR.k3 (h : SR w base lo hi g r cb c bv bv2 ownD ownR S s1 s2 W) : W.cell? ⟨cb, 3, none⟩ = some (.int .i64 c.most) := by rw [cell_of_row _ _ _ _ _ _ h.call]; rfl
theorem SR.k4 (h : SR w base lo hi g r cb c bv bv2 ownD ownR S s1 s2 W) : W.cell? ⟨cb, 4, none⟩ = some bv := by rw [cell_of_row _ _ _ _ _ _ h.call]; rfl
theorem SR.lowD (h : SR w base lo hi g r cb c bv bv2 ownD ownR S s1 s2 W) {k : Nat} (hk : k < base) : ownD k = 0 := Classical.byContradiction fun h0 => by have := (h.both.disk.bnd k h0).1; omega
theorem SR.lowR (h : SR w base lo hi g r cb c bv bv2 ownD ownR S s1 s2 W) {k : Nat} (hk : k < base) : ownR k = 0 := Classical.byContradiction fun h0 => by have := (h.both.ref.bnd k h0).1; omega
theorem SR.below (h : SR w base lo hi g r cb c bv bv2 ownD ownR S s1 s2 W) (hb : Below W.heap.size W W') : SR w base lo hi g r cb c bv bv2 ownD ownR S s1 s2 W' :=
  ⟨h.both.below hb, (Below.toFrame hb fun _ => False).heap h.call (fun h => h), h.byt.below hb, h.cpy.below hb, h.zone, h.cz, Nat.le_trans h.hb hb.size, h.lb, h.bel.trans (hb.mono (by have := h.hb; have := h.lb; have := h.cz; omega))⟩
/-- Blocks that are neither disk's, nor old, nor in the zone, have turned. -/
theorem SR.frame {p : Nat → Prop} (h : SR w base lo hi g r cb c bv bv2 ownD ownR S s1 s2 W) (hf : Frame p W W') (hp : ∀ k, p k → hi ≤ k ∧ ownD k = 0 ∧ ownR k = 0) : SR w base lo hi g r cb c bv bv2 ownD ownR S s1 s2 W' :=
  ⟨h.both.frame hf (fun k hk => (hp k hk).2.1) (fun k hk => (hp k hk).2.2) (fun k hk => by have := (hp k hk).1; have := h.lb; have := h.cz; omega), hf.heap h.call (fun e => by have := (hp _ e).1; have := h.cz; omega),
    h.byt.frame hf (fun k hk e => by have := (hp _ e).1; have := h.lb; have := h.cz; omega), h.cpy.frame hf (fun k hk e => by have := (hp _ e).1; omega), h.zone, h.cz, Nat.le_trans h.hb hf.size, h.lb,
    h.bel.trans (hf.below (by have := h.hb; have := h.lb; have := h.cz; omega) (fun k hk => by have := (hp k hk).1; have := h.lb; have := h.cz; omega))⟩
theorem SR.leftD (h : SR w base lo hi g r cb c bv bv2 ownD ownR S s1 s2 W) (hl : DiskLeft base g ownD S s' W W') : ∃ ownD', SR w base lo hi g r cb c bv bv2 ownD' ownR S s' s2 W' := by
  obtain ⟨ownD', hB, ho, hf⟩ := h.both.leftD hl
  refine ⟨ownD', hB, hf.heap h.call (fun e => e (h.zone cb h.cz.1 h.cz.2).1), h.byt.frame hf (fun k hk e => e (h.lowD hk)), h.cpy.frame hf (fun k hk e => e (h.zone k hk.1 hk.2).1), fun k h1 h2 => ⟨?_, (h.zone k h1 h2).2⟩, h.cz, Nat.le_trans h.hb hf.size, h.lb,
    h.bel.trans (hf.below (by have := h.hb; have := h.lb; have := h.cz; omega) (fun k hk => (h.both.disk.bnd k hk).1))⟩
  rw [ho k (by have := h.hb; omega)]
  exact (h.zone k h1 h2).1
theorem SR.leftR (h : SR w base lo hi g r cb c bv bv2 ownD ownR S s1 s2 W) (hl : RLeft base r ownR S s' W W') : ∃ ownR', SR w base lo hi g r cb c bv bv2 ownD ownR' S s1 s' W' := by
  obtain ⟨ownR', hB, ho, hf⟩ := h.both.leftR hl
  refine ⟨ownR', hB, hf.heap h.call (fun e => e (h.zone cb h.cz.1 h.cz.2).2), h.byt.frame hf (fun k hk e => e (h.lowR hk)), h.cpy.frame hf (fun k hk e => e (h.zone k hk.1 hk.2).2), fun k h1 h2 => ⟨(h.zone k h1 h2).1, ?_⟩, h.cz, Nat.le_trans h.hb hf.size, h.lb,
    h.bel.trans (hf.below (by have := h.hb; have := h.lb; have := h.cz; omega) (fun k hk => (h.both.ref.bnd k hk).1))⟩
  rw [ho k (by have := h.hb; omega)]
  exact (h.zone k h1 h2).2
theorem SR.readD (h : SR w base lo hi g r cb c bv bv2 ownD ownR S s1 s2 W) (hd : DiskAt base g ownD S s' W') (hf : Frame (· = g) W W') : SR w base lo hi g r cb c bv bv2 ownD ownR S s' s2 W' := by
  have og := h.both.disk.atG
  refine ⟨h.both.readD hd hf, hf.heap h.call (fun e => by have e' : cb = g := e; have := (h.zone cb h.cz.1 h.cz.2).1; rw [e'] at this; omega), h.byt.frame hf (fun k hk e => by have e' : k = g := e; have := h.lowD hk; rw [e'] at this; omega),
    h.cpy.frame hf (fun k hk e => by have e' : k = g := e; have := (h.zone k hk.1 hk.2).1; rw [e'] at this; omega), h.zone, h.cz, Nat.le_trans h.hb hf.size, h.lb, h.bel.trans (hf.below (by have := h.hb; have := h.lb; have := h.cz; omega) (fun k hk => by have e' : k = g := hk; subst e'; exact (h.both.disk.bnd k (by omega)).1))⟩
theorem SR.readR (h : SR w base lo hi g r cb c bv bv2 ownD ownR S s1 s2 W) (hd : RAt base r ownR S s' W') (hf : Frame (· = r) W W') : SR w base lo hi g r cb c bv bv2 ownD ownR S s1 s' W' := by
  have og := h.both.ref.atR
  refine ⟨h.both.readR hd hf, hf.heap h.call (fun e => by have e' : cb = r := e; have := (h.zone cb h.cz.1 h.cz.2).2; rw [e'] at this; omega), h.byt.frame hf (fun k hk e => by have e' : k = r := e; have := h.lowR hk; rw [e'] at this; omega),
    h.cpy.frame hf (fun k hk e => by have e' : k = r := e; have := (h.zone k hk.1 hk.2).2; rw [e'] at this; omega), h.zone, h.cz, Nat.le_trans h.hb hf.size, h.lb, h.bel.trans (hf.below (by have := h.hb; have := h.lb; have := h.cz; omega) (fun k hk => by have e' : k = r := hk; subst e'; exact (h.both.ref.bnd k (by omega)).1))⟩
end

end Go.Proofs.Ytpengkkbmenkpaa
