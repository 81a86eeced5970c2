/- Files, plainly: a disk, a script, and what each call does. No conditions. -/
import Derived.Test.YtpgigpajpcianaaGreatDoorZLB
import Derived.Maps.OwnSet
import Derived.Lib.SliceRun
import Derived.Maps.AppendAt
namespace Go.Proofs.YtpgigpajpcianaaGreatDoor
open Go.RowKit

abbrev Script := List (Int × Int)
def failAt (S : Script) (k : Int) : Option Int := (S.find? fun f => f.1 == k).map (·.2)
theorem failAt_nil (k : Int) : failAt [] k = none := rfl
theorem failAt_cons (f : Int × Int) (S : Script) (k : Int) : failAt (f :: S) k = if f.1 = k then some f.2 else failAt S k := by
  simp only [failAt, List.find?_cons]
  by_cases h : f.1 = k
  · simp [h]
  · have e : (f.1 == k) = false := by simpa using h
    simp [h, e]
theorem failAt_append (S R : Script) (k : Int) : failAt (S ++ R) k = (failAt S k).or (failAt R k) := by
  induction S with
  | nil => simp [failAt_nil]
  | cons f S ih =>
    rw [List.cons_append, failAt_cons, failAt_cons, ih]
    split <;> simp
theorem failAt_snoc (S : Script) (f : Int × Int) (k : Int) : failAt (S ++ [f]) k = if (failAt S k).isSome then failAt S k else if f.1 = k then some f.2 else none := by
  rw [failAt_append, failAt_cons, failAt_nil]
  cases failAt S k <;> simp
structure DSt where
  T : List (List UInt8 × Bool)
  n : Nat
  id : Int
def dst0 : DSt := ⟨[], 0, 0⟩
def fileAt (T : List (List UInt8 × Bool)) (no : Int) : Option (List UInt8) :=
  if 1 ≤ no then match T[(no - 1).toNat]? with | some (t, true) => some t | _ => none else none
theorem fileAt_some {T : List (List UInt8 × Bool)} {k : Nat} {t : List UInt8} (h : T[k]? = some (t, true)) : fileAt T ((k : Int) + 1) = some t := by
  unfold fileAt
  rw [if_pos (by omega), show ((k : Int) + 1 - 1).toNat = k by omega, h]
theorem fileAt_none {T : List (List UInt8 × Bool)} {k : Nat} {t : List UInt8} (h : T[k]? = some (t, false)) : fileAt T ((k : Int) + 1) = none := by
  unfold fileAt
  rw [if_pos (by omega), show ((k : Int) + 1 - 1).toNat = k by omega, h]
theorem fileAt_cases (T : List (List UInt8 × Bool)) (no : Int) : (∃ (k : Nat) (t : List UInt8), no = (k : Int) + 1 ∧ T[k]? = some (t, true) ∧ fileAt T no = some t) ∨ fileAt T no = none := by
  by_cases h : 1 ≤ no
  · obtain ⟨k, rfl⟩ : ∃ k : Nat, no = (k : Int) + 1 := ⟨(no - 1).toNat, by omega⟩
    cases hk : T[k]? with
    | none =>
      refine .inr ?_
      unfold fileAt
      rw [if_pos h, show ((k : Int) + 1 - 1).toNat = k by omega, hk]
    | some t =>
      obtain ⟨t, _ | _⟩ := t
      · exact .inr (fileAt_none hk)
      · exact .inl ⟨k, t, rfl, hk, fileAt_some hk⟩
  · refine .inr ?_
    unfold fileAt
    rw [if_neg h]
def cntE (S : Script) (s : DSt) : Int := if (failAt S s.n).isSome then 25 else 0
def cntS (S : Script) (s : DSt) : DSt := { s with n := s.n + 1, id := (failAt S s.n).getD s.id }
def createE (S : Script) (s : DSt) : Int := if 64 ≤ s.T.length then 17 else cntE S s
def createN (S : Script) (s : DSt) : Int := if createE S s = 0 then (s.T.length : Int) + 1 else 0
def createS (S : Script) (s : DSt) : DSt := if 64 ≤ s.T.length then s else if cntE S s = 0 then { cntS S s with T := s.T ++ [([], true)] } else cntS S s
def writeE (S : Script) (s : DSt) (no : Int) (b : List UInt8) : Int := if (fileAt s.T no).isNone ∨ b.length < 1 ∨ 1024 < b.length then 1 else cntE S s
def writeS (S : Script) (s : DSt) (no : Int) (b : List UInt8) : DSt :=
  if (fileAt s.T no).isNone ∨ b.length < 1 ∨ 1024 < b.length then s else if cntE S s = 0 then { cntS S s with T := s.T.set (no - 1).toNat ((fileAt s.T no).getD [] ++ b, true) } else cntS S s
def readNo (s : DSt) (no at' most : Int) : Prop := (fileAt s.T no).isNone ∨ at' < 0 ∨ (((fileAt s.T no).getD []).length : Int) < at' ∨ most < 1
instance (s : DSt) (no at' most : Int) : Decidable (readNo s no at' most) := by unfold readNo; infer_instance
def readE (S : Script) (s : DSt) (no at' most : Int) : Int := if readNo s no at' most then 1 else cntE S s
def readB (S : Script) (s : DSt) (no at' most : Int) : List UInt8 := if readE S s no at' most = 0 then (((fileAt s.T no).getD []).drop at'.toNat).take most.toNat else []
def readS (S : Script) (s : DSt) (no at' most : Int) : DSt := if readNo s no at' most then s else cntS S s
def removeE (S : Script) (s : DSt) (no : Int) : Int := if (fileAt s.T no).isNone then 1 else cntE S s
def removeS (S : Script) (s : DSt) (no : Int) : DSt := if (fileAt s.T no).isNone then s else if cntE S s = 0 then { cntS S s with T := s.T.set (no - 1).toNat ((fileAt s.T no).getD [], false) } else cntS S s
structure Small (s : DSt) : Prop where
  n : s.n ≤ 1000000
  T : s.T.length ≤ 64
  t : ∀ t ∈ s.T, t.1.length ≤ 1000000
structure Made (k : Nat) (s : DSt) : Prop where
  n : s.n ≤ 2 * k
  T : s.T.length ≤ 64
  t : ∀ t ∈ s.T, t.1.length ≤ 1024 * k
theorem Made.small {k : Nat} {s : DSt} (h : Made k s) (hk : k ≤ 400) : Small s := ⟨by have := h.n; omega, h.T, fun t ht => by have := h.t t ht; omega⟩
theorem Made.mono {k j : Nat} {s : DSt} (h : Made k s) (hj : k ≤ j) : Made j s := ⟨by have := h.n; omega, h.T, fun t ht => by have := h.t t ht; omega⟩
def liveFrom : Nat → List (List UInt8 × Bool) → List Int
  | _, [] => []
  | k, t :: r => if t.2 then ((k : Int) + 1) :: liveFrom (k + 1) r else liveFrom (k + 1) r
def liveL (T : List (List UInt8 × Bool)) : List Int := liveFrom 0 T
end Go.Proofs.YtpgigpajpcianaaGreatDoor

namespace Go.Proofs.YtpgigpajpcianaaGreatDoor
open Go.RowKit

abbrev NumF := Int → Option (DataW Unit)
def I64 (c : Int) : Prop := -9223372036854775808 ≤ c ∧ c ≤ 9223372036854775807
theorem wf_of {c : Int} (h : I64 c) : (Lit.int .i64 c).wf = true := by
  show (decide (IntKind.i64.min ≤ c) && decide (c ≤ IntKind.i64.max)) = true
  rw [show IntKind.i64.min = -9223372036854775808 by decide, show IntKind.i64.max = 9223372036854775807 by decide]
  simp [h.1, h.2]
theorem of_wf {c : Int} (h : (Lit.int .i64 c).wf = true) : I64 c := by
  have h' : (decide (IntKind.i64.min ≤ c) && decide (c ≤ IntKind.i64.max)) = true := h
  rw [show IntKind.i64.min = -9223372036854775808 by decide, show IntKind.i64.max = 9223372036854775807 by decide] at h'
  simpa [I64] using h'
def ptrElem : Value → Option (DataW Unit × List MemPlace)
  | .pointer (some ⟨b, 0, none⟩) => some (.lit (.int .i64 b), [])
  | .pointer none => some (.nil, [])
  | _ => none
theorem ptrElem_lit {v : Value} {b : Nat} {ps : List MemPlace} (h : ptrElem v = some (.lit (.int .i64 b), ps)) : v = .pointer (some ⟨b, 0, none⟩) := by
  unfold ptrElem at h
  split at h
  · simp only [Option.some.injEq, Prod.mk.injEq, DataW.lit.injEq, Lit.int.injEq, true_and] at h
    obtain ⟨h, -⟩ := h
    rw [show _ = b from Int.ofNat.inj h]
  · simp at h
  · cases h
theorem ptrElem_nil {v : Value} {ps : List MemPlace} (h : ptrElem v = some (.nil, ps)) : v = .pointer none := by
  unfold ptrElem at h
  split at h
  · simp at h
  · rfl
  · cases h
def IsMapOf (R : Value → Option (DataW Unit × List MemPlace)) (b n : Nat) (f : NumF) (w : World) : Prop :=
  ∃ D : DataW Unit, w.ownsMap Tryz.prog 3 R b n D ∧ (∀ c, Maps.has D (.int .i64 c) = (f c).isSome) ∧ ∀ c z, D.atKey (.int .i64 c) z = (f c).getD z
theorem Tryz.keyed : Maps.Keyed Tryz.prog 3 := Maps.int_keyed Tryz.underlying3
theorem Tryz.key {c : Int} (h : I64 c) : keyOf Tryz.prog 3 (.int .i64 c) = some (.int .i64 c) := Maps.keyOf_int_mk Tryz.underlying3 (wf_of h)
theorem lit_ne {c k : Int} (h : c ≠ k) : Lit.int .i64 c ≠ Lit.int .i64 k := fun e => h (by cases e; rfl)
theorem lit_key (c : Int) : WideAt.IsKeyLit (Lit.int .i64 c) := trivial
section
variable {R : Value → Option (DataW Unit × List MemPlace)} {b n : Nat} {f : NumF} {w : World}
theorem isMap_new (w : World) (R : Value → Option (DataW Unit × List MemPlace)) : IsMapOf R w.heap.size 0 (fun _ => none) (w.alloc (.map #[] 0)) :=
  ⟨_, World.ownsMap_made w Tryz.prog 3 R, fun _ => rfl, fun _ _ => rfl⟩
theorem IsMapOf.lt (h : IsMapOf R b n f w) : b < w.heap.size := by obtain ⟨D, h, -⟩ := h; exact h.lt
theorem IsMapOf.mono (h : IsMapOf R b n f w) {m : Nat} (hn : n ≤ m) : IsMapOf R b m f w := by
  obtain ⟨D, h1, h2, h3⟩ := h
  exact ⟨D, h1.mono hn, h2, h3⟩
theorem IsMapOf.congr (h : IsMapOf R b n f w) {g : NumF} (hg : ∀ c, g c = f c) : IsMapOf R b n g w := by
  obtain rfl : g = f := funext hg
  exact h
theorem IsMapOf.heap (h : IsMapOf R b n f w) : ∃ es clock, w.heap[b]? = some (.map es clock) := by
  obtain ⟨D, ⟨es, clock, hb, _⟩, _⟩ := h
  exact ⟨es, clock, hb⟩
theorem IsMapOf.same (h : IsMapOf R b n f w) {w' : World} (hb : w'.heap[b]? = w.heap[b]?) : IsMapOf R b n f w' := by
  obtain ⟨D, ⟨es, clock, h1, r⟩, h2, h3⟩ := h
  exact ⟨D, ⟨es, clock, hb.trans h1, r⟩, h2, h3⟩
theorem IsMapOf.frame {p : Nat → Prop} {w' : World} (h : IsMapOf R b n f w) (hf : Frame p w w') (hp : ¬ p b) : IsMapOf R b n f w' := h.same (hf.block b h.lt hp)
theorem IsMapOf.put {t e : TypeId} (h : IsMapOf R b n f w) (ht : Tryz.prog.underlying t = some (.map 3 e)) (hn : n < 2000000) {c : Int} (hc : I64 c) {val : Value} {d : DataW Unit} {ps : List MemPlace} (hv : R val = some (d, ps)) :
    ∃ w', (Instr.mapUpdate t (.map (some b)) (.int .i64 c) val).run Tryz.prog w = .ok () w' ∧ IsMapOf R b (n + 1) (fun x => if x = c then some d else f x) w' ∧ w.grownBy w' (some b) := by
  obtain ⟨D, h1, h2, h3⟩ := h
  obtain ⟨w', hr, h4, h5⟩ := h1.update Tryz.keyed ht (by unfold maxLen; omega) (Tryz.key hc) hv
  refine ⟨w', hr, ⟨_, h4, fun x => ?_, fun x z => ?_⟩, h5⟩
  · by_cases hx : x = c
    · subst hx
      rw [Maps.has_put_same h1.isMap (lit_key _)]
      simp
    · rw [Maps.has_put_other (lit_ne hx)]
      simp [hx, h2]
  · by_cases hx : x = c
    · subst hx
      rw [Maps.atKey_put_same h1.isMap (lit_key _)]
      simp
    · rw [Maps.atKey_put_other (lit_ne hx)]
      simp [hx, h3]
theorem IsMapOf.del {t e : TypeId} (h : IsMapOf R b n f w) (ht : Tryz.prog.underlying t = some (.map 3 e)) {c : Int} (hc : I64 c) (ty : TypeId) :
    ∃ w', (Builtin.delete_ #[t, 3] ty #[.map (some b), .int .i64 c]).run Tryz.prog w = .ok (.tuple #[]) w' ∧ IsMapOf R b n (fun x => if x = c then none else f x) w' ∧ w.grownBy w' (some b) := by
  obtain ⟨D, h1, h2, h3⟩ := h
  obtain ⟨w', hr, h4, h5⟩ := h1.drop Tryz.keyed ht (Tryz.key hc) ty
  refine ⟨w', hr, ⟨_, h4, fun x => ?_, fun x z => ?_⟩, h5.grown⟩
  · by_cases hx : x = c
    · subst hx
      rw [Maps.has_del_same]
      simp
    · rw [Maps.has_del_other (lit_ne hx)]
      simp [hx, h2]
  · by_cases hx : x = c
    · subst hx
      rw [Maps.atKey_del_same]
      simp
    · rw [Maps.atKey_del_other (lit_ne hx)]
      simp [hx, h3]
end

theorem look_int {b n : Nat} {g : Int → Option Int} {w : World} (h : IsMapOf (plainElem Tryz.prog 3) b n (fun c => (g c).map fun i => .lit (.int .i64 i)) w) {c : Int} (hc : I64 c) :
    (Instr.lookup 85 (.map (some b)) (.int .i64 c) true).run Tryz.prog w = .ok (.tuple #[.int .i64 ((g c).getD 0), .bool (g c).isSome]) w := by
  obtain ⟨D, h1, h2, h3⟩ := h
  obtain ⟨v, ps, hr, hv⟩ := h1.look_ok Tryz.keyed Tryz.underlying85 (z := .int .i64 0) (by kernel_rfl) (plainElem_int Tryz.underlying3 (by decide)) (Tryz.key hc)
  obtain ⟨a, rfl, e, -⟩ := plainElem_int_inv Tryz.underlying3 hv
  dsimp only at h2 h3
  rw [h2] at hr
  rw [h3] at e
  cases hg : g c with
  | none =>
    rw [hg] at hr e
    simp only [Option.map_none, Option.getD_none, Prod.mk.injEq, DataW.lit.injEq, Lit.int.injEq, true_and] at e
    rw [hr, ← e.1]
    rfl
  | some i =>
    rw [hg] at hr e
    simp only [Option.map_some, Option.getD_some, Prod.mk.injEq, DataW.lit.injEq, Lit.int.injEq, true_and] at e
    rw [hr, ← e.1]
    rfl
theorem look_ptr {b n : Nat} {f : NumF} {w : World} (h : IsMapOf ptrElem b n f w) {c : Int} (hc : I64 c) :
    (∀ k : Nat, f c = some (.lit (.int .i64 k)) → (Instr.lookup 86 (.map (some b)) (.int .i64 c) true).run Tryz.prog w = .ok (.tuple #[.pointer (some ⟨k, 0, none⟩), .bool true]) w) ∧
    (f c = none → (Instr.lookup 86 (.map (some b)) (.int .i64 c) true).run Tryz.prog w = .ok (.tuple #[.pointer none, .bool false]) w) := by
  obtain ⟨D, h1, h2, h3⟩ := h
  obtain ⟨v, ps, hr, hv⟩ := h1.look_ok Tryz.keyed Tryz.underlying86 (z := .pointer none) (by kernel_rfl) (zd := .nil) (zp := []) rfl (Tryz.key hc)
  rw [h2] at hr
  rw [h3] at hv
  refine ⟨fun k hk => ?_, fun hk => ?_⟩
  · rw [hk] at hr hv
    rw [hr, ptrElem_lit hv]
    rfl
  · rw [hk] at hr hv
    rw [hr, ptrElem_nil hv]
    rfl
theorem look_nilmap {c : Int} (hc : I64 c) (w : World) : (Instr.lookup 86 (.map none) (.int .i64 c) true).run Tryz.prog w = .ok (.tuple #[.pointer none, .bool false]) w :=
  Maps.look_nil true Tryz.keyed Tryz.underlying86 (z := .pointer none) (by kernel_rfl) (Tryz.key hc)
end Go.Proofs.YtpgigpajpcianaaGreatDoor

namespace Go.Proofs.YtpgigpajpcianaaGreatDoor
open Go.RowKit

def filesF (T : List (List UInt8 × Bool)) (F : List (Nat × Value)) : NumF := fun c =>
  if 1 ≤ c then match T[(c - 1).toNat]?, F[(c - 1).toNat]? with | some (_, true), some (b, _) => some (.lit (.int .i64 b)) | _, _ => none else none
theorem filesF_some {T : List (List UInt8 × Bool)} {F : List (Nat × Value)} {k b : Nat} {t : List UInt8} {v : Value} (h : T[k]? = some (t, true)) (hF : F[k]? = some (b, v)) : filesF T F ((k : Int) + 1) = some (.lit (.int .i64 b)) := by
  unfold filesF
  rw [if_pos (by omega), show ((k : Int) + 1 - 1).toNat = k by omega, h, hF]
theorem filesF_none {T : List (List UInt8 × Bool)} {F : List (Nat × Value)} {no : Int} (h : fileAt T no = none) : filesF T F no = none := by
  unfold filesF
  unfold fileAt at h
  split
  · rename_i h1
    rw [if_pos h1] at h
    split at h
    · cases h
    · split
      · rename_i h2 _ _ _ _ _ h3 _
        exact absurd h3 (h2 _)
      · rfl
  · rfl
structure Disk (base g : Nat) (own : Nat → Nat) (S : Script) (s : DSt) (bf : Nat) (mf : Option Nat) (F : List (Nat × Value)) (w : World) : Prop where
  heap : w.heap[g]? = some (.cells #[.map mf, .int .i64 s.T.length, .map (some bf), .int .i64 s.n, .int .i64 s.id] 88 (0, 0))
  fails : IsMapOf (plainElem Tryz.prog 3) bf 1000000 (fun c => (failAt S c).map fun i => .lit (.int .i64 i)) w
  none : mf = Option.none → s.T = []
  files : ∀ b, mf = some b → IsMapOf ptrElem b s.T.length (filesF s.T F) w ∧ own b = 3
  len : F.length = s.T.length
  file : ∀ k t b v, s.T[k]? = some (t, true) → F[k]? = some (b, v) → w.heap[b]? = some (.cells #[v] 204 (0, 0)) ∧ w.ownsRow base 5 1 v t.length (bytesL t) ∧ own b = 4 + 2 * k ∧ ∀ r, v.ownBlock = some r → own r = 5 + 2 * k
  og : own g = 1
  of : own bf = 2
  bnd : ∀ k, own k ≠ 0 → base ≤ k ∧ k < w.heap.size
def DiskAt (base g : Nat) (own : Nat → Nat) (S : Script) (s : DSt) (w : World) : Prop := ∃ bf mf F, Disk base g own S s bf mf F w
def DiskLeft (base g : Nat) (own : Nat → Nat) (S : Script) (s : DSt) (w w' : World) : Prop :=
  ∃ own', DiskAt base g own' S s w' ∧ (∀ k, k < w.heap.size → own' k = own k) ∧ Frame (fun k => own k ≠ 0) w w'
section
variable {base g : Nat} {own : Nat → Nat} {S : Script} {s : DSt} {bf : Nat} {mf : Option Nat} {F : List (Nat × Value)} {w : World}
theorem Disk.frame {p : Nat → Prop} {w' : World} (h : Disk base g own S s bf mf F w) (hf : Frame p w w') (hp : ∀ k, p k → own k = 0) : Disk base g own S s bf mf F w' where
  heap := hf.heap h.heap (fun e => by have := hp _ e; rw [h.og] at this; cases this)
  fails := h.fails.frame hf (fun e => by have := hp _ e; rw [h.of] at this; cases this)
  none := h.none
  files b hb := ⟨(h.files b hb).1.frame hf (fun e => by have := hp _ e; rw [(h.files b hb).2] at this; cases this), (h.files b hb).2⟩
  len := h.len
  file k t b v h1 h2 := by
    obtain ⟨f1, f2, f3, f4⟩ := h.file k t b v h1 h2
    exact ⟨hf.heap f1 (fun e => by have := hp _ e; omega), hf.owns f2 (fun r hr e => by have := hp _ e; have := f4 r hr; omega), f3, f4⟩
  og := h.og
  of := h.of
  bnd k hk := ⟨(h.bnd k hk).1, Nat.lt_of_lt_of_le (h.bnd k hk).2 hf.size⟩
theorem Disk.below {w' : World} (h : Disk base g own S s bf mf F w) (hb : Below w.heap.size w w') : Disk base g own S s bf mf F w' :=
  h.frame (Below.toFrame hb fun _ => False) (fun _ e => e.elim)
theorem DiskAt.frame {p : Nat → Prop} {w' : World} (h : DiskAt base g own S s w) (hf : Frame p w w') (hp : ∀ k, p k → own k = 0) : DiskAt base g own S s w' := by
  obtain ⟨bf, mf, F, h⟩ := h
  exact ⟨bf, mf, F, h.frame hf hp⟩
theorem DiskAt.below {w' : World} (h : DiskAt base g own S s w) (hb : Below w.heap.size w w') : DiskAt base g own S s w' :=
  h.frame (Below.toFrame hb fun _ => False) (fun _ e => e.elim)
theorem DiskAt.bnd (h : DiskAt base g own S s w) : ∀ k, own k ≠ 0 → base ≤ k ∧ k < w.heap.size := by
  obtain ⟨bf, mf, F, h⟩ := h
  exact h.bnd
theorem Disk.left (h : Disk base g own S s bf mf F w) {w' : World} (hb : Below w.heap.size w w') : DiskLeft base g own S s w w' :=
  ⟨own, ⟨bf, mf, F, h.below hb⟩, fun _ _ => rfl, Below.toFrame hb _⟩
theorem Disk.c0 (h : Disk base g own S s bf mf F w) : w.cell? ⟨g, 0, Option.none⟩ = some (.map mf) := by rw [cell_of_row _ _ _ _ _ _ h.heap]; rfl
theorem Disk.c1 (h : Disk base g own S s bf mf F w) : w.cell? ⟨g, 1, Option.none⟩ = some (.int .i64 s.T.length) := by rw [cell_of_row _ _ _ _ _ _ h.heap]; rfl
theorem Disk.c2 (h : Disk base g own S s bf mf F w) : w.cell? ⟨g, 2, Option.none⟩ = some (.map (some bf)) := by rw [cell_of_row _ _ _ _ _ _ h.heap]; rfl
theorem Disk.c3 (h : Disk base g own S s bf mf F w) : w.cell? ⟨g, 3, Option.none⟩ = some (.int .i64 s.n) := by rw [cell_of_row _ _ _ _ _ _ h.heap]; rfl
theorem Disk.c4 (h : Disk base g own S s bf mf F w) : w.cell? ⟨g, 4, Option.none⟩ = some (.int .i64 s.id) := by rw [cell_of_row _ _ _ _ _ _ h.heap]; rfl
theorem Disk.froz (h : Disk base g own S s bf mf F w) (k : Nat) : w.frozen? ⟨g, k, Option.none⟩ = false := by simp [World.frozen?, h.heap]
theorem Disk.row (h : Disk base g own S s bf mf F w) {k : Nat} {t : List UInt8} {f : Bool} (hk : s.T[k]? = some (t, f)) : ∃ b v, F[k]? = some (b, v) := by
  have hlt := (List.getElem?_eq_some_iff.1 hk).1
  have := h.len
  have hlt' : k < F.length := by omega
  exact ⟨F[k].1, F[k].2, List.getElem?_eq_getElem hlt'⟩
theorem Disk.look (h : Disk base g own S s bf mf F w) {no : Int} (hno : I64 no) :
    (∀ k t b v, no = ((k : Nat) : Int) + 1 → s.T[k]? = some (t, true) → F[k]? = some (b, v) → (Instr.lookup 86 (.map mf) (.int .i64 no) true).run Tryz.prog w = .ok (.tuple #[.pointer (some ⟨b, 0, Option.none⟩), .bool true]) w) ∧
    (fileAt s.T no = Option.none → (Instr.lookup 86 (.map mf) (.int .i64 no) true).run Tryz.prog w = .ok (.tuple #[.pointer Option.none, .bool false]) w) := by
  cases mf with
  | none =>
    refine ⟨fun k t b v _ hk _ => ?_, fun _ => look_nilmap hno w⟩
    rw [h.none rfl] at hk
    cases hk
  | some m =>
    have hm := look_ptr (h.files m rfl).1 hno
    exact ⟨fun k t b v e hk hF => hm.1 b (by subst e; exact filesF_some hk hF), fun hn => hm.2 (filesF_none hn)⟩
set_option maxRecDepth 100000 in
set_option maxHeartbeats 1000000 in
theorem find_yes (h : Disk base g own S s bf mf F w) {k b : Nat} {t : List UInt8} {v : Value} (hno : I64 ((k : Int) + 1)) (hk : s.T[k]? = some (t, true)) (hF : F[k]? = some (b, v)) :
    Calls Tryz.prog 97 #[.pointer (some ⟨g, 0, Option.none⟩), .int .i64 ((k : Int) + 1)] w fun e w' => e = .returned (.tuple #[.pointer (some ⟨b, 0, Option.none⟩), .bool true]) ∧ w' = w := by
  have c0 := h.c0
  have hl := (h.look hno).1 k t b v rfl hk hF
  obtain ⟨no, e⟩ : ∃ no : Int, no = (k : Int) + 1 := ⟨_, rfl⟩
  rw [← e] at hl ⊢
  clear h hno hk hF e
  go_enter Tryz.func97, Tryz.ntmps97
  go_wp2_with fail
  go_ret2
  exact ⟨rfl, rfl⟩
set_option maxRecDepth 100000 in
set_option maxHeartbeats 1000000 in
theorem find_no (h : Disk base g own S s bf mf F w) {no : Int} (hno : I64 no) (hn : fileAt s.T no = Option.none) :
    Calls Tryz.prog 97 #[.pointer (some ⟨g, 0, Option.none⟩), .int .i64 no] w fun e w' => e = .returned (.tuple #[.pointer Option.none, .bool false]) ∧ w' = w := by
  have c0 := h.c0
  have hl := (h.look hno).2 hn
  clear h hno hn
  go_enter Tryz.func97, Tryz.ntmps97
  go_wp2_with fail
  go_ret2
  exact ⟨rfl, rfl⟩
end
end Go.Proofs.YtpgigpajpcianaaGreatDoor

namespace Go.Proofs.YtpgigpajpcianaaGreatDoor
open Go.RowKit

section
variable {base g : Nat} {own : Nat → Nat} {S : Script} {s : DSt} {bf : Nat} {mf : Option Nat} {F : List (Nat × Value)} {w : World}
theorem Disk.put (h : Disk base g own S s bf mf F w) {w' : World} (n : Nat) (id : Int) (hg : w'.heap[g]? = some (.cells #[.map mf, .int .i64 s.T.length, .map (some bf), .int .i64 n, .int .i64 id] 88 (0, 0)))
    (hf : Frame (· = g) w w') : Disk base g own S { s with n := n, id := id } bf mf F w' where
  heap := hg
  fails := h.fails.frame hf (fun e => by have := h.of; rw [e, h.og] at this; cases this)
  none := h.none
  files b hb := ⟨(h.files b hb).1.frame hf (fun e => by have := (h.files b hb).2; rw [e, h.og] at this; cases this), (h.files b hb).2⟩
  len := h.len
  file k t b v h1 h2 := by
    obtain ⟨f1, f2, f3, f4⟩ := h.file k t b v h1 h2
    have ho := h.og
    exact ⟨hf.heap f1 (fun e => by rw [e, ho] at f3; omega), hf.owns f2 (fun r hr e => by have := f4 r hr; rw [e, ho] at this; omega), f3, f4⟩
  og := h.og
  of := h.of
  bnd k hk := ⟨(h.bnd k hk).1, Nat.lt_of_lt_of_le (h.bnd k hk).2 hf.size⟩
theorem cntS_some {i : Int} (hi : failAt S s.n = some i) : cntS S s = { s with n := s.n + 1, id := i } := by simp [cntS, hi]
theorem cntS_none (hi : failAt S s.n = none) : cntS S s = { s with n := s.n + 1, id := s.id } := by simp [cntS, hi]
set_option maxRecDepth 100000 in
set_option maxHeartbeats 1000000 in
theorem count_any (h : Disk base g own S s bf mf F w) (hn : s.n ≤ 1000000) :
    Calls Tryz.prog 98 #[.pointer (some ⟨g, 0, none⟩)] w fun e w' => e = .returned (.int .i64 (cntE S s)) ∧ Disk base g own S (cntS S s) bf mf F w' ∧ Frame (· = g) w w' := by
  have HH := Lib.hid h
  have c2 := h.c2
  have c3 := h.c3
  have f3 := h.froz 3
  have f4 := h.froz 4
  have c4 := h.c4
  have hI : I64 (s.n : Int) := ⟨by omega, by omega⟩
  have hl := look_int (w := w.drew) (h.fails.same rfl) hI
  have hz := h.heap
  unfold cntE
  cases hi : failAt S s.n with
  | none =>
    rw [hi] at hl
    rw [cntS_none hi]
    simp only [Option.getD_none, Option.isSome_none, Bool.false_eq_true, if_false] at hl ⊢
    have HZ := Lib.hid hz
    clear h hi hI hz
    go_enter Tryz.func98, Tryz.ntmps98
    go_wp2_with fail
    go_region
    go_wp2_with fail
    go_ret
    have h1 := setCell_row HZ.out 3 (.int .i64 ((s.n : Int) + 1))
    have hf : Frame (· = g) w (w.setCell ⟨g, 3, none⟩ (.int .i64 ((s.n : Int) + 1))).drew := (Frame.cell w ⟨g, 3, none⟩ _).drew
    exact ⟨rfl, HH.out.put (s.n + 1) s.id h1 hf, hf⟩
  | some i =>
    rw [hi] at hl
    rw [cntS_some hi]
    simp only [Option.getD_some, Option.isSome_some, if_true] at hl ⊢
    have HZ := Lib.hid hz
    clear h hi hI hz
    go_enter Tryz.func98, Tryz.ntmps98
    go_wp2_with fail
    go_region
    go_wp2_with fail
    go_ret
    have h1 := setCell_row (setCell_row HZ.out 3 (.int .i64 ((s.n : Int) + 1))) 4 (.int .i64 i)
    have hf : Frame (· = g) w ((w.setCell ⟨g, 3, none⟩ (.int .i64 ((s.n : Int) + 1))).setCell ⟨g, 4, none⟩ (.int .i64 i)).drew := ((Frame.cell w ⟨g, 3, none⟩ _).trans (Frame.cell _ ⟨g, 4, none⟩ _)).drew
    exact ⟨rfl, HH.out.put (s.n + 1) i h1 hf, hf⟩
end
end Go.Proofs.YtpgigpajpcianaaGreatDoor

namespace Go.Proofs.YtpgigpajpcianaaGreatDoor
open Go.RowKit

def IsScript (p : Nat → Prop) (w : World) (v : Value) (S : Script) : Prop :=
  ∃ a cap, v = .slice a S.length cap ∧ ∀ j f, S[j]? = some f → ∃ gb off, a = some ⟨gb, off, none⟩ ∧ p gb ∧ w.cell? ⟨gb, off + j * 2, none⟩ = some (.int .i64 f.1) ∧ w.cell? ⟨gb, off + j * 2 + 1, none⟩ = some (.int .i64 f.2)
theorem IsScript.frame {p q : Nat → Prop} {w w' : World} {v : Value} {S : Script} (h : IsScript p w v S) (hf : Frame q w w') (hpq : ∀ k, p k → ¬ q k) : IsScript p w' v S := by
  obtain ⟨a, cap, rfl, hc⟩ := h
  refine ⟨a, cap, rfl, fun j c hj => ?_⟩
  obtain ⟨gb, off, rfl, hp, hx, hy⟩ := hc j c hj
  exact ⟨gb, off, rfl, hp, hf.cell? hx (hpq _ hp), hf.cell? hy (hpq _ hp)⟩
theorem IsScript.below {p : Nat → Prop} {w w' : World} {v : Value} {S : Script} (h : IsScript p w v S) (hb : Below w.heap.size w w') : IsScript p w' v S := h.frame (Below.toFrame hb fun _ => False) (fun _ _ h => h)
theorem IsScript.mono {p q : Nat → Prop} {w : World} {v : Value} {S : Script} (h : IsScript p w v S) (hpq : ∀ k, k < w.heap.size → p k → q k) : IsScript q w v S := by
  obtain ⟨a, cap, rfl, hc⟩ := h
  refine ⟨a, cap, rfl, fun j c hj => ?_⟩
  obtain ⟨gb, off, rfl, hp, hx, hy⟩ := hc j c hj
  exact ⟨gb, off, rfl, hpq _ (block_lt_of_cell hx) hp, hx, hy⟩
def Script64 (S : Script) : Prop := ∀ f ∈ S, I64 f.1 ∧ I64 f.2
abbrev failF (S : Script) : NumF := fun c => (failAt S c).map fun i => .lit (.int .i64 i)
theorem Tryz.built_disk (b : Nat) : Tryz.prog.built 88 [(2, .map (some b))] = some #[.map none, .int .i64 0, .map (some b), .int .i64 0, .int .i64 0] := by kernel_rfl
structure NewInv (w : World) (S : Script) (k : Nat) (wr : World) : Prop where
  le : k ≤ S.length
  map : IsMapOf (plainElem Tryz.prog 3) w.heap.size k (failF (S.take k)) wr
  heap : wr.heap[w.heap.size + 1]? = some (.cells #[.map none, .int .i64 0, .map (some w.heap.size), .int .i64 0, .int .i64 0] 88 (0, 0))
  bel : Below w.heap.size w wr
theorem NewInv.c2 {w : World} {S : Script} {k : Nat} {wr : World} (h : NewInv w S k wr) : wr.cell? ⟨w.heap.size + 1, 2, none⟩ = some (.map (some w.heap.size)) := by rw [cell_of_row _ _ _ _ _ _ h.heap]; rfl
theorem NewInv.below {w : World} {S : Script} {k : Nat} {wr wr' : World} (h : NewInv w S k wr) (hb : Below wr.heap.size wr wr') : NewInv w S k wr' :=
  ⟨h.le, h.map.frame (Below.toFrame hb fun _ => False) (fun h => h), (hb.block _ (Array.getElem?_eq_some_iff.1 h.heap).1).trans h.heap, h.bel.trans (hb.mono h.bel.size)⟩
theorem NewInv.lt {w : World} {S : Script} {k : Nat} {wr : World} (h : NewInv w S k wr) : w.heap.size + 1 < wr.heap.size := (Array.getElem?_eq_some_iff.1 h.heap).1
theorem NewInv.made {w : World} {S : Script} {wr : World} (h : NewInv w S S.length wr) (hl : S.length ≤ 1000000) :
    DiskAt w.heap.size (w.heap.size + 1) (fun k => if k = w.heap.size + 1 then 1 else if k = w.heap.size then 2 else 0) S dst0 wr := by
  refine ⟨w.heap.size, none, [], ?_, ?_, (fun _ => rfl), (fun b e => by cases e), rfl, (fun k t b v e => by simp [dst0] at e), (by simp), (by simp), fun k hk => ?_⟩
  · exact h.heap
  · have := h.map
    rw [List.take_length] at this
    exact this.mono hl
  · have := h.lt
    by_cases h1 : k = w.heap.size + 1
    · omega
    · by_cases h2 : k = w.heap.size
      · omega
      · simp [h1, h2] at hk
theorem NewInv.put {w : World} {S : Script} {k : Nat} {wr w' : World} (h : NewInv w S k wr) {f : Int × Int} (hf : S[k]? = some f) (hn : failAt (S.take k) f.1 = none)
    (hm : IsMapOf (plainElem Tryz.prog 3) w.heap.size (k + 1) (fun x => if x = f.1 then some (.lit (.int .i64 f.2)) else failF (S.take k) x) w') (hg : wr.grownBy w' (some w.heap.size)) : NewInv w S (k + 1) w' where
  le := (List.getElem?_eq_some_iff.1 hf).1
  map := hm.congr (fun c => by
    show (failAt (S.take (k + 1)) c).map _ = _
    rw [take_snoc hf, failAt_snoc]
    by_cases hc : c = f.1
    · subst hc
      simp [hn]
    · have hc' : ¬ f.1 = c := fun e => hc e.symm
      cases hh : failAt (S.take k) c <;> simp [hc, hc', hh, failF])
  heap := (hg.block _ h.lt (by simp)).trans h.heap
  bel := h.bel.grown hg h.bel.size (fun j e => by cases e; exact Nat.le_refl _)
theorem NewInv.skip {w : World} {S : Script} {k : Nat} {wr : World} (h : NewInv w S k wr) {f : Int × Int} (hf : S[k]? = some f) (hn : (failAt (S.take k) f.1).isSome = true) : NewInv w S (k + 1) wr where
  le := (List.getElem?_eq_some_iff.1 hf).1
  map := (h.map.mono (Nat.le_succ _)).congr (fun c => by
    show (failAt (S.take (k + 1)) c).map _ = (failAt (S.take k) c).map _
    rw [take_snoc hf, failAt_snoc]
    by_cases hc : (failAt (S.take k) c).isSome = true
    · rw [if_pos hc]
    · rw [if_neg hc, if_neg (fun e => hc (by rw [← e]; exact hn))]
      cases hh : failAt (S.take k) c with
      | none => rfl
      | some i => rw [hh] at hc; exact absurd rfl hc)
  heap := h.heap
  bel := h.bel
set_option maxRecDepth 100000 in
set_option maxHeartbeats 1000000 in
theorem new_any {p : Nat → Prop} (v : Value) (S : Script) (w : World) (hS : IsScript p w v S) (hl : S.length ≤ 1000000) (hI : Script64 S) :
    Calls Tryz.prog 15 #[v] w fun e w' => ∃ g own, e = .returned (.pointer (some ⟨g, 0, none⟩)) ∧ DiskAt w.heap.size g own S dst0 w' ∧ Below w.heap.size w w' := by
  have hmm := @run_makeMap Tryz.prog
  have HB := Lib.hid Tryz.built_disk
  obtain ⟨a, cap, rfl, hc⟩ := id hS
  have HS := Lib.hid hS
  have HI := Lib.hid hI
  clear hS hc hI
  go_enter Tryz.func15, Tryz.ntmps15
  go_wp2_with fail
  have hi0 : NewInv w S 0 ((w.alloc (.map #[] 0)).alloc (.cells #[.map none, .int .i64 0, .map (some w.heap.size), .int .i64 0, .int .i64 0] 88)) :=
    ⟨Nat.zero_le _, ((isMap_new w _).congr (fun c => by simp [failF, failAt_nil])).same (by rw [Below.heap_alloc _ _ _ (by simp)]), heap_at (by simp), ((Below.refl _ w).alloc (Nat.le_refl _) _).alloc (by simp) _⟩
  have HI0 := Lib.hid hi0
  clear hi0
  go_loopw [13] (fun i wr => ∃ k : Nat, i = .int .i64 k ∧ NewInv w S k wr) (fun i _ => S.length - (intOf i).toNat)
  case atStart => exact ⟨0, rfl, HI0.out⟩
  case round =>
    clear HI0
    obtain ⟨k, rfl, hinv⟩ := hrel
    by_cases hlt : k < S.length
    · have q1 : (0 : Int) ≤ (k : Int) := by omega
      have q2 : (k : Int) < (S.length : Int) := by omega
      obtain ⟨f, hf⟩ : ∃ f, S[k]? = some f := ⟨S[k], by simp⟩
      obtain ⟨a', cap', e, hc⟩ := HS.out.below hinv.bel
      obtain ⟨gb, off, rfl, -, hx, hy⟩ := hc k f hf
      cases e
      obtain ⟨hi1, hi2⟩ := HI.out f (List.mem_of_getElem? hf)
      have HV := Lib.hid hinv
      have HF := Lib.hid hf
      have HL := Lib.hid hi1
      have HL2 := Lib.hid hi2
      clear hf hc hi1 hi2 hinv
      go_upto_region 5 with fail
      have hinv1 := HV.out.below ((Below.refl wr.heap.size wr).alloc (Nat.le_refl _) (.cells #[.int .i64 f.1, .int .i64 f.2] 90))
      have hh := heap_alloc_last wr (.cells #[.int .i64 f.1, .int .i64 f.2] 90)
      have hne := HV.out.lt
      generalize wr.alloc (.cells #[.int .i64 f.1, .int .i64 f.2] 90) = W1 at hinv1 hh ⊢
      generalize wr.heap.size = G at hh hne ⊢
      have c2 := hinv1.c2
      have d0 : W1.cell? ⟨G, 0, none⟩ = some (.int .i64 f.1) := by rw [cell_of_row _ _ _ _ _ _ hh]; rfl
      have d1 : W1.cell? ⟨G, 1, none⟩ = some (.int .i64 f.2) := by rw [cell_of_row _ _ _ _ _ _ hh]; rfl
      have hl1 := look_int (w := W1.drew) (hinv1.map.same rfl) HL.out
      have hinv2 : NewInv w S k W1.drew := hinv1.below (Below.drew (Below.refl _ _))
      have hinv3 : NewInv w S k W1.drew.drew := hinv2.below (Below.drew (Below.refl _ _))
      obtain ⟨W2, hr2, hm2, hg2⟩ := hinv3.map.put Tryz.underlying85 (by omega) HL.out (plainElem_int Tryz.underlying3 (wf_of HL2.out))
      have HV2 := Lib.hid hinv2
      have HV3 := Lib.hid hinv3
      have HM2 := Lib.hid hm2
      have HG2 := Lib.hid hg2
      clear hinv1 hinv2 hinv3 hh hm2 hg2 HV hx hy
      cases hi : failAt (S.take k) f.1 with
      | none =>
        rw [hi] at hl1
        simp only [Option.getD_none, Option.isSome_none] at hl1
        have HN := Lib.hid hi
        clear hi
        go_region
        go_wp2_with fail
        go_region
        go_wp2_with fail
        exact ⟨⟨k + 1, by go_num, HV3.out.put HF.out HN.out HM2.out HG2.out⟩, by simp [intOf]; omega⟩
      | some i =>
        rw [hi] at hl1
        simp only [Option.getD_some, Option.isSome_some] at hl1
        have HN := Lib.hid hi
        clear hi
        go_region
        go_wp2_with fail
        exact ⟨⟨k + 1, by go_num, HV2.out.skip HF.out (by rw [HN.out]; rfl)⟩, by simp [intOf]; omega⟩
    · obtain rfl : k = S.length := by have := hinv.le; omega
      have HV := Lib.hid hinv
      clear hinv
      go_wp2_with fail
      go_ret
      exact ⟨_, _, rfl, HV.out.made hl, HV.out.bel⟩
end Go.Proofs.YtpgigpajpcianaaGreatDoor

namespace Go.Proofs.YtpgigpajpcianaaGreatDoor
open Go.RowKit

theorem eql_map (m : Option Nat) (w : World) : (binOp .eql 86 (.map m) (.map none)).run Tryz.prog w = .ok (.bool m.isNone) w := by
  have h : ∀ d : Nat, (Op.equalIn (d + 1) 86 (.map m) (.map none)).run Tryz.prog w = .ok m.isNone w := fun d => by
    cases m <;> simp [Op.equalIn, run_underlying Tryz.underlying86]
  simp only [binOp]
  simp [Op.equal, Op.maxDepth, h 9999]
theorem get_snoc {α : Type} {L : List α} {x : α} {k : Nat} {y : α} (h : (L ++ [x])[k]? = some y) : L[k]? = some y ∨ (k = L.length ∧ y = x) := by
  rcases Nat.lt_trichotomy k L.length with h1 | h1 | h1
  · rw [List.getElem?_append_left h1] at h
    exact .inl h
  · subst h1
    simp at h
    exact .inr ⟨rfl, h.symm⟩
  · rw [List.getElem?_append_right (by omega)] at h
    have := (List.getElem?_eq_some_iff.1 h).1
    simp at this
    omega
section
variable {base g : Nat} {own : Nat → Nat} {S : Script} {s : DSt} {bf : Nat} {mf : Option Nat} {F : List (Nat × Value)} {w : World}
theorem filesF_snoc {T : List (List UInt8 × Bool)} {F : List (Nat × Value)} (hl : F.length = T.length) (t : List UInt8) (X : Nat) (v : Value) (c : Int) :
    filesF (T ++ [(t, true)]) (F ++ [(X, v)]) c = if c = (T.length : Int) + 1 then some (.lit (.int .i64 X)) else filesF T F c := by
  by_cases h1 : 1 ≤ c
  · obtain ⟨k, rfl⟩ : ∃ k : Nat, c = (k : Int) + 1 := ⟨(c - 1).toNat, by omega⟩
    by_cases hk : k = T.length
    · subst hk
      rw [if_pos rfl]
      exact filesF_some (t := t) (v := v) (by simp) (by rw [← hl]; simp)
    · rw [if_neg (by omega)]
      unfold filesF
      rw [show ((k : Int) + 1 - 1).toNat = k by omega, if_pos h1, if_pos h1]
      by_cases hlt : k < T.length
      · rw [List.getElem?_append_left hlt, List.getElem?_append_left (by omega)]
      · have e1 : (T ++ [(t, true)])[k]? = none := by rw [List.getElem?_eq_none_iff]; simp; omega
        have e2 : T[k]? = none := by rw [List.getElem?_eq_none_iff]; omega
        rw [e1, e2]
  · rw [if_neg (by omega)]
    unfold filesF
    rw [if_neg h1, if_neg h1]
theorem Disk.added {m : Nat} (h : Disk base g own S s bf (some m) F w) {w' : World} (X : Nat) (hX : w.heap.size ≤ X)
    (hg : w'.heap[g]? = some (.cells #[.map (some m), .int .i64 ((s.T.length : Int) + 1), .map (some bf), .int .i64 s.n, .int .i64 s.id] 88 (0, 0)))
    (hx : w'.heap[X]? = some (.cells #[.slice Option.none 0 0] 204 (0, 0)))
    (hm : IsMapOf ptrElem m (s.T.length + 1) (fun x => if x = (s.T.length : Int) + 1 then some (.lit (.int .i64 X)) else filesF s.T F x) w') (hf : Frame (fun k => k = g ∨ k = m) w w') :
    Disk base g (fun k => if k = X then 4 + 2 * s.T.length else own k) S { s with T := s.T ++ [([], true)] } bf (some m) (F ++ [(X, .slice Option.none 0 0)]) w' := by
  have hlo : ∀ k, own k ≠ 0 → k ≠ X := fun k hk e => by have := (h.bnd k hk).2; omega
  have og := h.og
  have om := (h.files m rfl).2
  have of := h.of
  refine ⟨?_, ?_, fun e => (by cases e), fun b e => ?_, by simp [h.len], fun k t b v h1 h2 => ?_, ?_, ?_, fun k hk => ?_⟩
  · rw [hg]
    simp
  · exact h.fails.frame hf (fun e => by rcases e with e | e <;> rw [e] at of <;> omega)
  · cases e
    refine ⟨?_, by rw [if_neg (hlo m (by omega))]; exact om⟩
    have := hm.congr (fun c => filesF_snoc h.len [] X (.slice Option.none 0 0) c)
    simpa using this
  · rcases get_snoc h1 with h1 | ⟨rfl, e⟩
    · have hk := (List.getElem?_eq_some_iff.1 h1).1
      rw [List.getElem?_append_left (by rw [h.len]; exact hk)] at h2
      obtain ⟨f1, f2, f3, f4⟩ := h.file k t b v h1 h2
      refine ⟨hf.heap f1 (fun e => by rcases e with e | e <;> rw [e] at f3 <;> omega), hf.owns f2 (fun r hr e => by have := f4 r hr; rcases e with e | e <;> rw [e] at this <;> omega), ?_, fun r hr => ?_⟩
      · rw [if_neg (hlo b (by omega))]
        exact f3
      · rw [if_neg (hlo r (by rw [f4 r hr]; omega))]
        exact f4 r hr
    · rw [← h.len] at h2
      simp at h2
      obtain ⟨rfl, rfl⟩ := h2
      cases e
      exact ⟨hx, World.ownsRow_nil _ _ _ _, if_pos rfl, fun r hr => by cases hr⟩
  · show (if g = X then _ else own g) = 1
    rw [if_neg (hlo g (by omega))]
    exact og
  · show (if bf = X then _ else own bf) = 2
    rw [if_neg (hlo bf (by omega))]
    exact of
  · by_cases hk' : k = X
    · subst hk'
      have := (h.bnd g (by omega))
      exact ⟨by omega, (Array.getElem?_eq_some_iff.1 hx).1⟩
    · simp only [hk', if_false] at hk
      exact ⟨(h.bnd k hk).1, Nat.lt_of_lt_of_le (h.bnd k hk).2 hf.size⟩
theorem Disk.mapped (h : Disk base g own S s bf Option.none F w) {w' : World} (m : Nat) (hm : w.heap.size ≤ m)
    (hg : w'.heap[g]? = some (.cells #[.map (some m), .int .i64 s.T.length, .map (some bf), .int .i64 s.n, .int .i64 s.id] 88 (0, 0)))
    (hi : IsMapOf ptrElem m 0 (fun _ => Option.none) w') (hf : Frame (· = g) w w') : Disk base g (fun k => if k = m then 3 else own k) S s bf (some m) F w' := by
  have hT := h.none rfl
  have hlo : ∀ k, own k ≠ 0 → k ≠ m := fun k hk e => by have := (h.bnd k hk).2; omega
  have og := h.og
  have of := h.of
  refine ⟨hg, h.fails.frame hf (fun e => by rw [e] at of; omega), fun e => (by cases e), fun b e => ?_, h.len, fun k t b v h1 h2 => ?_, ?_, ?_, fun k hk => ?_⟩
  · cases e
    refine ⟨(hi.mono (Nat.zero_le _)).congr (fun c => ?_), if_pos rfl⟩
    unfold filesF
    rw [hT]
    split <;> simp
  · rw [hT] at h1
    simp at h1
  · show (if g = m then _ else own g) = 1
    rw [if_neg (hlo g (by omega))]
    exact og
  · show (if bf = m then _ else own bf) = 2
    rw [if_neg (hlo bf (by omega))]
    exact of
  · by_cases hk' : k = m
    · subst hk'
      have := (h.bnd g (by omega))
      exact ⟨by omega, hi.lt⟩
    · simp only [hk', if_false] at hk
      exact ⟨(h.bnd k hk).1, Nat.lt_of_lt_of_le (h.bnd k hk).2 hf.size⟩
set_option maxRecDepth 100000 in
set_option maxHeartbeats 1000000 in
theorem create_many (h : Disk base g own S s bf mf F w) (hm : 64 ≤ s.T.length) :
    Calls Tryz.prog 131 #[.pointer (some ⟨g, 0, Option.none⟩)] w fun e w' => e = .returned (.tuple #[.int .i64 0, .int .i64 17]) ∧ w' = w := by
  have c1 := h.c1
  have q1 : (64 : Int) ≤ (s.T.length : Int) := by omega
  clear h hm
  go_enter Tryz.func131, Tryz.ntmps131
  go_wp2_with fail
  go_ret2
  exact ⟨rfl, rfl⟩
set_option maxRecDepth 100000 in
set_option maxHeartbeats 1000000 in
theorem create_fail (h : Disk base g own S s bf mf F w) (hs : Small s) (hm : ¬ 64 ≤ s.T.length) (he : cntE S s ≠ 0) :
    Calls Tryz.prog 131 #[.pointer (some ⟨g, 0, Option.none⟩)] w fun e w' => e = .returned (.tuple #[.int .i64 0, .int .i64 (cntE S s)]) ∧ Disk base g own S (cntS S s) bf mf F w' ∧ Frame (· = g) w w' := by
  have c1 := h.c1
  have q1 : ¬ (64 : Int) ≤ (s.T.length : Int) := by omega
  have HC := Lib.hid (count_any h hs.n)
  obtain ⟨E, hE⟩ : ∃ E, E = cntE S s := ⟨_, rfl⟩
  rw [← hE] at HC he ⊢
  have g1 : (E != 0) = true := by simpa using he
  clear h hm hs hE he
  go_enter Tryz.func131, Tryz.ntmps131
  go_wp2_with fail
  refine HC.out.mono ?_
  rintro e w1 ⟨rfl, hd, hf⟩
  have HD := Lib.hid hd
  have HF := Lib.hid hf
  clear hd hf
  go_wp2_with fail
  go_ret2
  exact ⟨rfl, HD.out, HF.out⟩
set_option maxRecDepth 100000 in
set_option maxHeartbeats 1000000 in
theorem create_yes (h : Disk base g own S s bf mf F w) (hs : Small s) (hm : ¬ 64 ≤ s.T.length) (he : cntE S s = 0) :
    Calls Tryz.prog 131 #[.pointer (some ⟨g, 0, Option.none⟩)] w fun e w' => e = .returned (.tuple #[.int .i64 ((s.T.length : Int) + 1), .int .i64 0]) ∧
      DiskLeft base g own S { cntS S s with T := s.T ++ [([], true)] } w w' := by
  have c1 := h.c1
  have q1 : ¬ (64 : Int) ≤ (s.T.length : Int) := by omega
  have HC := Lib.hid (count_any h hs.n)
  have HH := Lib.hid h
  rw [he] at HC
  have hmm := @run_makeMap Tryz.prog
  have hq := eql_map
  clear h hs he
  go_enter Tryz.func131, Tryz.ntmps131
  go_wp2_with fail
  refine HC.out.mono ?_
  rintro e w1 ⟨rfl, hd, hf⟩
  have HD := Lib.hid hd
  have HF := Lib.hid hf
  have c0 := hd.c0
  cases mf with
  | none =>
    have hdm := hd.below ((Below.refl w1.heap.size w1).alloc (Nat.le_refl _) (.map #[] 0))
    have c0m := hdm.c0
    have z0m := hdm.froz 0
    have HDM := Lib.hid hdm
    clear hd hf hdm
    go_upto_region 10 with fail
    have hd1 := HD.out.mapped (w' := (w1.alloc (.map #[] 0)).setCell ⟨g, 0, Option.none⟩ (.map (some w1.heap.size))) w1.heap.size (Nat.le_refl _) (by rw [setCell_row HDM.out.heap]; rfl)
      ((isMap_new w1 ptrElem).frame (Frame.cell _ _ _) (by have := (HD.out.bnd g (by rw [HD.out.og]; omega)).2; show ¬ w1.heap.size = g; omega)) ((Below.toFrame ((Below.refl _ w1).alloc (Nat.le_refl _) _) _).trans (Frame.cell _ ⟨g, 0, Option.none⟩ _))
    have hf1 : Frame (· = g) w ((w1.alloc (.map #[] 0)).setCell ⟨g, 0, Option.none⟩ (.map (some w1.heap.size))) := HF.out.trans ((Below.toFrame ((Below.refl _ w1).alloc (Nat.le_refl _) _) _).trans (Frame.cell _ ⟨g, 0, Option.none⟩ _))
    have hown1 : ∀ k, k < w.heap.size → (if k = w1.heap.size then 3 else own k) = own k := fun k hk => if_neg (by have := HF.out.size; omega)
    obtain ⟨m, hm0⟩ : ∃ m, m = w1.heap.size := ⟨_, rfl⟩
    rw [← hm0] at hd1 hf1 hown1 ⊢
    generalize hown : (fun k => if k = m then 3 else own k) = own1 at hd1
    replace hown1 : ∀ k, k < w.heap.size → own1 k = own k := fun k hk => by rw [← hown]; exact hown1 k hk
    generalize (w1.alloc (.map #[] 0)).setCell ⟨g, 0, Option.none⟩ (.map (some m)) = W at hd1 hf1 ⊢
    have HF1 := Lib.hid hf1
    have HO1 := Lib.hid hown1
    clear hf1 hown1 hown hm0 c0 c0m z0m HD HDM HF
    have c0 := hd1.c0
    have c1 : W.cell? ⟨g, 1, Option.none⟩ = some (.int .i64 (s.T.length : Int)) := hd1.c1
    have z1 := hd1.froz 1
    have hg1 := hd1.heap
    have hlt1 : g < W.heap.size := (Array.getElem?_eq_some_iff.1 hg1).1
    have HD1 := Lib.hid hd1
    have HG1 := Lib.hid hg1
    clear hd1 hg1
    go_upto_region 11 with fail
    have hg2 := setCell_row HG1.out 1 (.int .i64 ((s.T.length : Int) + 1))
    have hf2 : Frame (· = g) W (W.setCell ⟨g, 1, Option.none⟩ (.int .i64 ((s.T.length : Int) + 1))) := Frame.cell W ⟨g, 1, Option.none⟩ _
    have hm2 := (HD1.out.files m rfl).1.frame hf2 (fun e => by have h1 := HD1.out.og; have h2 := (HD1.out.files m rfl).2; rw [e] at h2; omega)
    have hs2 : (W.setCell ⟨g, 1, Option.none⟩ (.int .i64 ((s.T.length : Int) + 1))).heap.size = W.heap.size := by simp [World.setCell]
    generalize W.setCell ⟨g, 1, Option.none⟩ (.int .i64 ((s.T.length : Int) + 1)) = W2 at hg2 hf2 hm2 hs2 ⊢
    have c0 : W2.cell? ⟨g, 0, Option.none⟩ = some (.map (some m)) := by rw [cell_of_row _ _ _ _ _ _ hg2]; rfl
    have c1 : W2.cell? ⟨g, 1, Option.none⟩ = some (.int .i64 ((s.T.length : Int) + 1)) := by rw [cell_of_row _ _ _ _ _ _ hg2]; rfl
    have c0' : (W2.alloc (.cells #[.slice Option.none 0 0] 204)).cell? ⟨g, 0, Option.none⟩ = some (.map (some m)) := by rw [Below.cell ((Below.refl _ W2).alloc (Nat.le_refl _) _) (show g < W2.heap.size by omega)]; exact c0
    have c1' : (W2.alloc (.cells #[.slice Option.none 0 0] 204)).cell? ⟨g, 1, Option.none⟩ = some (.int .i64 ((s.T.length : Int) + 1)) := by rw [Below.cell ((Below.refl _ W2).alloc (Nat.le_refl _) _) (show g < W2.heap.size by omega)]; exact c1
    have hb3 : Below W2.heap.size W2 (W2.alloc (.cells #[.slice Option.none 0 0] 204)).drew := ((Below.refl _ W2).alloc (Nat.le_refl _) _).drew
    have hm3 := hm2.frame (Below.toFrame hb3 fun _ => False) (fun h => h)
    obtain ⟨W4, hr4, hm4, hg4⟩ := hm3.put Tryz.underlying86 (c := (s.T.length : Int) + 1) (by show s.T.length < 2000000; omega) ⟨by omega, by omega⟩ (show ptrElem (.pointer (some ⟨W2.heap.size, 0, Option.none⟩)) = _ from rfl)
    have HG2 := Lib.hid hg2
    have HF2 := Lib.hid hf2
    have HS2 := Lib.hid hs2
    have HB3 := Lib.hid hb3
    have HM4 := Lib.hid hm4
    have HG4 := Lib.hid hg4
    clear hg2 hf2 hm2 hs2 hb3 hm3 hm4 hg4
    go_region
    have hgm : g ≠ m := fun e => by have h1 := HD1.out.og; have h2 := (HD1.out.files m rfl).2; rw [e] at h1; omega
    have hb4 : Frame (· = m) W2 W4 := (Below.toFrame HB3.out _).grown HG4.out (fun k _ e => by cases e; rfl)
    have hg4 := hb4.heap HG2.out hgm
    have hx4 : W4.heap[W2.heap.size]? = some (.cells #[.slice Option.none 0 0] 204 (0, 0)) := by
      rw [HG4.out.block W2.heap.size (by simp [World.drew]) (by intro e; cases e; have := (HD1.out.files _ rfl).1.lt; have := HS2.out; omega)]
      exact heap_alloc_last W2 _
    have hf4 : Frame (fun k => k = g ∨ k = m) W W4 := (HF2.out.mono (fun k _ e => .inl e)).trans (hb4.mono (fun k _ e => .inr e))
    have hd4 := HD1.out.added (w' := W4) W2.heap.size (by have := HS2.out; omega) hg4 hx4 HM4.out hf4
    have hl4 : ∀ k, k < w.heap.size → (if k = W2.heap.size then 4 + 2 * (cntS S s).T.length else own1 k) = own k := fun k hk => by
      have h1 := HF1.out.size
      have h2 := HS2.out
      rw [if_neg (by omega)]
      exact HO1.out k hk
    have hf5 : Frame (fun k => own k ≠ 0) w W4 := (HF1.out.mono (fun k hk e => by have h1 := HO1.out k hk; have h2 := HD1.out.og; show own k ≠ 0; rw [e] at h1 ⊢; omega)).then hf4 (fun k hk e => by
      have h1 := HO1.out k hk
      have h2 := HD1.out.og
      have h3 := (HD1.out.files m rfl).2
      rcases e with e | e <;> rw [e] at h1 ⊢ <;> omega)
    have c1 : W4.cell? ⟨g, 1, Option.none⟩ = some (.int .i64 ((s.T.length : Int) + 1)) := by rw [cell_of_row _ _ _ _ _ _ hg4]; rfl
    have HD4 := Lib.hid hd4
    have HL4 := Lib.hid hl4
    have HF5 := Lib.hid hf5
    clear hgm hb4 hg4 hx4 hf4 hd4 hl4 hf5 hr4 HB3 HM4 HG4 c0' c1'
    go_wp2_with fail
    go_ret2
    exact ⟨rfl, _, ⟨_, _, _, HD4.out⟩, HL4.out, HF5.out⟩
  | some m =>
    have hd1 := hd
    have HF1 := Lib.hid hf
    obtain ⟨own1, hown⟩ : ∃ own1, own1 = own := ⟨_, rfl⟩
    have HO1 := Lib.hid (show ∀ k, k < w.heap.size → own1 k = own k from fun _ _ => by rw [hown])
    rw [← hown] at hd1
    clear hown
    obtain ⟨W, hW⟩ : ∃ W, W = w1 := ⟨_, rfl⟩
    clear hd hf HF HD
    go_upto_region 10 with fail
    rw [← hW] at hd1 HF1 ⊢
    clear hW c0
    have c0 := hd1.c0
    have c1 : W.cell? ⟨g, 1, Option.none⟩ = some (.int .i64 (s.T.length : Int)) := hd1.c1
    have z1 := hd1.froz 1
    have hg1 := hd1.heap
    have hlt1 : g < W.heap.size := (Array.getElem?_eq_some_iff.1 hg1).1
    have HD1 := Lib.hid hd1
    have HG1 := Lib.hid hg1
    clear hd1 hg1
    go_upto_region 11 with fail
    have hg2 := setCell_row HG1.out 1 (.int .i64 ((s.T.length : Int) + 1))
    have hf2 : Frame (· = g) W (W.setCell ⟨g, 1, Option.none⟩ (.int .i64 ((s.T.length : Int) + 1))) := Frame.cell W ⟨g, 1, Option.none⟩ _
    have hm2 := (HD1.out.files m rfl).1.frame hf2 (fun e => by have h1 := HD1.out.og; have h2 := (HD1.out.files m rfl).2; rw [e] at h2; omega)
    have hs2 : (W.setCell ⟨g, 1, Option.none⟩ (.int .i64 ((s.T.length : Int) + 1))).heap.size = W.heap.size := by simp [World.setCell]
    generalize W.setCell ⟨g, 1, Option.none⟩ (.int .i64 ((s.T.length : Int) + 1)) = W2 at hg2 hf2 hm2 hs2 ⊢
    have c0 : W2.cell? ⟨g, 0, Option.none⟩ = some (.map (some m)) := by rw [cell_of_row _ _ _ _ _ _ hg2]; rfl
    have c1 : W2.cell? ⟨g, 1, Option.none⟩ = some (.int .i64 ((s.T.length : Int) + 1)) := by rw [cell_of_row _ _ _ _ _ _ hg2]; rfl
    have c0' : (W2.alloc (.cells #[.slice Option.none 0 0] 204)).cell? ⟨g, 0, Option.none⟩ = some (.map (some m)) := by rw [Below.cell ((Below.refl _ W2).alloc (Nat.le_refl _) _) (show g < W2.heap.size by omega)]; exact c0
    have c1' : (W2.alloc (.cells #[.slice Option.none 0 0] 204)).cell? ⟨g, 1, Option.none⟩ = some (.int .i64 ((s.T.length : Int) + 1)) := by rw [Below.cell ((Below.refl _ W2).alloc (Nat.le_refl _) _) (show g < W2.heap.size by omega)]; exact c1
    have hb3 : Below W2.heap.size W2 (W2.alloc (.cells #[.slice Option.none 0 0] 204)).drew := ((Below.refl _ W2).alloc (Nat.le_refl _) _).drew
    have hm3 := hm2.frame (Below.toFrame hb3 fun _ => False) (fun h => h)
    obtain ⟨W4, hr4, hm4, hg4⟩ := hm3.put Tryz.underlying86 (c := (s.T.length : Int) + 1) (by show s.T.length < 2000000; omega) ⟨by omega, by omega⟩ (show ptrElem (.pointer (some ⟨W2.heap.size, 0, Option.none⟩)) = _ from rfl)
    have HG2 := Lib.hid hg2
    have HF2 := Lib.hid hf2
    have HS2 := Lib.hid hs2
    have HB3 := Lib.hid hb3
    have HM4 := Lib.hid hm4
    have HG4 := Lib.hid hg4
    clear hg2 hf2 hm2 hs2 hb3 hm3 hm4 hg4
    go_region
    have hgm : g ≠ m := fun e => by have h1 := HD1.out.og; have h2 := (HD1.out.files m rfl).2; rw [e] at h1; omega
    have hb4 : Frame (· = m) W2 W4 := (Below.toFrame HB3.out _).grown HG4.out (fun k _ e => by cases e; rfl)
    have hg4 := hb4.heap HG2.out hgm
    have hx4 : W4.heap[W2.heap.size]? = some (.cells #[.slice Option.none 0 0] 204 (0, 0)) := by
      rw [HG4.out.block W2.heap.size (by simp [World.drew]) (by intro e; cases e; have := (HD1.out.files _ rfl).1.lt; have := HS2.out; omega)]
      exact heap_alloc_last W2 _
    have hf4 : Frame (fun k => k = g ∨ k = m) W W4 := (HF2.out.mono (fun k _ e => .inl e)).trans (hb4.mono (fun k _ e => .inr e))
    have hd4 := HD1.out.added (w' := W4) W2.heap.size (by have := HS2.out; omega) hg4 hx4 HM4.out hf4
    have hl4 : ∀ k, k < w.heap.size → (if k = W2.heap.size then 4 + 2 * (cntS S s).T.length else own1 k) = own k := fun k hk => by
      have h1 := HF1.out.size
      have h2 := HS2.out
      rw [if_neg (by omega)]
      exact HO1.out k hk
    have hf5 : Frame (fun k => own k ≠ 0) w W4 := (HF1.out.mono (fun k hk e => by have h1 := HO1.out k hk; have h2 := HD1.out.og; show own k ≠ 0; rw [e] at h1 ⊢; omega)).then hf4 (fun k hk e => by
      have h1 := HO1.out k hk
      have h2 := HD1.out.og
      have h3 := (HD1.out.files m rfl).2
      rcases e with e | e <;> rw [e] at h1 ⊢ <;> omega)
    have c1 : W4.cell? ⟨g, 1, Option.none⟩ = some (.int .i64 ((s.T.length : Int) + 1)) := by rw [cell_of_row _ _ _ _ _ _ hg4]; rfl
    have HD4 := Lib.hid hd4
    have HL4 := Lib.hid hl4
    have HF5 := Lib.hid hf5
    clear hgm hb4 hg4 hx4 hf4 hd4 hl4 hf5 hr4 HB3 HM4 HG4 c0' c1'
    go_wp2_with fail
    go_ret2
    exact ⟨rfl, _, ⟨_, _, _, HD4.out⟩, HL4.out, HF5.out⟩
end

theorem create_any {base g : Nat} {own : Nat → Nat} {S : Script} {s : DSt} {w : World} (h : DiskAt base g own S s w) (hs : Small s) :
    Calls Tryz.prog 131 #[.pointer (some ⟨g, 0, none⟩)] w fun e w' => e = .returned (.tuple #[.int .i64 (createN S s), .int .i64 (createE S s)]) ∧ DiskLeft base g own S (createS S s) w w' := by
  obtain ⟨bf, mf, F, h⟩ := h
  unfold createN createE createS
  by_cases hm : 64 ≤ s.T.length
  · rw [if_pos hm, if_pos hm, if_neg (by decide)]
    refine (create_many h hm).mono ?_
    rintro e w' ⟨rfl, rfl⟩
    exact ⟨rfl, h.left (Below.refl _ _)⟩
  · rw [if_neg hm, if_neg hm]
    by_cases he : cntE S s = 0
    · rw [if_pos he, if_pos he, he]
      exact create_yes h hs hm he
    · rw [if_neg he, if_neg he]
      refine (create_fail h hs hm he).mono ?_
      rintro e w' ⟨rfl, hd, hf⟩
      exact ⟨rfl, own, ⟨_, _, _, hd⟩, fun _ _ => rfl, hf.mono (fun x _ e => by have e' : x = g := e; subst e'; show own x ≠ 0; rw [h.og]; omega)⟩
end Go.Proofs.YtpgigpajpcianaaGreatDoor

namespace Go.Proofs.YtpgigpajpcianaaGreatDoor
open Go.RowKit

theorem append_two {P : Program} {t t2 ty e e2 : TypeId} (ht : P.underlying t = some (.slice e)) (ht2 : P.underlying t2 = some (.slice e2)) (b : Option Addr) (n c : Nat) (x : Value) (w : World) :
    (Builtin.append_ #[t, t2] ty #[.slice b n c, x]).run P w = (Builtin.append_ #[t, t] ty #[.slice b n c, x]).run P w := by
  simp [Builtin.append_, run_underlying ht, run_underlying ht2]
theorem run_append_bytes {p : Nat → Prop} {w : World} (t t2 ty : TypeId) (ht : Tryz.prog.underlying t = some (.slice 5)) (ht2 : Tryz.prog.underlying t2 = some (.slice 5)) (base : Nat) (v vs : Value) (xs bs : List UInt8)
    (hown : w.ownsRow base 5 1 v xs.length (bytesL xs)) (hsrc : IsBytes p w vs bs) (hlen : xs.length + bs.length ≤ 10000000) (hbase : base ≤ w.heap.size) :
    ∃ v' w', (Builtin.append_ #[t, t2] ty #[v, vs]).run Tryz.prog w = .ok v' w' ∧ w'.ownsRow base 5 1 v' (xs ++ bs).length (bytesL (xs ++ bs)) ∧ w.grownBy w' v.ownBlock ∧ (v'.ownBlock = v.ownBlock ∨ v'.ownBlock = some w.heap.size) := by
  obtain ⟨i0, hi, hz0, hz1, hz2⟩ := info_parts Tryz.info5
  obtain ⟨ad, cap, rfl, -, hc⟩ := hsrc
  obtain ⟨va, vc, rfl⟩ := owns_slice hown
  rw [append_two ht ht2]
  cases ad with
  | none =>
    have hb : bs = [] := by
      cases bs with
      | nil => rfl
      | cons x r =>
        obtain ⟨_, _, e, _⟩ := hc 0 x rfl
        cases e
    subst hb
    refine ⟨_, w, run_append_owned_nil (P := Tryz.prog) (w := w) base t ty 5 i0 1 cap ht hi _ xs.length _ hown, by simpa using hown, ⟨rfl, rfl, rfl, Nat.le_refl _, fun _ _ _ => rfl⟩, .inl rfl⟩
  | some ad =>
    obtain ⟨v', w', hr, h2, h3, -, h5⟩ := run_append_own_at (P := Tryz.prog) w base t ty 5 i0 (.int .u8 0) 1 1 ht hi hz0 hz1 hz2 rfl (by decide) _ xs.length _ hown ad bs.length cap (bytesL bs) (by rw [length_bytesL]; omega)
      (fun j u hu => by
        obtain ⟨c, hj, rfl⟩ := bytesL_get hu
        obtain ⟨gb, off, e, _, h⟩ := hc j c hj
        cases e
        rw [Addr.add_mid]
        exact h) (one_bytesL bs) (by unfold maxLen; omega) (by omega) hbase
    exact ⟨v', w', hr, by rw [bytesL_append, List.length_append]; exact h2, h3, h5⟩
theorem wpList_append_row {p : Nat → Prop} {ops : Array Oper} {rest : List Oper} {o : Oper} {a : Act} {w : World} {Q : Exit → Act → World → Prop} (hgd : o.guard = none) (s x : Operand) (t t2 : TypeId) (ho : o.op = .call { callee := .builtin .append, args := #[s, x], argTypes := #[t, t2] })
    (ht : Tryz.prog.underlying t = some (.slice 5)) (ht2 : Tryz.prog.underlying t2 = some (.slice 5)) (base : Nat) (v vs : Value) (xs bs : List UInt8) (hs : a.eval s = v) (hown : w.ownsRow base 5 1 v xs.length (bytesL xs)) (hx : a.eval x = vs) (hsrc : IsBytes p w vs bs)
    (hlen : xs.length + bs.length ≤ 10000000) (hbase : base ≤ w.heap.size)
    (h : ∀ v' w', w'.ownsRow base 5 1 v' (xs ++ bs).length (bytesL (xs ++ bs)) → w.grownBy w' v.ownBlock → (v'.ownBlock = v.ownBlock ∨ v'.ownBlock = some w.heap.size) → wpList Tryz.prog ops Q rest (a.put o.dst v') w') : wpList Tryz.prog ops Q (o :: rest) a w := by
  refine wpList_plain hgd fun K hK => ?_
  obtain ⟨v', w', hr, h2, h3, h4⟩ := run_append_bytes (ty := o.type) t t2 ht ht2 base v vs xs bs hown hsrc hlen hbase
  unfold Oper.wp execOp
  simp only [ho, resolve, invoke, builtin, Sem.run_bind, Sem.run_pure, Result.andThen_ok, List.map_toArray, List.map_cons, List.map_nil, hs, hx, hr]
  exact hK _ _ (h v' w' h2 h3 h4)
set_option maxRecDepth 100000 in
set_option maxHeartbeats 1000000 in
theorem add_any {p : Nat → Prop} (base b : Nat) (v vs : Value) (xs bs : List UInt8) (w : World) (hb : w.heap[b]? = some (.cells #[v] 204 (0, 0))) (hown : w.ownsRow base 5 1 v xs.length (bytesL xs)) (hne : v.ownBlock ≠ some b)
    (hsrc : IsBytes p w vs bs) (hlen : xs.length + bs.length ≤ 10000000) (hbase : base ≤ w.heap.size) :
    Calls Tryz.prog 147 #[.pointer (some ⟨b, 0, none⟩), vs] w fun e w' => e = .returned (.tuple #[]) ∧ ∃ v', w'.heap[b]? = some (.cells #[v'] 204 (0, 0)) ∧
      w'.ownsRow base 5 1 v' (xs ++ bs).length (bytesL (xs ++ bs)) ∧ (v'.ownBlock = v.ownBlock ∨ v'.ownBlock = some w.heap.size) ∧ Frame (fun k => k = b ∨ v.ownBlock = some k) w w' := by
  have c0 : w.cell? ⟨b, 0, none⟩ = some v := by rw [cell_of_row _ _ _ _ _ _ hb]; rfl
  obtain ⟨va, vc, rfl⟩ := owns_slice hown
  obtain ⟨sa, sc, rfl, -⟩ := id hsrc
  have HOW := Lib.hid hown
  have HS := Lib.hid hsrc
  have HB := Lib.hid hb
  have HN := Lib.hid hne
  clear hown hsrc hb hne
  go_enter Tryz.func147, Tryz.ntmps147
  go_wp2_with (at_builtin; refine wpList_append_row rfl (.tmp 7) (.tmp 8) 202 22 rfl Tryz.underlying202 Tryz.underlying22 base _ _ xs bs rfl HOW.out rfl HS.out hlen hbase ?_)
  intro v' w1 ho hg hl
  rw [← List.length_append] at ho
  have hb1 : w1.heap[b]? = some (.cells #[.slice va xs.length vc] 204 (0, 0)) := (hg.block b (Array.getElem?_eq_some_iff.1 HB.out).1 (fun e => HN.out e.symm)).trans HB.out
  have c1 : w1.cell? ⟨b, 0, none⟩ = some (.slice va xs.length vc) := by rw [cell_of_row _ _ _ _ _ _ hb1]; rfl
  have z1 : w1.frozen? ⟨b, 0, none⟩ = false := by simp [World.frozen?, hb1]
  have hf : Frame (fun k => k = b ∨ (Value.slice va xs.length vc).ownBlock = some k) w (w1.setCell ⟨b, 0, none⟩ v') := ((Frame.refl _ w).grown hg (fun k _ e => .inr e)).trans ((Frame.cell w1 ⟨b, 0, none⟩ v').mono (fun k _ e => .inl e))
  have hb2 := setCell_row hb1 0 v'
  have hlt := (Array.getElem?_eq_some_iff.1 HB.out).1
  have ho2 : (w1.setCell ⟨b, 0, none⟩ v').ownsRow base 5 1 v' (xs ++ bs).length (bytesL (xs ++ bs)) := (Frame.cell w1 ⟨b, 0, none⟩ v').owns ho (fun k hk e => by
    have e' : k = b := e
    subst e'
    rcases hl with hl | hl <;> rw [hk] at hl
    · exact HN.out hl.symm
    · cases hl
      omega)
  obtain ⟨va', vc', rfl⟩ := owns_slice ho
  have HL := Lib.hid hl
  have HF := Lib.hid hf
  have HB2 := Lib.hid hb2
  have HO2 := Lib.hid ho2
  clear ho hl hb1 hf hg hb2 ho2
  go_wp2_with fail
  go_end0
  rw [← List.length_append]
  exact ⟨rfl, _, HB2.out, HO2.out, HL.out, HF.out⟩
set_option maxRecDepth 100000 in
set_option maxHeartbeats 1000000 in
theorem size_any (a : Option Addr) (n c : Nat) (w : World) : Calls Tryz.prog 155 #[.slice a n c] w fun e w' => e = .returned (.int .i64 n) ∧ w' = w := by
  go_enter Tryz.func155, Tryz.ntmps155
  go_wp2_with fail
  go_ret
  exact ⟨rfl, rfl⟩
end Go.Proofs.YtpgigpajpcianaaGreatDoor

namespace Go.Proofs.YtpgigpajpcianaaGreatDoor
open Go.RowKit

section
variable {base g : Nat} {own : Nat → Nat} {S : Script} {s : DSt} {bf : Nat} {mf : Option Nat} {F : List (Nat × Value)} {w : World}
theorem filesF_set {T : List (List UInt8 × Bool)} {F : List (Nat × Value)} {k b : Nat} {t : List UInt8} {v : Value} (hk : T[k]? = some (t, true)) (hF : F[k]? = some (b, v)) (t' : List UInt8) (v' : Value) (c : Int) :
    filesF (T.set k (t', true)) (F.set k (b, v')) c = filesF T F c := by
  by_cases h1 : 1 ≤ c
  · obtain ⟨j, rfl⟩ : ∃ j : Nat, c = (j : Int) + 1 := ⟨(c - 1).toNat, by omega⟩
    by_cases hj : j = k
    · subst hj
      have h1 := (List.getElem?_eq_some_iff.1 hk).1
      have h2 := (List.getElem?_eq_some_iff.1 hF).1
      rw [filesF_some hk hF]
      exact filesF_some (t := t') (v := v') (by simp [h1]) (by simp [h2])
    · unfold filesF
      rw [if_pos h1, if_pos h1, show ((j : Int) + 1 - 1).toNat = j by omega, List.getElem?_set_ne (fun e => hj e.symm), List.getElem?_set_ne (fun e => hj e.symm)]
  · unfold filesF
    rw [if_neg h1, if_neg h1]
theorem get_set {α : Type} {L : List α} {k j : Nat} {x y : α} (h : (L.set k x)[j]? = some y) : (j = k ∧ y = x) ∨ (j ≠ k ∧ L[j]? = some y) := by
  by_cases hj : j = k
  · subst hj
    have hlt := (List.getElem?_eq_some_iff.1 h).1
    rw [List.length_set] at hlt
    simp [hlt] at h
    exact .inl ⟨rfl, h.symm⟩
  · rw [List.getElem?_set_ne (fun e => hj e.symm)] at h
    exact .inr ⟨hj, h⟩
theorem Disk.wrote (h : Disk base g own S s bf mf F w) {k b : Nat} {t : List UInt8} {v : Value} (hk : s.T[k]? = some (t, true)) (hF : F[k]? = some (b, v)) {t' : List UInt8} {v' : Value} {w' : World}
    (hb : w'.heap[b]? = some (.cells #[v'] 204 (0, 0))) (ho : w'.ownsRow base 5 1 v' t'.length (bytesL t')) (hl : v'.ownBlock = v.ownBlock ∨ v'.ownBlock = some w.heap.size)
    (hf : Frame (fun x => x = b ∨ v.ownBlock = some x) w w') :
    Disk base g (fun x => if v'.ownBlock = some x then 5 + 2 * k else own x) S { s with T := s.T.set k (t', true) } bf mf (F.set k (b, v')) w' := by
  obtain ⟨-, -, ob, ov⟩ := h.file k t b v hk hF
  have og := h.og
  have of := h.of
  have hsame : ∀ x, own x ≠ 0 → (if v'.ownBlock = some x then 5 + 2 * k else own x) = own x := fun x hx => by
    split
    · rename_i e
      rcases hl with hl | hl <;> rw [e] at hl
      · exact (ov x hl.symm).symm
      · cases hl
        have := (h.bnd _ hx).2
        omega
    · rfl
  have hno : ∀ x n, own x = n → n ≠ 0 → n ≠ 4 + 2 * k → n ≠ 5 + 2 * k → ¬ (x = b ∨ v.ownBlock = some x) := fun x n h1 h2 h3 h4 e => by
    rcases e with e | e
    · rw [e, ob] at h1
      omega
    · have := ov x e
      omega
  refine ⟨?_, h.fails.frame hf (hno bf 2 of (by omega) (by omega) (by omega)), fun e => ?_, fun m e => ?_, ?_, fun j t1 b1 v1 h1 h2 => ?_, ?_, ?_, fun x hx => ?_⟩
  · have := hf.heap h.heap (hno g 1 og (by omega) (by omega) (by omega))
    simpa using this
  · have := h.none e
    rw [this] at hk
    simp at hk
  · obtain ⟨h1, h2⟩ := h.files m e
    refine ⟨?_, by rw [hsame m (by omega)]; exact h2⟩
    have := (h1.frame hf (hno m 3 h2 (by omega) (by omega) (by omega))).congr (fun c => filesF_set hk hF t' v' c)
    simpa using this
  · simp [h.len]
  · rcases get_set h1 with ⟨rfl, e⟩ | ⟨hj, h1⟩
    · cases e
      have hlt := (List.getElem?_eq_some_iff.1 hF).1
      simp [hlt] at h2
      obtain ⟨rfl, rfl⟩ := h2
      exact ⟨hb, ho, by rw [hsame b (by omega)]; exact ob, fun r hr => if_pos hr⟩
    · rw [List.getElem?_set_ne (fun e => hj e.symm)] at h2
      obtain ⟨f1, f2, f3, f4⟩ := h.file j t1 b1 v1 h1 h2
      refine ⟨hf.heap f1 (hno b1 _ f3 (by omega) (by omega) (by omega)), hf.owns f2 (fun r hr => hno r _ (f4 r hr) (by omega) (by omega) (by omega)), by rw [hsame b1 (by omega)]; exact f3, fun r hr => by rw [hsame r (by rw [f4 r hr]; omega)]; exact f4 r hr⟩
  · show (if v'.ownBlock = some g then _ else own g) = 1
    rw [hsame g (by omega)]
    exact og
  · show (if v'.ownBlock = some bf then _ else own bf) = 2
    rw [hsame bf (by omega)]
    exact of
  · by_cases hv : v'.ownBlock = some x
    · exact ho.lt x hv
    · simp only [hv, if_false] at hx
      exact ⟨(h.bnd x hx).1, Nat.lt_of_lt_of_le (h.bnd x hx).2 hf.size⟩
set_option maxRecDepth 100000 in
set_option maxHeartbeats 1000000 in
theorem write_arg (h : Disk base g own S s bf mf F w) {no : Int} (hno : I64 no) (a : Option Addr) (n c : Nat) (hn : fileAt s.T no = Option.none ∨ n < 1 ∨ 1024 < n) :
    Calls Tryz.prog 132 #[.pointer (some ⟨g, 0, Option.none⟩), .int .i64 no, .slice a n c] w fun e w' => e = .returned (.int .i64 1) ∧ w' = w := by
  rcases fileAt_cases s.T no with ⟨k, t, rfl, hk, hf⟩ | hf
  · obtain ⟨b, v, hF⟩ := h.row hk
    have HFI := Lib.hid (find_yes h hno hk hF)
    rw [hf] at hn
    obtain ⟨no, hnn⟩ : ∃ no : Int, no = (k : Int) + 1 := ⟨_, rfl⟩
    rw [← hnn] at HFI ⊢
    clear h hno hk hF hnn hf
    by_cases h1 : n < 1
    · have q1 : (n : Int) < 1 := by omega
      clear hn h1
      go_enter Tryz.func132, Tryz.ntmps132
      go_wp2_with (refine HFI.out.mono ?_; rintro e w' ⟨rfl, rfl⟩)
      go_ret
      exact ⟨rfl, rfl⟩
    · have q1 : ¬ (n : Int) < 1 := by omega
      have q2 : (1024 : Int) < (n : Int) := by
        rcases hn with hn | hn | hn
        · cases hn
        · omega
        · omega
      clear hn h1
      go_enter Tryz.func132, Tryz.ntmps132
      go_wp2_with (refine HFI.out.mono ?_; rintro e w' ⟨rfl, rfl⟩)
      go_ret
      exact ⟨rfl, rfl⟩
  · have HFI := Lib.hid (find_no h hno hf)
    clear h hno hf hn
    go_enter Tryz.func132, Tryz.ntmps132
    go_wp2_with (refine HFI.out.mono ?_; rintro e w' ⟨rfl, rfl⟩)
    go_ret
    exact ⟨rfl, rfl⟩
set_option maxRecDepth 100000 in
set_option maxHeartbeats 1000000 in
theorem write_fail (h : Disk base g own S s bf mf F w) (hs : Small s) {no : Int} (hno : I64 no) (a : Option Addr) (n c : Nat) {k : Nat} {t : List UInt8} (e1 : no = (k : Int) + 1) (hk : s.T[k]? = some (t, true)) (h1 : ¬ n < 1) (h2 : ¬ 1024 < n) (he : cntE S s ≠ 0) :
    Calls Tryz.prog 132 #[.pointer (some ⟨g, 0, Option.none⟩), .int .i64 no, .slice a n c] w fun e w' => e = .returned (.int .i64 (cntE S s)) ∧ Disk base g own S (cntS S s) bf mf F w' ∧ Frame (· = g) w w' := by
  obtain ⟨b, v, hF⟩ := h.row hk
  subst e1
  have HFI := Lib.hid (find_yes h hno hk hF)
  have HC := Lib.hid (count_any h hs.n)
  obtain ⟨no, hnn⟩ : ∃ no : Int, no = (k : Int) + 1 := ⟨_, rfl⟩
  rw [← hnn] at HFI ⊢
  obtain ⟨E, hE⟩ : ∃ E, E = cntE S s := ⟨_, rfl⟩
  rw [← hE] at HC he ⊢
  have g1 : (E != 0) = true := by simpa using he
  have q1 : ¬ (n : Int) < 1 := by omega
  have q2 : ¬ (1024 : Int) < (n : Int) := by omega
  clear h hno hk hF hnn h1 h2 hE he hs
  go_enter Tryz.func132, Tryz.ntmps132
  go_wp2_with (first | (refine HFI.out.mono ?_; rintro e w' ⟨rfl, rfl⟩) | (refine HC.out.mono ?_; rintro e w1 ⟨rfl, hd, hf⟩; have HD := Lib.hid hd; have HFR := Lib.hid hf; clear hd hf))
  go_ret
  exact ⟨rfl, HD.out, HFR.out⟩
set_option maxRecDepth 100000 in
set_option maxHeartbeats 1000000 in
theorem write_yes {p : Nat → Prop} (h : Disk base g own S s bf mf F w) (hs : Small s) {no : Int} (hno : I64 no) (vs : Value) (bs : List UInt8) (hsrc : IsBytes p w vs bs) (hp : ∀ k, p k → own k = 0) {k : Nat} {t : List UInt8} (e1 : no = (k : Int) + 1) (hk : s.T[k]? = some (t, true))
    (h1 : ¬ bs.length < 1) (h2 : ¬ 1024 < bs.length) (he : cntE S s = 0) :
    Calls Tryz.prog 132 #[.pointer (some ⟨g, 0, Option.none⟩), .int .i64 no, vs] w fun e w' => e = .returned (.int .i64 0) ∧ DiskLeft base g own S { cntS S s with T := s.T.set k (t ++ bs, true) } w w' := by
  obtain ⟨b, v, hF⟩ := h.row hk
  subst e1
  have HFI := Lib.hid (find_yes h hno hk hF)
  have HC := Lib.hid (count_any h hs.n)
  have HSR := Lib.hid (show ∀ w', Frame (· = g) w w' → IsBytes p w' vs bs from fun w' hf => hsrc.frame hf (fun k hk e => by have h3 := hp k hk; have h4 := h.og; have e' : k = g := e; rw [e'] at h3; omega))
  have HH := Lib.hid h
  have HK := Lib.hid hk
  have HF := Lib.hid hF
  have ht := hs.t _ (List.mem_of_getElem? hk)
  obtain ⟨no, hnn⟩ : ∃ no : Int, no = (k : Int) + 1 := ⟨_, rfl⟩
  rw [← hnn] at HFI ⊢
  rw [he] at HC
  have q1 : ¬ (bs.length : Int) < 1 := by omega
  have q2 : ¬ (1024 : Int) < (bs.length : Int) := by omega
  have HB2 := Lib.hid h2
  obtain ⟨sa, sc, rfl, -⟩ := hsrc
  have HT := Lib.hid ht
  clear h hno hk hF hnn h1 h2 he hs hp ht
  go_enter Tryz.func132, Tryz.ntmps132
  go_wp2_with (first | (refine HFI.out.mono ?_; rintro e w' ⟨rfl, rfl⟩) | (refine HC.out.mono ?_; rintro e w1 ⟨rfl, hd, hf⟩; have HD := Lib.hid hd; have HFR := Lib.hid hf; clear hd hf))
  obtain ⟨f1, f2, f3, f4⟩ := HD.out.file k t b v HK.out HF.out
  have hbase : base ≤ w1.heap.size := by have := HD.out.bnd g (by rw [HD.out.og]; omega); omega
  refine (add_any base b v _ t bs w1 f1 f2 (fun e => by have := f4 b e; omega) (HSR.out _ HFR.out) (by have := HT.out; have := HB2.out; show t.length + bs.length ≤ 10000000; omega) hbase).mono ?_
  rintro e w2 ⟨rfl, v', hb2, ho2, hl2, hf2⟩
  have hd2 := HD.out.wrote HK.out HF.out hb2 ho2 hl2 hf2
  have hsz := HFR.out.size
  have hown : ∀ x, x < w'.heap.size → (if v'.ownBlock = some x then 5 + 2 * k else own x) = own x := fun x hx => by
    split
    · rename_i e
      rcases hl2 with hl | hl <;> rw [e] at hl
      · exact (f4 x hl.symm).symm
      · cases hl
        omega
    · rfl
  have hf3 : Frame (fun x => own x ≠ 0) w' w2 := (HFR.out.mono (fun x _ e => by have e' : x = g := e; subst e'; show own x ≠ 0; rw [HD.out.og]; omega)).then hf2 (fun x _ e => by
    rcases e with e | e
    · subst e
      omega
    · have := f4 x e
      omega)
  have HD2 := Lib.hid hd2
  have HO := Lib.hid hown
  have HF3 := Lib.hid hf3
  clear f1 f2 f3 f4 hbase hb2 ho2 hl2 hf2 hd2 hsz hown hf3 HSR HC HFI
  go_wp2_with fail
  go_ret
  exact ⟨rfl, _, ⟨_, _, _, HD2.out⟩, HO.out, HF3.out⟩
theorem write_any {p : Nat → Prop} (h : DiskAt base g own S s w) (hs : Small s) {no : Int} (hno : I64 no) (vs : Value) (bs : List UInt8) (hsrc : IsBytes p w vs bs) (hp : ∀ k, p k → own k = 0) :
    Calls Tryz.prog 132 #[.pointer (some ⟨g, 0, Option.none⟩), .int .i64 no, vs] w fun e w' => e = .returned (.int .i64 (writeE S s no bs)) ∧ DiskLeft base g own S (writeS S s no bs) w w' := by
  obtain ⟨bf, mf, F, h⟩ := h
  unfold writeE writeS
  by_cases hc : (fileAt s.T no).isNone = true ∨ bs.length < 1 ∨ 1024 < bs.length
  · rw [if_pos hc, if_pos hc]
    obtain ⟨a, c, rfl, -⟩ := hsrc
    refine (write_arg h hno a bs.length c (by simpa using hc)).mono ?_
    rintro e w' ⟨rfl, rfl⟩
    exact ⟨rfl, h.left (Below.refl _ _)⟩
  · rw [if_neg hc, if_neg hc]
    simp only [not_or] at hc
    obtain ⟨hc1, hc2, hc3⟩ := hc
    rcases fileAt_cases s.T no with ⟨k, t, e1, hk, hf⟩ | hf
    · by_cases he : cntE S s = 0
      · rw [if_pos he, he, hf]
        have e2 : (no - 1).toNat = k := by omega
        rw [e2]
        exact write_yes h hs hno vs bs hsrc hp e1 hk hc2 hc3 he
      · rw [if_neg he]
        obtain ⟨a, c, rfl, -⟩ := hsrc
        refine (write_fail h hs hno a bs.length c e1 hk hc2 hc3 he).mono ?_
        rintro e w' ⟨rfl, hd, hf⟩
        exact ⟨rfl, own, ⟨_, _, _, hd⟩, fun _ _ => rfl, hf.mono (fun x _ e => by have e' : x = g := e; subst e'; show own x ≠ 0; rw [h.og]; omega)⟩
    · rw [hf] at hc1
      simp at hc1
end
end Go.Proofs.YtpgigpajpcianaaGreatDoor
