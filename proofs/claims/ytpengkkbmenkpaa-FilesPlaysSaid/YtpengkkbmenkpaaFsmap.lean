/- A map in memory whose keys are numbers, told as a function. -/
import Derived.Test.YtpengkkbmenkpaaFsplain
import Derived.Maps.OwnSet
namespace Go.Proofs.Ytpengkkbmenkpaa
open Go.RowKit

abbrev NumF := Int → Option (DataW Unit)
/-- A number that an int may hold. -/
def I64 (c : Int) : Prop := -9223372036854775808 ≤ c ∧ c ≤ 9223372036854775807
theorem wf_of {c : Int} (h : I64 c) : (Lit.int .i64 c).wf = true := by
  show (decide (IntKind.i64.min ≤ c) && decide (c ≤ IntKind.i64.max)) = true
  rw [show IntKind.i64.min = -9223372036854775808 by decide, show IntKind.i64.max = 9223372036854775807 by decide]
  simp [h.1, h.2]
theorem of_wf {c : Int} (h : (Lit.int .i64 c).wf = true) : I64 c := by
  have h' : (decide (IntKind.i64.min ≤ c) && decide (c ≤ IntKind.i64.max)) = true := h
  rw [show IntKind.i64.min = -9223372036854775808 by decide, show IntKind.i64.max = 9223372036854775807 by decide] at h'
  simpa [I64] using h'
/-- How an element that points to a block reads. -/
def ptrElem : Value → Option (DataW Unit × List MemPlace)
  | .pointer (some ⟨b, 0, none⟩) => some (.lit (.int .i64 b), [])
  | .pointer none => some (.nil, [])
  | _ => none
theorem ptrElem_lit {v : Value} {b : Nat} {ps : List MemPlace} (h : ptrElem v = some (.lit (.int .i64 b), ps)) : v = .pointer (some ⟨b, 0, none⟩) := by
  unfold ptrElem at h
  split at h
  · simp only [Option.some.injEq, Prod.mk.injEq, DataW.lit.injEq, Lit.int.injEq, true_and] at h
    obtain ⟨h, -⟩ := h
    rw [show _ = b from Int.ofNat.inj h]
  · simp at h
  · cases h
theorem ptrElem_nil {v : Value} {ps : List MemPlace} (h : ptrElem v = some (.nil, ps)) : v = .pointer none := by
  unfold ptrElem at h
  split at h
  · simp at h
  · rfl
  · cases h

/-- Block b is a map of at most n entries that reads as the function f. -/
def IsMapOf (R : Value → Option (DataW Unit × List MemPlace)) (b n : Nat) (f : NumF) (w : World) : Prop :=
  ∃ D : DataW Unit, w.ownsMap Try.prog 3 R b n D ∧ (∀ c, Maps.has D (.int .i64 c) = (f c).isSome) ∧ ∀ c z, D.atKey (.int .i64 c) z = (f c).getD z
theorem Try.keyed : Maps.Keyed Try.prog 3 := Maps.int_keyed Try.underlying3
theorem Try.key {c : Int} (h : I64 c) : keyOf Try.prog 3 (.int .i64 c) = some (.int .i64 c) := Maps.keyOf_int_mk Try.underlying3 (wf_of h)
theorem lit_ne {c k : Int} (h : c ≠ k) : Lit.int .i64 c ≠ Lit.int .i64 k := fun e => h (by cases e; rfl)
theorem lit_key (c : Int) : WideAt.IsKeyLit (Lit.int .i64 c) := trivial

section
variable {R : Value → Option (DataW Unit × List MemPlace)} {b n : Nat} {f : NumF} {w : World}
theorem isMap_new (w : World) (R : Value → Option (DataW Unit × List MemPlace)) : IsMapOf R w.heap.size 0 (fun _ => none) (w.alloc (.map #[] 0)) :=
  ⟨_, World.ownsMap_made w Try.prog 3 R, fun _ => rfl, fun _ _ => rfl⟩
theorem IsMapOf.lt (h : IsMapOf R b n f w) : b < w.heap.size := by obtain ⟨D, h, -⟩ := h; exact h.lt
theorem IsMapOf.mono (h : IsMapOf R b n f w) {m : Nat} (hn : n ≤ m) : IsMapOf R b m f w := by
  obtain ⟨D, h1, h2, h3⟩ := h
  exact ⟨D, h1.mono hn, h2, h3⟩
theorem IsMapOf.congr (h : IsMapOf R b n f w) {g : NumF} (hg : ∀ c, g c = f c) : IsMapOf R b n g w := by
  obtain rfl : g = f := funext hg
  exact h
theorem IsMapOf.heap (h : IsMapOf R b n f w) : ∃ es clock, w.heap[b]? = some (.map es clock) := by
  obtain ⟨D, ⟨es, clock, hb, _⟩, _⟩ := h
  exact ⟨es, clock, hb⟩
theorem IsMapOf.same (h : IsMapOf R b n f w) {w' : World} (hb : w'.heap[b]? = w.heap[b]?) : IsMapOf R b n f w' := by
  obtain ⟨D, ⟨es, clock, h1, r⟩, h2, h3⟩ := h
  exact ⟨D, ⟨es, clock, hb.trans h1, r⟩, h2, h3⟩
theorem IsMapOf.frame {p : Nat → Prop} {w' : World} (h : IsMapOf R b n f w) (hf : Frame p w w') (hp : ¬ p b) : IsMapOf R b n f w' := h.same (hf.block b h.lt hp)
/-- 'm[c] = v' -/
theorem IsMapOf.put {t e : TypeId} (h : IsMapOf R b n f w) (ht : Try.prog.underlying t = some (.map 3 e)) (hn : n < 2000000) {c : Int} (hc : I64 c) {val : Value} {d : DataW Unit} {ps : List MemPlace} (hv : R val = some (d, ps)) :
    ∃ w', (Instr.mapUpdate t (.map (some b)) (.int .i64 c) val).run Try.prog w = .ok () w' ∧ IsMapOf R b (n + 1) (fun x => if x = c then some d else f x) w' ∧ w.grownBy w' (some b) := by
  obtain ⟨D, h1, h2, h3⟩ := h
  obtain ⟨w', hr, h4, h5⟩ := h1.update Try.keyed ht (by unfold maxLen; omega) (Try.key hc) hv
  refine ⟨w', hr, ⟨_, h4, fun x => ?_, fun x z => ?_⟩, h5⟩
  · by_cases hx : x = c
    · subst hx
      rw [Maps.has_put_same h1.isMap (lit_key _)]
      simp
    · rw [Maps.has_put_other (lit_ne hx)]
      simp [hx, h2]
  · by_cases hx : x = c
    · subst hx
      rw [Maps.atKey_put_same h1.isMap (lit_key _)]
      simp
    · rw [Maps.atKey_put_other (lit_ne hx)]
      simp [hx, h3]
/-- 'delete(m, c)' -/
theorem IsMapOf.del {t e : TypeId} (h : IsMapOf R b n f w) (ht : Try.prog.underlying t = some (.map 3 e)) {c : Int} (hc : I64 c) (ty : TypeId) :
    ∃ w', (Builtin.delete_ #[t, 3] ty #[.map (some b), .int .i64 c]).run Try.prog w = .ok (.tuple #[]) w' ∧ IsMapOf R b n (fun x => if x = c then none else f x) w' ∧ w.grownBy w' (some b) := by
  obtain ⟨D, h1, h2, h3⟩ := h
  obtain ⟨w', hr, h4, h5⟩ := h1.drop Try.keyed ht (Try.key hc) ty
  refine ⟨w', hr, ⟨_, h4, fun x => ?_, fun x z => ?_⟩, h5.grown⟩
  · by_cases hx : x = c
    · subst hx
      rw [Maps.has_del_same]
      simp
    · rw [Maps.has_del_other (lit_ne hx)]
      simp [hx, h2]
  · by_cases hx : x = c
    · subst hx
      rw [Maps.atKey_del_same]
      simp
    · rw [Maps.atKey_del_other (lit_ne hx)]
      simp [hx, h3]
end

/-- 'v, ok := m[c]' where the elements are numbers. -/
theorem look_int {b n : Nat} {g : Int → Option Int} {w : World} (h : IsMapOf (plainElem Try.prog 3) b n (fun c => (g c).map fun i => .lit (.int .i64 i)) w) {c : Int} (hc : I64 c) :
    (Instr.lookup 52 (.map (some b)) (.int .i64 c) true).run Try.prog w = .ok (.tuple #[.int .i64 ((g c).getD 0), .bool (g c).isSome]) w := by
  obtain ⟨D, h1, h2, h3⟩ := h
  obtain ⟨v, ps, hr, hv⟩ := h1.look_ok Try.keyed Try.underlying52 (z := .int .i64 0) (by kernel_rfl) (plainElem_int Try.underlying3 (by decide)) (Try.key hc)
  obtain ⟨a, rfl, e, -⟩ := plainElem_int_inv Try.underlying3 hv
  dsimp only at h2 h3
  rw [h2] at hr
  rw [h3] at e
  cases hg : g c with
  | none =>
    rw [hg] at hr e
    simp only [Option.map_none, Option.getD_none, Prod.mk.injEq, DataW.lit.injEq, Lit.int.injEq, true_and] at e
    rw [hr, ← e.1]
    rfl
  | some i =>
    rw [hg] at hr e
    simp only [Option.map_some, Option.getD_some, Prod.mk.injEq, DataW.lit.injEq, Lit.int.injEq, true_and] at e
    rw [hr, ← e.1]
    rfl
/-- 'v, ok := m[c]' where the elements point to blocks. -/
theorem look_ptr {b n : Nat} {f : NumF} {w : World} (h : IsMapOf ptrElem b n f w) {c : Int} (hc : I64 c) :
    (∀ k : Nat, f c = some (.lit (.int .i64 k)) → (Instr.lookup 53 (.map (some b)) (.int .i64 c) true).run Try.prog w = .ok (.tuple #[.pointer (some ⟨k, 0, none⟩), .bool true]) w) ∧
    (f c = none → (Instr.lookup 53 (.map (some b)) (.int .i64 c) true).run Try.prog w = .ok (.tuple #[.pointer none, .bool false]) w) := by
  obtain ⟨D, h1, h2, h3⟩ := h
  obtain ⟨v, ps, hr, hv⟩ := h1.look_ok Try.keyed Try.underlying53 (z := .pointer none) (by kernel_rfl) (zd := .nil) (zp := []) rfl (Try.key hc)
  rw [h2] at hr
  rw [h3] at hv
  refine ⟨fun k hk => ?_, fun hk => ?_⟩
  · rw [hk] at hr hv
    rw [hr, ptrElem_lit hv]
    rfl
  · rw [hk] at hr hv
    rw [hr, ptrElem_nil hv]
    rfl
theorem look_nilmap {c : Int} (hc : I64 c) (w : World) : (Instr.lookup 53 (.map none) (.int .i64 c) true).run Try.prog w = .ok (.tuple #[.pointer none, .bool false]) w :=
  Maps.look_nil true Try.keyed Try.underlying53 (z := .pointer none) (by kernel_rfl) (Try.key hc)

end Go.Proofs.Ytpengkkbmenkpaa
