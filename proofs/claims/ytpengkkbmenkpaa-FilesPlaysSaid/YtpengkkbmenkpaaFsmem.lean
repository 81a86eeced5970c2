/- A disk in memory; find. -/
import Derived.Test.YtpengkkbmenkpaaFsmap
namespace Go.Proofs.Ytpengkkbmenkpaa
open Go.RowKit

/-- What the disk's map says: the block of each file that is there. -/
def filesF (T : List (List UInt8 × Bool)) (F : List (Nat × Value)) : NumF := fun c =>
  if 1 ≤ c then match T[(c - 1).toNat]?, F[(c - 1).toNat]? with | some (_, true), some (b, _) => some (.lit (.int .i64 b)) | _, _ => none else none
theorem filesF_some {T : List (List UInt8 × Bool)} {F : List (Nat × Value)} {k b : Nat} {t : List UInt8} {v : Value} (h : T[k]? = some (t, true)) (hF : F[k]? = some (b, v)) : filesF T F ((k : Int) + 1) = some (.lit (.int .i64 b)) := by
  unfold filesF
  rw [if_pos (by omega), show ((k : Int) + 1 - 1).toNat = k by omega, h, hF]
theorem filesF_none {T : List (List UInt8 × Bool)} {F : List (Nat × Value)} {no : Int} (h : fileAt T no = none) : filesF T F no = none := by
  unfold filesF
  unfold fileAt at h
  split
  · rename_i h1
    rw [if_pos h1] at h
    split at h
    · cases h
    · split
      · rename_i h2 _ _ _ _ _ h3 _
        exact absurd h3 (h2 _)
      · rfl
  · rfl

/-- A disk in block g; own: which of its parts lies in which block. -/
structure Disk (base g : Nat) (own : Nat → Nat) (S : Script) (s : DSt) (bf : Nat) (mf : Option Nat) (F : List (Nat × Value)) (w : World) : Prop where
  heap : w.heap[g]? = some (.cells #[.map mf, .int .i64 s.T.length, .map (some bf), .int .i64 s.n, .int .i64 s.id] 55 (0, 0))
  fails : IsMapOf (plainElem Try.prog 3) bf 1000000 (fun c => (failAt S c).map fun i => .lit (.int .i64 i)) w
  none : mf = Option.none → s.T = []
  files : ∀ b, mf = some b → IsMapOf ptrElem b s.T.length (filesF s.T F) w ∧ own b = 3
  len : F.length = s.T.length
  file : ∀ k t b v, s.T[k]? = some (t, true) → F[k]? = some (b, v) → w.heap[b]? = some (.cells #[v] 65 (0, 0)) ∧ w.ownsRow base 5 1 v t.length (bytesL t) ∧ own b = 4 + 2 * k ∧ ∀ r, v.ownBlock = some r → own r = 5 + 2 * k
  og : own g = 1
  of : own bf = 2
  bnd : ∀ k, own k ≠ 0 → base ≤ k ∧ k < w.heap.size
def DiskAt (base g : Nat) (own : Nat → Nat) (S : Script) (s : DSt) (w : World) : Prop := ∃ bf mf F, Disk base g own S s bf mf F w
/-- What a call of the disk leaves. -/
def DiskLeft (base g : Nat) (own : Nat → Nat) (S : Script) (s : DSt) (w w' : World) : Prop :=
  ∃ own', DiskAt base g own' S s w' ∧ (∀ k, k < w.heap.size → own' k = own k) ∧ Frame (fun k => own k ≠ 0) w w'

section
variable {base g : Nat} {own : Nat → Nat} {S : Script} {s : DSt} {bf : Nat} {mf : Option Nat} {F : List (Nat × Value)} {w : World}
theorem Disk.frame {p : Nat → Prop} {w' : World} (h : Disk base g own S s bf mf F w) (hf : Frame p w w') (hp : ∀ k, p k → own k = 0) : Disk base g own S s bf mf F w' where
  heap := hf.heap h.heap (fun e => by have := hp _ e; rw [h.og] at this; cases this)
  fails := h.fails.frame hf (fun e => by have := hp _ e; rw [h.of] at this; cases this)
  none := h.none
  files b hb := ⟨(h.files b hb).1.frame hf (fun e => by have := hp _ e; rw [(h.files b hb).2] at this; cases this), (h.files b hb).2⟩
  len := h.len
  file k t b v h1 h2 := by
    obtain ⟨f1, f2, f3, f4⟩ := h.file k t b v h1 h2
    exact ⟨hf.heap f1 (fun e => by have := hp _ e; omega), hf.owns f2 (fun r hr e => by have := hp _ e; have := f4 r hr; omega), f3, f4⟩
  og := h.og
  of := h.of
  bnd k hk := ⟨(h.bnd k hk).1, Nat.lt_of_lt_of_le (h.bnd k hk).2 hf.size⟩
theorem Disk.below {w' : World} (h : Disk base g own S s bf mf F w) (hb : Below w.heap.size w w') : Disk base g own S s bf mf F w' :=
  h.frame (Below.toFrame hb fun _ => False) (fun _ e => e.elim)
theorem DiskAt.frame {p : Nat → Prop} {w' : World} (h : DiskAt base g own S s w) (hf : Frame p w w') (hp : ∀ k, p k → own k = 0) : DiskAt base g own S s w' := by
  obtain ⟨bf, mf, F, h⟩ := h
  exact ⟨bf, mf, F, h.frame hf hp⟩
theorem DiskAt.below {w' : World} (h : DiskAt base g own S s w) (hb : Below w.heap.size w w') : DiskAt base g own S s w' :=
  h.frame (Below.toFrame hb fun _ => False) (fun _ e => e.elim)
theorem DiskAt.bnd (h : DiskAt base g own S s w) : ∀ k, own k ≠ 0 → base ≤ k ∧ k < w.heap.size := by
  obtain ⟨bf, mf, F, h⟩ := h
  exact h.bnd
theorem Disk.left (h : Disk base g own S s bf mf F w) {w' : World} (hb : Below w.heap.size w w') : DiskLeft base g own S s w w' :=
  ⟨own, ⟨bf, mf, F, h.below hb⟩, fun _ _ => rfl, Below.toFrame hb _⟩
theorem Disk.c0 (h : Disk base g own S s bf mf F w) : w.cell? ⟨g, 0, Option.none⟩ = some (.map mf) := by rw [cell_of_row _ _ _ _ _ _ h.heap]; rfl
theorem Disk.c1 (h : Disk base g own S s bf mf F w) : w.cell? ⟨g, 1, Option.none⟩ = some (.int .i64 s.T.length) := by rw [cell_of_row _ _ _ _ _ _ h.heap]; rfl
theorem Disk.c2 (h : Disk base g own S s bf mf F w) : w.cell? ⟨g, 2, Option.none⟩ = some (.map (some bf)) := by rw [cell_of_row _ _ _ _ _ _ h.heap]; rfl
theorem Disk.c3 (h : Disk base g own S s bf mf F w) : w.cell? ⟨g, 3, Option.none⟩ = some (.int .i64 s.n) := by rw [cell_of_row _ _ _ _ _ _ h.heap]; rfl
theorem Disk.c4 (h : Disk base g own S s bf mf F w) : w.cell? ⟨g, 4, Option.none⟩ = some (.int .i64 s.id) := by rw [cell_of_row _ _ _ _ _ _ h.heap]; rfl
theorem Disk.froz (h : Disk base g own S s bf mf F w) (k : Nat) : w.frozen? ⟨g, k, Option.none⟩ = false := by simp [World.frozen?, h.heap]
theorem Disk.row (h : Disk base g own S s bf mf F w) {k : Nat} {t : List UInt8} {f : Bool} (hk : s.T[k]? = some (t, f)) : ∃ b v, F[k]? = some (b, v) := by
  have hlt := (List.getElem?_eq_some_iff.1 hk).1
  have := h.len
  have hlt' : k < F.length := by omega
  exact ⟨F[k].1, F[k].2, List.getElem?_eq_getElem hlt'⟩

/-- The disk's own look-up. -/
theorem Disk.look (h : Disk base g own S s bf mf F w) {no : Int} (hno : I64 no) :
    (∀ k t b v, no = ((k : Nat) : Int) + 1 → s.T[k]? = some (t, true) → F[k]? = some (b, v) → (Instr.lookup 53 (.map mf) (.int .i64 no) true).run Try.prog w = .ok (.tuple #[.pointer (some ⟨b, 0, Option.none⟩), .bool true]) w) ∧
    (fileAt s.T no = Option.none → (Instr.lookup 53 (.map mf) (.int .i64 no) true).run Try.prog w = .ok (.tuple #[.pointer Option.none, .bool false]) w) := by
  cases mf with
  | none =>
    refine ⟨fun k t b v _ hk _ => ?_, fun _ => look_nilmap hno w⟩
    rw [h.none rfl] at hk
    cases hk
  | some m =>
    have hm := look_ptr (h.files m rfl).1 hno
    exact ⟨fun k t b v e hk hF => hm.1 b (by subst e; exact filesF_some hk hF), fun hn => hm.2 (filesF_none hn)⟩

set_option maxRecDepth 100000 in
set_option maxHeartbeats 1000000 in
theorem find_yes (h : Disk base g own S s bf mf F w) {k b : Nat} {t : List UInt8} {v : Value} (hno : I64 ((k : Int) + 1)) (hk : s.T[k]? = some (t, true)) (hF : F[k]? = some (b, v)) :
    Calls Try.prog 27 #[.pointer (some ⟨g, 0, Option.none⟩), .int .i64 ((k : Int) + 1)] w fun e w' => e = .returned (.tuple #[.pointer (some ⟨b, 0, Option.none⟩), .bool true]) ∧ w' = w := by
  have c0 := h.c0
  have hl := (h.look hno).1 k t b v rfl hk hF
  obtain ⟨no, e⟩ : ∃ no : Int, no = (k : Int) + 1 := ⟨_, rfl⟩
  rw [← e] at hl ⊢
  clear h hno hk hF e
  go_enter Try.func27, Try.ntmps27
  go_wp2_with fail
  go_ret2
  exact ⟨rfl, rfl⟩
set_option maxRecDepth 100000 in
set_option maxHeartbeats 1000000 in
theorem find_no (h : Disk base g own S s bf mf F w) {no : Int} (hno : I64 no) (hn : fileAt s.T no = Option.none) :
    Calls Try.prog 27 #[.pointer (some ⟨g, 0, Option.none⟩), .int .i64 no] w fun e w' => e = .returned (.tuple #[.pointer Option.none, .bool false]) ∧ w' = w := by
  have c0 := h.c0
  have hl := (h.look hno).2 hn
  clear h hno hn
  go_enter Try.func27, Try.ntmps27
  go_wp2_with fail
  go_ret2
  exact ⟨rfl, rfl⟩
end
set_option maxRecDepth 100000 in
set_option maxHeartbeats 1000000 in
theorem find_nil (no : Int) (w : World) :
    Calls Try.prog 27 #[.pointer Option.none, .int .i64 no] w fun e w' => e = .returned (.tuple #[.pointer Option.none, .bool false]) ∧ w' = w := by
  go_enter Try.func27, Try.ntmps27
  go_wp2_with fail
  go_ret2
  exact ⟨rfl, rfl⟩

end Go.Proofs.Ytpengkkbmenkpaa
