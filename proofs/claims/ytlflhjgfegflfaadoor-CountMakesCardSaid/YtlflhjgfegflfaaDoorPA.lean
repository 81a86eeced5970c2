/- The plain model of parameters: the table of kinds, whether parameters may be, their ports, what they hold. No conditions. -/
import Derived.Test.YtlflhjgfegflfaaDoorRows
import Derived.WalkKit
import Derived.WalkSpells
import Derived.WalkLawsBesides
import Derived.Deep.MidRow
import Derived.Deep.WholeRow
import Derived.Lib.Hide
import Derived.Laws.CopyOwn
import Derived.Lib.AppendStr
import Derived.Maps.AppendAt
import Derived.Laws.AppendOwnNone
import Derived.Deep.QuietTactic
import Derived.BigQuiet
import Derived.Deep.Cut
import Derived.Deep.DeepCutAuto
import Derived.Lib.SlBytesConst
import Derived.Lib.LaidTab
import Derived.ProofKit
import Derived.SizedLaws
import Derived.Deep.Slices
import Derived.Carry
import Derived.OpenShut
import Derived.Lib.SmallJoins
import Derived.Deep.DeepHandedRow
namespace Go.Proofs.YtlflhjgfegflfaaDoor.Pm
open Go.RowKit

/-! The table. -/
structure Kind where
  least : Int
  most : Int
  rule : Int
  ins : Int
  outs : Int
  holds : Int
  each : Int
def kinds : List Kind := [⟨0, 0, 0, 0, 0, 0, 0⟩, ⟨0, 15, 0, 0, 1, 0, 0⟩, ⟨0, 15, 0, 1, 0, 0, 0⟩, ⟨0, 1000000000, 0, 1, 1, 64, 0⟩, ⟨0, 9223372036854775807, 0, 1, 1, 64, 64⟩, ⟨0, 1, 2, 1, 1, 64, 0⟩,
  ⟨0, 0, 3, 1, 1, 0, 0⟩, ⟨1, 65535, 1, 1, 1, 64, 0⟩, ⟨0, 1, 0, 1, 1, 128, 0⟩, ⟨0, 0, 0, 1, 1, 0, 0⟩, ⟨0, 1000000000, 0, 1, 1, 64, 0⟩, ⟨0, 1, 0, 1, 1, 320, 0⟩, ⟨1, 4, 0, -1, 1, 0, 0⟩,
  ⟨1, 4, 1, -1, 1, 0, 96⟩, ⟨1, 9223372036854775807, 1, 2, 1, 192, 128⟩, ⟨1, 4, 0, 1, -1, 0, 0⟩, ⟨1, 4, 0, 1, -1, 64, 0⟩]
def kindOf (k : Nat) : Kind := kinds.getD k ⟨0, 0, 0, 0, 0, 0, 0⟩
def Kind.cells (r : Kind) : List Int := [r.least, r.most, r.rule, r.ins, r.outs, r.holds, r.each]
def iv (n : Int) : Value := .int .i64 n
def tabL : List Int := kinds.flatMap Kind.cells
theorem length_tabL : tabL.length = 119 := by decide
theorem tabL_at : ∀ k : Nat, k ≤ 16 → ∀ j : Nat, j < 7 → tabL[7 * k + j]? = (kindOf k).cells[j]? := by decide

/-! What parameters are. -/
def mayBe (rule : Int) (A B : List UInt8) : Bool :=
  if rule = 1 then decide (A.length = 1 ∧ A.head? ≠ some 10 ∧ B.length = 0)
  else if rule = 2 then decide (1 ≤ A.length ∧ A.length ≤ 16 ∧ (10 : UInt8) ∉ A ∧ B.length = 0)
  else if rule = 3 then decide (1 ≤ A.length ∧ A.length ≤ 64 ∧ A.Nodup ∧ B.length ≤ A.length)
  else decide (A.length = 0 ∧ B.length = 0)
/-- N, A and B are as the row says. -/
def fits (r : Kind) (n : Int) (A B : List UInt8) : Bool := decide (r.least ≤ n) && decide (n ≤ r.most) && mayBe r.rule A B
def tooMuch (r : Kind) (n : Int) : Bool := decide (0 < r.each) && decide ((2048 - r.holds).tdiv r.each < n)
def checkE (k n : Int) (A B : List UInt8) : Int :=
  if k < 1 ∨ 16 < k then 10 else if fits (kindOf k.toNat) n A B = false then 11 else if tooMuch (kindOf k.toNat) n = true then 12 else 0
def portsE (c n : Int) : Int := if c = -1 then n else c
def insE (k n : Int) (A B : List UInt8) : Int := if checkE k n A B = 0 then portsE (kindOf k.toNat).ins n else 0
def outsE (k n : Int) (A B : List UInt8) : Int := if checkE k n A B = 0 then portsE (kindOf k.toNat).outs n else 0
def boundE (k n : Int) (A B : List UInt8) : Int := if checkE k n A B = 0 then (kindOf k.toNat).holds + (kindOf k.toNat).each * n else 0

/-! Memory. -/
/-- The value is a slice that reads as these bytes. -/
def IsBytes (w : World) (v : Value) (bs : List UInt8) : Prop :=
  ∃ a cap, v = .slice a bs.length cap ∧ bs.length ≤ cap ∧ ∀ j c, bs[j]? = some c → ∃ gb off, a = some ⟨gb, off, none⟩ ∧ w.cell? ⟨gb, off + j, none⟩ = some (.int .u8 c.toNat)
theorem Below.cell {a b : World} (h : Below a.heap.size a b) {x : Addr} {v : Value} (hx : a.cell? x = some v) : b.cell? x = some v := by
  rw [World.cell?_of_block (w := a) (h.block x.block (block_lt_of_cell hx)), hx]
theorem IsBytes.below {w w' : World} {v : Value} {bs : List UInt8} (h : IsBytes w v bs) (hb : Below w.heap.size w w') : IsBytes w' v bs := by
  obtain ⟨a, cap, rfl, hle, hc⟩ := h
  refine ⟨a, cap, rfl, hle, fun j c hj => ?_⟩
  obtain ⟨gb, off, rfl, hx⟩ := hc j c hj
  exact ⟨gb, off, rfl, Below.cell hb hx⟩
/-- The table lies in block 0. -/
def Tab (w : World) : Prop := ∀ j z, tabL[j]? = some z → w.cell? ⟨0, j, none⟩ = some (iv z)
theorem Tab.below {w w' : World} (h : Tab w) (hb : Below w.heap.size w w') : Tab w' := fun j z hj => Below.cell hb (h j z hj)
theorem Tab.at {w : World} (h : Tab w) {k : Nat} (hk : k ≤ 16) {j : Nat} (hj : j < 7) {z : Int} (hz : (kindOf k).cells[j]? = some z) : w.cell? ⟨0, 7 * k + j, none⟩ = some (.int .i64 z) := h _ _ (by rw [tabL_at k hk j hj, hz])
theorem Tab.pos {w : World} (h : Tab w) : 0 < w.heap.size := block_lt_of_cell (h 0 0 (by decide))

/-- Parameters as a value. -/
def parV (k n : Int) (va vb : Value) : Value := .agg #[.int .i64 k, .int .i64 n, va, vb]
/-- A number that an int can be. -/
def Fits (n : Int) : Prop := -9223372036854775808 ≤ n ∧ n ≤ 9223372036854775807

/-- The call answers this; of what was there nothing has turned. -/
def Gives (w : World) (v : Value) (e : Ending) (w' : World) : Prop := e = .returned v ∧ Below w.heap.size w w'
/-- The call answers this; nothing has turned at all. -/
def Says (w : World) (v : Value) (e : Ending) (w' : World) : Prop := e = .returned v ∧ w = w'

end Go.Proofs.YtlflhjgfegflfaaDoor.Pm

namespace Go.Proofs.YtlflhjgfegflfaaDoor.Pm
open Go.RowKit

set_option maxRecDepth 100000 in
set_option maxHeartbeats 400000 in
theorem within_any (n l m : Int) (w : World) : Calls Tryd.prog 36 #[.int .i64 n, .int .i64 l, .int .i64 m] w (Says w (.bool (decide (l ≤ n) && decide (n ≤ m)))) := by
  by_cases h1 : l ≤ n
  · by_cases h2 : n ≤ m
    · rw [decide_eq_true h1, decide_eq_true h2]
      go_enter Tryd.func36, Tryd.ntmps36
      go_wp2
      go_ret
      exact ⟨rfl, rfl⟩
    · rw [decide_eq_true h1, decide_eq_false h2]
      go_enter Tryd.func36, Tryd.ntmps36
      go_wp2
      go_ret
      exact ⟨rfl, rfl⟩
  · rw [decide_eq_false h1]
    go_enter Tryd.func36, Tryd.ntmps36
    go_wp2
    go_ret
    exact ⟨rfl, rfl⟩

/-- One byte, not 10. -/
def oneB (A : List UInt8) : Bool := decide (A.length = 1 ∧ A.head? ≠ some 10)

set_option maxRecDepth 100000 in
set_option maxHeartbeats 400000 in
theorem one_any (v : Value) (A : List UInt8) (w : World) (hA : IsBytes w v A) : Calls Tryd.prog 39 #[v] w (Says w (.bool (oneB A))) := by
  obtain ⟨a, cap, rfl, hle, hc⟩ := hA
  by_cases h1 : A.length = 1
  · obtain ⟨c, rfl⟩ : ∃ c, A = [c] := List.length_eq_one_iff.1 h1
    obtain ⟨gb, off, rfl, hx⟩ := hc 0 c rfl
    clear hc
    rw [Nat.add_zero] at hx
    simp only [List.length_cons, List.length_nil, Nat.zero_add]
    by_cases h2 : c = 10
    · subst h2
      rw [show oneB [10] = false by decide]
      simp only [show ((10 : UInt8).toNat : Int) = 10 from rfl] at hx
      go_enter Tryd.func39, Tryd.ntmps39
      go_wp2
      go_ret
      exact ⟨rfl, rfl⟩
    · have h3 : oneB [c] = true := by simp [oneB, h2]
      rw [h3]
      have h4 : ((c.toNat : Int) != 10) = true := by
        simp only [bne_iff_ne, ne_eq]
        intro h
        exact h2 (UInt8.toNat_inj.1 (by simpa using (show c.toNat = 10 by omega)))
      go_enter Tryd.func39, Tryd.ntmps39
      go_wp2
      go_ret
      exact ⟨rfl, rfl⟩
  · have h3 : oneB A = false := by simp [oneB, h1]
    rw [h3]
    have h4 : ((A.length : Int) == 1) = false := by simp; omega
    clear hc
    go_enter Tryd.func39, Tryd.ntmps39
    go_wp2
    go_ret
    exact ⟨rfl, rfl⟩

set_option maxRecDepth 100000 in
set_option maxHeartbeats 400000 in
theorem holdsTooMuch_any (r : Kind) (n : Int) (w : World) (hh : 0 ≤ r.holds ∧ r.holds ≤ 2048) (he : 0 ≤ r.each ∧ r.each ≤ 2048) :
    Calls Tryd.prog 43 #[.agg #[.int .i64 r.least, .int .i64 r.most, .int .i64 r.rule, .int .i64 r.ins, .int .i64 r.outs, .int .i64 r.holds, .int .i64 r.each], .int .i64 n] w (Gives w (.bool (tooMuch r n))) := by
  obtain ⟨l, m, ru, i, o, h, e⟩ := r
  simp only at hh he
  simp only [tooMuch]
  by_cases h1 : 0 < e
  · rw [decide_eq_true h1]
    have h0 : (e == 0) = false := by simp; omega
    have q1 := Int.tdiv_nonneg (a := 2048 - h) (b := e) (by omega) (by omega)
    have q2 : (2048 - h).tdiv e ≤ 2048 - h := by
      rw [Int.tdiv_eq_ediv_of_nonneg (by omega)]
      exact Int.ediv_le_self _ (by omega)
    go_enter Tryd.func43, Tryd.ntmps43
    go_wp2
    go_ret
    exact ⟨by rw [Bool.true_and]; rfl, (Below.refl _ _).alloc (Nat.le_refl _) _⟩
  · rw [decide_eq_false h1]
    go_enter Tryd.func43, Tryd.ntmps43
    go_wp2
    go_ret
    exact ⟨rfl, (Below.refl _ _).alloc (Nat.le_refl _) _⟩

/-- Bytes as a text. -/
def strV (b : List UInt8) : Value := .string ⟨b.toArray⟩
/-- A slice of bytes, made a text, an empty one too. -/
theorem conv_any {W : World} {v : Value} {bs : List UInt8} (h : IsBytes W v bs) : (convert 22 9 v).run Tryd.prog W = .ok (strV bs) W := by
  obtain ⟨a, cap, rfl, -, hc⟩ := h
  cases a with
  | none =>
    have hb : bs = [] := by
      cases bs with
      | nil => rfl
      | cons x r =>
        obtain ⟨_, _, e, _⟩ := hc 0 x rfl
        cases e
    subst hb
    exact run_convert_bytes_nil (P := Tryd.prog) (w := W) 22 5 Tryd.underlying22 Tryd.underlying5 0 cap 9 Tryd.underlying9
  | some ad =>
    exact run_convert_bytes_back (P := Tryd.prog) W 22 9 5 ad cap bs Tryd.underlying22 Tryd.underlying5 Tryd.underlying9 (fun j hj => by
      obtain ⟨gb, off, e, h⟩ := hc j bs[j] (by simp [hj])
      cases e
      rw [Addr.add_mid]
      exact h)
theorem strV_eq (A B : List UInt8) : ((⟨A.toArray⟩ : ByteArray).toList == (⟨B.toArray⟩ : ByteArray).toList) = decide (A = B) := by
  rw [ByteArray.toList_eq, ByteArray.toList_eq]
  by_cases h : A = B
  · subst h; simp
  · rw [decide_eq_false h]
    simpa using h

end Go.Proofs.YtlflhjgfegflfaaDoor.Pm

namespace Go.Proofs.YtlflhjgfegflfaaDoor.Pm
open Go.RowKit

theorem u8_eq (c x : UInt8) : ((c.toNat : Int) == (x.toNat : Int)) = decide (c = x) := by
  by_cases h : c = x
  · subst h; simp
  · rw [decide_eq_false h]
    simp only [beq_eq_false_iff_ne, ne_eq]
    intro e
    exact h (UInt8.toNat_inj.1 (by omega))
theorem not_mem_take {A : List UInt8} {k : Nat} {c x : UInt8} (hk : A[k]? = some c) (h : x ∉ A.take k) (hc : c ≠ x) : x ∉ A.take (k + 1) := by
  obtain ⟨hl, e⟩ := List.getElem?_eq_some_iff.1 hk
  rw [List.take_succ_eq_append_getElem hl, List.mem_append]
  rintro (h' | h')
  · exact h h'
  · rw [List.mem_singleton, e] at h'
    exact hc h'.symm

set_option maxRecDepth 100000 in
set_option maxHeartbeats 400000 in
theorem has_any (v : Value) (A : List UInt8) (x : UInt8) (w : World) (hA : IsBytes w v A) (hs : A.length ≤ 2000) :
    Calls Tryd.prog 37 #[v, .int .u8 x.toNat] w (Says w (.bool (decide (x ∈ A)))) := by
  obtain ⟨a, cap, rfl, hle, hc⟩ := hA
  have HC := Lib.hid hc
  clear hc
  go_enter Tryd.func37, Tryd.ntmps37
  go_wp2
  go_loop [5] (fun i => ∃ k : Nat, k ≤ A.length ∧ i = .int .i64 k ∧ x ∉ A.take k) (fun i => A.length - (intOf i).toNat)
  case atStart => exact ⟨0, Nat.zero_le _, rfl, by simp⟩
  case round =>
    obtain ⟨k, hk, rfl, hn⟩ := hrel
    by_cases hlt : k < A.length
    · obtain ⟨c, hcx⟩ : ∃ c, A[k]? = some c := ⟨A[k], by simp⟩
      obtain ⟨gb, off, rfl, hx⟩ := HC.out k c hcx
      have g1 : (0 : Int) ≤ (k : Int) := by omega
      have g2 : (k : Int) < (A.length : Int) := by omega
      have HN := Lib.hid hn
      have HX := Lib.hid hcx
      clear hn hcx
      by_cases he : c = x
      · have g3 := u8_eq c x
        rw [decide_eq_true he] at g3
        go_wp2
        go_ret
        refine ⟨?_, rfl⟩
        rw [decide_eq_true (he ▸ List.mem_of_getElem? HX.out)]
        rfl
      · have g3 := u8_eq c x
        rw [decide_eq_false he] at g3
        go_wp2
        go_round
        case rel => exact ⟨k + 1, by omega, by go_num, not_mem_take HX.out HN.out he⟩
        case measure => simp [intOf]; omega
    · have g2 : ¬ (k : Int) < (A.length : Int) := by omega
      obtain rfl : k = A.length := by omega
      rw [List.take_length] at hn
      have HN := Lib.hid hn
      clear hn
      go_wp2
      go_ret
      refine ⟨?_, rfl⟩
      rw [decide_eq_false HN.out]
      rfl

def IndexEnd (w : World) (A : List UInt8) (x : UInt8) (e : Ending) (w' : World) : Prop := ∃ i : Int, e = .returned (.int .i64 i) ∧ decide (0 ≤ i) = decide (x ∈ A) ∧ w = w'

set_option maxRecDepth 100000 in
set_option maxHeartbeats 400000 in
theorem index_any (v : Value) (A : List UInt8) (x : UInt8) (w : World) (hA : IsBytes w v A) (hs : A.length ≤ 2000) :
    Calls Tryd.prog 55 #[v, .int .u8 x.toNat] w (IndexEnd w A x) := by
  obtain ⟨a, cap, rfl, hle, hc⟩ := hA
  have HC := Lib.hid hc
  clear hc
  go_enter Tryd.func55, Tryd.ntmps55
  go_wp2
  go_loop [8] (fun i => ∃ k : Nat, k ≤ A.length ∧ i = .int .i64 k ∧ x ∉ A.take k) (fun i => A.length - (intOf i).toNat)
  case atStart => exact ⟨0, Nat.zero_le _, rfl, by simp⟩
  case round =>
    obtain ⟨k, hk, rfl, hn⟩ := hrel
    by_cases hlt : k < A.length
    · obtain ⟨c, hcx⟩ : ∃ c, A[k]? = some c := ⟨A[k], by simp⟩
      obtain ⟨gb, off, rfl, hx⟩ := HC.out k c hcx
      have g1 : (0 : Int) ≤ (k : Int) := by omega
      have g2 : (k : Int) < (A.length : Int) := by omega
      have HN := Lib.hid hn
      have HX := Lib.hid hcx
      clear hn hcx
      by_cases he : c = x
      · have g3 := u8_eq x c
        rw [decide_eq_true he.symm] at g3
        go_wp2
        go_ret
        refine ⟨(k : Int), rfl, ?_, rfl⟩
        have hm : x ∈ A := he ▸ List.mem_of_getElem? HX.out
        rw [decide_eq_true hm, decide_eq_true g1]
      · have g3 := u8_eq x c
        rw [decide_eq_false (fun h => he h.symm)] at g3
        go_wp2
        go_round
        case rel => exact ⟨k + 1, by omega, by go_num, not_mem_take HX.out HN.out he⟩
        case measure => simp [intOf]; omega
    · have g2 : ¬ (k : Int) < (A.length : Int) := by omega
      obtain rfl : k = A.length := by omega
      rw [List.take_length] at hn
      have HN := Lib.hid hn
      clear hn
      go_wp2
      go_ret
      refine ⟨-1, rfl, ?_, rfl⟩
      rw [decide_eq_false HN.out]
      rfl

set_option maxRecDepth 100000 in
set_option maxHeartbeats 400000 in
theorem contains_any (v : Value) (A : List UInt8) (x : UInt8) (w : World) (hA : IsBytes w v A) (hs : A.length ≤ 2000) :
    Calls Tryd.prog 47 #[v, .int .u8 x.toNat] w (Says w (.bool (decide (x ∈ A)))) := by
  have HA := Lib.hid hA
  clear hA
  go_enter Tryd.func47, Tryd.ntmps47
  go_wp2_with fail
  refine (index_any v A x w HA.out hs).mono ?_
  rintro e w' ⟨i, rfl, hi, rfl⟩
  rw [← hi]
  go_wp2_with fail
  go_ret
  exact ⟨rfl, rfl⟩

end Go.Proofs.YtlflhjgfegflfaaDoor.Pm

namespace Go.Proofs.YtlflhjgfegflfaaDoor.Pm
open Go.RowKit

/-- Which bytes were seen. -/
def seenA (L : List UInt8) : Array Value := ((List.range 256).map fun j => Value.bool (decide (UInt8.ofNat j ∈ L))).toArray
theorem seenA_at (L : List UInt8) (c : UInt8) : (seenA L)[c.toNat]? = some (.bool (decide (c ∈ L))) := by
  have h : c.toNat < 256 := c.toNat_lt
  simp [seenA, h]
theorem seenA_put (L : List UInt8) (c : UInt8) : (seenA L).setIfInBounds c.toNat (.bool true) = seenA (L ++ [c]) := by
  apply Array.ext
  · simp [seenA]
  · intro i h1 h2
    have hi : i < 256 := by simpa [seenA] using h2
    simp only [seenA, List.setIfInBounds_toArray, List.getElem_toArray, List.getElem_set, List.getElem_map, List.getElem_range]
    by_cases hc : c.toNat = i
    · have : UInt8.ofNat i = c := by rw [← hc]; simp
      simp [hc, this]
    · have : UInt8.ofNat i ≠ c := by
        intro e
        apply hc
        rw [← e]
        simp [Nat.mod_eq_of_lt hi]
      simp [hc, this]
theorem Tryd.info112 : (Tryd.prog.info? 112).map (fun i => (i.zero, i.size)) = some (some (.agg (seenA [])), 256) := by kernel_rfl
theorem Tryd.zero112 (w : World) : (zeroValue 112).run Tryd.prog w = .ok (.agg (seenA [])) w := (zero_of_info Tryd.info112).1 w
theorem setCell_row {w : World} {g : Nat} {cs : Array Value} {t : TypeId} {fr : Nat × Nat} (hg : w.heap[g]? = some (.cells cs t fr)) (o : Nat) (v : Value) : (w.setCell ⟨g, o, none⟩ v).heap[g]? = some (.cells (cs.setIfInBounds o v) t fr) := by
  simp only [World.setCell, Array.getElem?_modify, if_true, hg, Option.map_some]
  rfl
theorem Below.setNew {B : Nat} {a b : World} (h : Below B a b) (x : Addr) (v : Value) (hx : B ≤ x.block) : Below B a (b.setCell x v) :=
  h.trans ⟨rfl, rfl, rfl, by simp [World.setCell], fun k hk => Below.heap_setCell b x v k (by omega)⟩
theorem nodup_step {A : List UInt8} {k : Nat} {c : UInt8} (hk : A[k]? = some c) (h : (A.take k).Nodup) (hc : c ∉ A.take k) : (A.take (k + 1)).Nodup ∧ A.take (k + 1) = A.take k ++ [c] := by
  obtain ⟨hl, e⟩ := List.getElem?_eq_some_iff.1 hk
  have e2 : A.take (k + 1) = A.take k ++ [c] := by rw [List.take_succ_eq_append_getElem hl, e]
  refine ⟨?_, e2⟩
  rw [e2, List.nodup_append]
  refine ⟨h, by simp, ?_⟩
  intro a ha b hb
  rw [List.mem_singleton] at hb
  subst hb
  intro e
  exact hc (e ▸ ha)
theorem not_nodup {A : List UInt8} {k : Nat} {c : UInt8} (hk : A[k]? = some c) (hc : c ∈ A.take k) : ¬ A.Nodup := by
  intro h
  obtain ⟨hl, e⟩ := List.getElem?_eq_some_iff.1 hk
  have : A = A.take k ++ A.drop k := (List.take_append_drop k A).symm
  rw [this, List.nodup_append] at h
  refine h.2.2 c hc c ?_ rfl
  rw [List.drop_eq_getElem_cons hl, e]
  exact List.mem_cons_self

set_option maxRecDepth 100000 in
set_option maxHeartbeats 400000 in
theorem unlike_any (v : Value) (A : List UInt8) (w : World) (hA : IsBytes w v A) (hs : A.length ≤ 2000) :
    Calls Tryd.prog 48 #[v] w (Gives w (.bool (decide A.Nodup))) := by
  obtain ⟨a, cap, rfl, hle, hc⟩ := hA
  have HC := Lib.hid hc
  clear hc
  have hz := Tryd.zero112
  have hb0 : Below w.heap.size w (w.alloc (.cells (seenA []) 112)) := (Below.refl _ _).alloc (Nat.le_refl _) _
  have hh0 : (w.alloc (.cells (seenA []) 112)).heap[w.heap.size]? = some (.cells (seenA []) 112 (0, 0)) := heap_alloc_last w _
  have HB := Lib.hid hb0
  have HH := Lib.hid hh0
  clear hb0 hh0
  go_enter Tryd.func48, Tryd.ntmps48
  go_wp2
  go_loopw [8] (fun i wr => ∃ k : Nat, k ≤ A.length ∧ i = .int .i64 k ∧ (A.take k).Nodup ∧ wr.heap[w.heap.size]? = some (.cells (seenA (A.take k)) 112 (0, 0)) ∧ Below w.heap.size w wr) (fun i _ => A.length - (intOf i).toNat)
  case atStart => exact ⟨0, Nat.zero_le _, rfl, by simp, HH.out, HB.out⟩
  case round =>
    obtain ⟨k, hk, rfl, hn, hh, hb⟩ := hrel
    clear HB HH hz
    by_cases hlt : k < A.length
    · obtain ⟨c, hcx⟩ : ∃ c, A[k]? = some c := ⟨A[k], by simp⟩
      obtain ⟨gb, off, rfl, hx⟩ := HC.out k c hcx
      have hx' := Below.cell hb hx
      have g1 : (0 : Int) ≤ (k : Int) := by omega
      have g2 : (k : Int) < (A.length : Int) := by omega
      have g4 : (c.toNat : Int) < 256 := by have := c.toNat_lt; omega
      have hcell : wr.cell? ⟨w.heap.size, c.toNat, none⟩ = some (.bool (decide (c ∈ A.take k))) := by rw [cell_of_row _ _ _ _ _ _ hh]; exact seenA_at _ c
      have hfz : wr.frozen? ⟨w.heap.size, c.toNat, none⟩ = false := by simp [World.frozen?, hh]
      have HN := Lib.hid hn
      have HX := Lib.hid hcx
      have HH := Lib.hid hh
      have HB := Lib.hid hb
      clear hn hcx hx hh hb
      by_cases he : c ∈ A.take k
      · rw [decide_eq_true he] at hcell
        go_wp2
        go_ret
        refine ⟨?_, HB.out⟩
        rw [decide_eq_false (not_nodup HX.out he)]
        rfl
      · rw [decide_eq_false he] at hcell
        go_wp2
        go_roundw
        case rel =>
          obtain ⟨e1, e2⟩ := nodup_step HX.out HN.out he
          refine ⟨k + 1, by omega, by go_num, e1, ?_, Below.setNew HB.out _ _ (Nat.le_refl _)⟩
          rw [setCell_row HH.out, seenA_put, e2]
        case measure => simp [intOf]; omega
    · have g2 : ¬ (k : Int) < (A.length : Int) := by omega
      obtain rfl : k = A.length := by omega
      rw [List.take_length] at hn
      have HN := Lib.hid hn
      have HB := Lib.hid hb
      clear hn hh hb
      go_wp2
      go_ret
      refine ⟨?_, HB.out⟩
      rw [decide_eq_true HN.out]
      rfl

end Go.Proofs.YtlflhjgfegflfaaDoor.Pm

namespace Go.Proofs.YtlflhjgfegflfaaDoor.Pm
open Go.RowKit

theorem Below.drewN {B : Nat} (w : World) (n : Nat) : Below B w (w.drewN n) := ⟨rfl, rfl, rfl, Nat.le_refl _, fun _ _ => rfl⟩
theorem mem_take_lt {A : List UInt8} {j k : Nat} {c : UInt8} (hj : A[j]? = some c) (h : j < k) : c ∈ A.take k := by
  apply List.mem_of_getElem? (i := j)
  rw [List.getElem?_take, if_pos h, hj]

set_option maxRecDepth 100000 in
set_option maxHeartbeats 1000000 in
theorem refUnlike_any (v : Value) (A : List UInt8) (w : World) (hA : IsBytes w v A) (hs : A.length ≤ 2000) :
    Calls Tryd.prog 38 #[v] w (Gives w (.bool (decide A.Nodup))) := by
  obtain ⟨a, cap, rfl, hle, hc⟩ := hA
  have HC := Lib.hid hc
  clear hc
  go_enter Tryd.func38, Tryd.ntmps38
  go_wp2
  go_loopw [3] (fun i wr => ∃ k q : Nat, k ≤ A.length ∧ i = .int .i64 k ∧ (A.take k).Nodup ∧ wr = w.drewN q) (fun i _ => A.length - (intOf i).toNat)
  case atStart => exact ⟨0, 0, Nat.zero_le _, rfl, by simp, rfl⟩
  case round =>
    obtain ⟨k, q, hk, rfl, hn, rfl⟩ := hrel
    by_cases hlt : k < A.length
    · obtain ⟨c, hcx⟩ : ∃ c, A[k]? = some c := ⟨A[k], by simp⟩
      obtain ⟨gb, off, rfl, hx⟩ := HC.out k c hcx
      have g1 : (0 : Int) ≤ (k : Int) := by omega
      have g2 : (k : Int) < (A.length : Int) := by omega
      have HN := Lib.hid hn
      have HX := Lib.hid hcx
      clear hn hcx
      go_wp2
      go_loopw [4] (fun i wr => ∃ j r : Nat, j ≤ k ∧ i = .int .i64 j ∧ c ∉ A.take j ∧ wr = w.drewN r) (fun i _ => k - (intOf i).toNat)
      case atStart => exact ⟨0, _, Nat.zero_le _, rfl, by simp, rfl⟩
      case round =>
        obtain ⟨j, r, hj, rfl, hm, rfl⟩ := hrel
        by_cases hjl : j < k
        · obtain ⟨d, hdx⟩ : ∃ d, A[j]? = some d := ⟨A[j]'(by omega), by simp⟩
          obtain ⟨gb2, off2, e2, hy⟩ := HC.out j d hdx
          cases e2
          have g3 : (0 : Int) ≤ (j : Int) := by omega
          have g4 : (j : Int) < (A.length : Int) := by omega
          have g5 : (j : Int) < (k : Int) := by omega
          have HM := Lib.hid hm
          have HD := Lib.hid hdx
          clear hm hdx
          have g6 := u8_eq d c
          by_cases he : d = c
          · rw [decide_eq_true he] at g6
            go_wp2
            go_quiet (fail)
            go_wp2
            go_ret
            refine ⟨?_, (Below.drewN _ _).trans (Below.drewN _ _)⟩
            have hm : c ∈ A.take k := he ▸ mem_take_lt HD.out hjl
            rw [decide_eq_false (not_nodup HX.out hm)]
            rfl
          · rw [decide_eq_false he] at g6
            go_wp2
            go_quiet (fail)
            go_wp2
            go_roundw
            case rel => exact ⟨j + 1, _, by omega, by go_num, not_mem_take HD.out HM.out he, rfl⟩
            case measure => simp [intOf]; omega
        · have g5 : ¬ (j : Int) < (k : Int) := by omega
          obtain rfl : j = k := by omega
          have HM := Lib.hid hm
          clear hm
          go_wp2
          go_roundw
          case rel =>
            obtain ⟨e1, -⟩ := nodup_step HX.out HN.out HM.out
            exact ⟨j + 1, _, by omega, by go_num, e1, rfl⟩
          case measure => simp [intOf]; omega
    · have g2 : ¬ (k : Int) < (A.length : Int) := by omega
      obtain rfl : k = A.length := by omega
      rw [List.take_length] at hn
      have HN := Lib.hid hn
      clear hn
      go_wp2
      go_ret
      refine ⟨?_, Below.drewN _ _⟩
      rw [decide_eq_true HN.out]
      rfl

end Go.Proofs.YtlflhjgfegflfaaDoor.Pm

namespace Go.Proofs.YtlflhjgfegflfaaDoor.Pm
open Go.RowKit

theorem mayBe1 (A B : List UInt8) : mayBe 1 A B = (oneB A && decide (B.length = 0)) := by
  simp only [mayBe, oneB, if_true]
  by_cases h1 : A.length = 1 <;> by_cases h2 : A.head? = some 10 <;> by_cases h3 : B.length = 0 <;> simp [h1, h2, h3]
theorem int0 (n : Nat) : ((n : Int) == 0) = decide (n = 0) := by
  by_cases h : n = 0
  · subst h; rfl
  · rw [decide_eq_false h]; simp; omega
theorem int1 (n : Nat) : ((n : Int) == 1) = decide (n = 1) := by
  by_cases h : n = 1
  · subst h; rfl
  · rw [decide_eq_false h]; simp; omega

set_option maxRecDepth 100000 in
set_option maxHeartbeats 1000000 in
theorem maybe0 (r : Int) (h1 : (r == 1) = false) (h2 : (r == 2) = false) (h3 : (r == 3) = false) (va vb : Value) (A B : List UInt8) (w : World) (hA : IsBytes w va A) (hB : IsBytes w vb B) :
    Calls Tryd.prog 42 #[.int .i64 r, va, vb] w (Says w (.bool (mayBe r A B))) := by
  obtain ⟨a, ca, rfl, -, -⟩ := hA
  obtain ⟨b, cb, rfl, -, -⟩ := hB
  have e : mayBe r A B = (decide (A.length = 0) && decide (B.length = 0)) := by
    simp only [beq_eq_false_iff_ne, ne_eq] at h1 h2 h3
    simp [mayBe, h1, h2, h3]
  rw [e, ← int0, ← int0]
  clear e
  rcases Bool.eq_false_or_eq_true ((A.length : Int) == 0) with hA | hA
  · rw [hA, Bool.true_and]
    go_enter Tryd.func42, Tryd.ntmps42
    go_wp2
    go_ret
    exact ⟨rfl, rfl⟩
  · rw [hA, Bool.false_and]
    go_enter Tryd.func42, Tryd.ntmps42
    go_wp2
    go_ret
    exact ⟨rfl, rfl⟩

set_option maxRecDepth 100000 in
set_option maxHeartbeats 1000000 in
theorem maybe1 (va vb : Value) (A B : List UInt8) (w : World) (hA : IsBytes w va A) (hB : IsBytes w vb B) :
    Calls Tryd.prog 42 #[.int .i64 1, va, vb] w (Says w (.bool (mayBe 1 A B))) := by
  obtain ⟨a, ca, rfl, -, hc⟩ := hA
  obtain ⟨b, cb, rfl, -, -⟩ := hB
  rw [mayBe1, ← int0]
  by_cases h1 : A.length = 1
  · obtain ⟨c, rfl⟩ : ∃ c, A = [c] := List.length_eq_one_iff.1 h1
    obtain ⟨gb, off, rfl, hx⟩ := hc 0 c rfl
    clear hc
    rw [Nat.add_zero] at hx
    simp only [List.length_cons, List.length_nil, Nat.zero_add]
    by_cases h2 : c = 10
    · subst h2
      rw [show oneB [10] = false by decide, Bool.false_and]
      simp only [show ((10 : UInt8).toNat : Int) = 10 from rfl] at hx
      go_enter Tryd.func42, Tryd.ntmps42
      go_wp2
      go_ret
      exact ⟨rfl, rfl⟩
    · have h3 : oneB [c] = true := by simp [oneB, h2]
      rw [h3, Bool.true_and]
      have h4 : ((c.toNat : Int) != 10) = true := by
        simp only [bne_iff_ne, ne_eq]
        intro h
        exact h2 (UInt8.toNat_inj.1 (by simpa using (show c.toNat = 10 by omega)))
      go_enter Tryd.func42, Tryd.ntmps42
      go_wp2
      go_ret
      exact ⟨rfl, rfl⟩
  · have h3 : oneB A = false := by simp [oneB, h1]
    rw [h3, Bool.false_and]
    have h4 : ((A.length : Int) == 1) = false := by simp; omega
    clear hc
    go_enter Tryd.func42, Tryd.ntmps42
    go_wp2
    go_ret
    exact ⟨rfl, rfl⟩

set_option maxRecDepth 100000 in
set_option maxHeartbeats 1000000 in
theorem maybe2 (va vb : Value) (A B : List UInt8) (w : World) (hA : IsBytes w va A) (hB : IsBytes w vb B) :
    Calls Tryd.prog 42 #[.int .i64 2, va, vb] w (Says w (.bool (mayBe 2 A B))) := by
  have HA := Lib.hid hA
  obtain ⟨a, ca, rfl, -, -⟩ := hA
  obtain ⟨b, cb, rfl, -, -⟩ := hB
  have e : mayBe 2 A B = (decide (1 ≤ A.length) && (decide (A.length ≤ 16) && (!decide ((10 : UInt8) ∈ A) && decide (B.length = 0)))) := by
    simp [mayBe, Bool.decide_and]
  rw [e, ← int0]
  clear e
  by_cases h1 : (1 : Int) ≤ (A.length : Int)
  · rw [decide_eq_true (show 1 ≤ A.length by omega), Bool.true_and]
    by_cases h2 : (A.length : Int) ≤ 16
    · rw [decide_eq_true (show A.length ≤ 16 by omega), Bool.true_and]
      rcases Bool.eq_false_or_eq_true (decide ((10 : UInt8) ∈ A)) with hm | hm
      · have HM := Lib.hid hm
        rw [hm, Bool.not_true, Bool.false_and]
        clear hm
        go_enter Tryd.func42, Tryd.ntmps42
        go_wp2_with fail
        refine (contains_any _ A 10 w HA.out (by omega)).mono ?_
        rintro e w' ⟨rfl, rfl⟩
        rw [HM.out]
        go_wp2
        go_ret
        exact ⟨rfl, rfl⟩
      · have HM := Lib.hid hm
        rw [hm, Bool.not_false, Bool.true_and]
        clear hm
        go_enter Tryd.func42, Tryd.ntmps42
        go_wp2_with fail
        refine (contains_any _ A 10 w HA.out (by omega)).mono ?_
        rintro e w' ⟨rfl, rfl⟩
        rw [HM.out]
        go_wp2
        go_ret
        exact ⟨rfl, rfl⟩
    · rw [decide_eq_false (show ¬ A.length ≤ 16 by omega), Bool.false_and]
      go_enter Tryd.func42, Tryd.ntmps42
      go_wp2
      go_ret
      exact ⟨rfl, rfl⟩
  · rw [decide_eq_false (show ¬ 1 ≤ A.length by omega), Bool.false_and]
    go_enter Tryd.func42, Tryd.ntmps42
    go_wp2
    go_ret
    exact ⟨rfl, rfl⟩

set_option maxRecDepth 100000 in
set_option maxHeartbeats 1000000 in
theorem maybe3 (va vb : Value) (A B : List UInt8) (w : World) (hA : IsBytes w va A) (hB : IsBytes w vb B) :
    Calls Tryd.prog 42 #[.int .i64 3, va, vb] w (Gives w (.bool (mayBe 3 A B))) := by
  have HA := Lib.hid hA
  obtain ⟨a, ca, rfl, -, -⟩ := hA
  obtain ⟨b, cb, rfl, -, -⟩ := hB
  have e : mayBe 3 A B = (decide (1 ≤ A.length) && (decide (A.length ≤ 64) && (decide A.Nodup && decide (B.length ≤ A.length)))) := by
    simp [mayBe, Bool.decide_and]
  rw [e]
  clear e
  by_cases h1 : (1 : Int) ≤ (A.length : Int)
  · rw [decide_eq_true (show 1 ≤ A.length by omega), Bool.true_and]
    by_cases h2 : (A.length : Int) ≤ 64
    · rw [decide_eq_true (show A.length ≤ 64 by omega), Bool.true_and]
      rcases Bool.eq_false_or_eq_true (decide A.Nodup) with hm | hm
      · have HM := Lib.hid hm
        rw [hm, Bool.true_and]
        clear hm
        go_enter Tryd.func42, Tryd.ntmps42
        go_wp2_with fail
        refine (unlike_any _ A w HA.out (by omega)).mono ?_
        rintro e w' ⟨rfl, hb⟩
        rw [HM.out]
        go_wp2
        go_ret
        exact ⟨rfl, hb⟩
      · have HM := Lib.hid hm
        rw [hm, Bool.false_and]
        clear hm
        go_enter Tryd.func42, Tryd.ntmps42
        go_wp2_with fail
        refine (unlike_any _ A w HA.out (by omega)).mono ?_
        rintro e w' ⟨rfl, hb⟩
        rw [HM.out]
        go_wp2
        go_ret
        exact ⟨rfl, hb⟩
    · rw [decide_eq_false (show ¬ A.length ≤ 64 by omega), Bool.false_and]
      go_enter Tryd.func42, Tryd.ntmps42
      go_wp2
      go_ret
      exact ⟨rfl, Below.refl _ _⟩
  · rw [decide_eq_false (show ¬ 1 ≤ A.length by omega), Bool.false_and]
    go_enter Tryd.func42, Tryd.ntmps42
    go_wp2
    go_ret
    exact ⟨rfl, Below.refl _ _⟩

theorem Says.gives {w : World} {v : Value} {e : Ending} {w' : World} (h : Says w v e w') : Gives w v e w' := by
  obtain ⟨rfl, rfl⟩ := h
  exact ⟨rfl, Below.refl _ _⟩
/-- THE CONTRACT. -/
theorem bytesMayBe_any (r : Int) (va vb : Value) (A B : List UInt8) (w : World) (hA : IsBytes w va A) (hB : IsBytes w vb B) :
    Calls Tryd.prog 42 #[.int .i64 r, va, vb] w (Gives w (.bool (mayBe r A B))) := by
  by_cases h1 : r = 1
  · subst h1
    exact (maybe1 va vb A B w hA hB).mono fun _ _ h => h.gives
  · by_cases h2 : r = 2
    · subst h2
      exact (maybe2 va vb A B w hA hB).mono fun _ _ h => h.gives
    · by_cases h3 : r = 3
      · subst h3
        exact maybe3 va vb A B w hA hB
      · exact (maybe0 r (by simpa using h1) (by simpa using h2) (by simpa using h3) va vb A B w hA hB).mono fun _ _ h => h.gives

end Go.Proofs.YtlflhjgfegflfaaDoor.Pm

namespace Go.Proofs.YtlflhjgfegflfaaDoor.Pm

theorem check_zero {k n : Int} {A B : List UInt8} (h : checkE k n A B = 0) : ∃ K : Nat, k = K ∧ 1 ≤ K ∧ K ≤ 16 ∧ (kindOf K).least ≤ n ∧ n ≤ (kindOf K).most ∧ tooMuch (kindOf K) n = false := by
  unfold checkE at h
  split at h
  · cases h
  · split at h
    · cases h
    · split at h
      · cases h
      · rename_i h1 h2 h3
        refine ⟨k.toNat, by omega, by omega, by omega, ?_, ?_, by simpa using h3⟩
        · simp [fits] at h2; exact h2.1
        · simp [fits] at h2; exact h2.2.1

/-- What may be holds from 0 to 2048 bytes, and N is not below 0. -/
theorem kind_range (K : Nat) (h1 : 1 ≤ K) (h16 : K ≤ 16) (n : Int) (hl : (kindOf K).least ≤ n) (hm : n ≤ (kindOf K).most) (ht : tooMuch (kindOf K) n = false) :
    0 ≤ n ∧ 0 ≤ (kindOf K).each * n ∧ (kindOf K).holds + (kindOf K).each * n ≤ 2048 ∧ 0 ≤ portsE (kindOf K).ins n ∧ portsE (kindOf K).ins n ≤ 4 ∧ 0 ≤ portsE (kindOf K).outs n ∧ portsE (kindOf K).outs n ≤ 4 ∧ portsE (kindOf K).ins n + portsE (kindOf K).outs n ≠ 0 := by
  obtain rfl | rfl | rfl | rfl | rfl | rfl | rfl | rfl | rfl | rfl | rfl | rfl | rfl | rfl | rfl | rfl : K = 1 ∨ K = 2 ∨ K = 3 ∨ K = 4 ∨ K = 5 ∨ K = 6 ∨ K = 7 ∨ K = 8 ∨ K = 9 ∨ K = 10 ∨ K = 11 ∨ K = 12 ∨ K = 13 ∨ K = 14 ∨ K = 15 ∨ K = 16 := by omega
  all_goals simp [kindOf, kinds, tooMuch, portsE] at hl hm ht ⊢
  all_goals omega

theorem each_nonneg : ∀ K : Nat, K ≤ 16 → 0 ≤ (kindOf K).each := by decide

theorem ins_of {k n : Int} {A B : List UInt8} (h : checkE k n A B ≠ 0) : insE k n A B = 0 ∧ outsE k n A B = 0 ∧ boundE k n A B = 0 := ⟨by rw [insE, if_neg h], by rw [outsE, if_neg h], by rw [boundE, if_neg h]⟩

end Go.Proofs.YtlflhjgfegflfaaDoor.Pm

namespace Go.Proofs.YtlflhjgfegflfaaDoor.Pm
open Go.ChangeShapes Go.WideShapes Go.ChangeAt Go.RowKit Go.Deep

theorem Tryd.own : ownKnob Tryd.prog.godebug = none := by kernel_rfl
theorem Tryd.laidOut : laidOutB Tryd.prog = true := by kernel_rfl
theorem Tryd.cells3 : Tryd.prog.cellsOf 3 = 1 := by kernel_rfl
theorem Tryd.cells5 : Tryd.prog.cellsOf 5 = 1 := by kernel_rfl
theorem Tryd.cells22 : Tryd.prog.cellsOf 22 = 1 := by kernel_rfl
theorem Tryd.cells24 : Tryd.prog.cellsOf 24 = 4 := by kernel_rfl
theorem Tryd.cells102 : Tryd.prog.cellsOf 102 = 7 := by kernel_rfl
theorem Tryd.cells103 : Tryd.prog.cellsOf 103 = 119 := by kernel_rfl
theorem gTab : Tryd.prog.globalNamed "penstock/params.rows" = some 0 := by kernel_rfl
theorem gTabType : (Tryd.prog.globals[0]?).map (·.type) = some 103 := by kernel_rfl

section
variable {H : Type} {enc : TypeId × Value → H} {W : World}

/-! The table. -/
def rowD {H : Type} (r : Kind) : DataW H := .agg (r.cells.map fun z => .lit (.int .i64 z))
theorem table_is : (Rows.laid_penstock_params_rows : DataW Unit) = .agg (kinds.map rowD) := rfl

theorem row_cells {base : Nat} {sp : Nat → Bool} {held : Bool} {fuel : Nat} {cs : List Value} {r : Kind} {p : List MemPlace} (h : DataW.trod enc Tryd.prog W base sp held fuel 102 cs = some (rowD r, p)) :
    ∀ (j : Nat) (z : Int), r.cells[j]? = some z → cs[j]? = some (Value.int .i64 z) := by
  obtain ⟨xs, n, -, hx, -, hlen, hf⟩ := DataW.trod_struct Tryd.underlying102 h
  simp only [rowD, Prod.mk.injEq, DataW.agg.injEq] at hx
  have hxs : xs.map (·.1) = r.cells.map fun z => .lit (.int .i64 z) := hx.1.symm
  have each : ∀ (j o : Nat), ((cs.drop o).take (Tryd.prog.cellsOf 3)).length ≤ 1 → DataW.trod enc Tryd.prog W base sp held n 3 ((cs.drop o).take (Tryd.prog.cellsOf 3)) = xs[j]? → ∀ z : Int, r.cells[j]? = some z → cs[o]? = some (Value.int .i64 z) := by
    intro j o _ h1 z hz
    have hj : (xs.map (·.1))[j]? = some (.lit (.int .i64 z)) := by rw [hxs, List.getElem?_map, hz]; rfl
    rw [List.getElem?_map] at hj
    cases hq : xs[j]? with
    | none => rw [hq] at hj; cases hj
    | some y =>
      rw [hq] at hj h1
      obtain ⟨m, hm, hy, -⟩ := DataW.trod_int Tryd.underlying3 h1
      rw [hy] at hj
      simp only [Option.map_some, Option.some.injEq, DataW.lit.injEq, Lit.int.injEq, true_and] at hj
      subst hj
      rw [Tryd.cells3] at hm
      have := congrArg (·[0]?) hm
      simpa [List.getElem?_take, List.getElem?_drop] using this
  intro j z hz
  have hj : j < 7 := (List.getElem?_eq_some_iff.1 hz).1
  have hle : ∀ o, ((cs.drop o).take (Tryd.prog.cellsOf 3)).length ≤ 1 := fun o => by rw [Tryd.cells3]; simp; omega
  obtain rfl | rfl | rfl | rfl | rfl | rfl | rfl : j = 0 ∨ j = 1 ∨ j = 2 ∨ j = 3 ∨ j = 4 ∨ j = 5 ∨ j = 6 := by omega
  · have hq := hf 0 _ rfl
    exact each 0 0 (hle _) hq z hz
  · have hq := hf 1 _ rfl
    exact each 1 1 (hle _) hq z hz
  · have hq := hf 2 _ rfl
    exact each 2 2 (hle _) hq z hz
  · have hq := hf 3 _ rfl
    exact each 3 3 (hle _) hq z hz
  · have hq := hf 4 _ rfl
    exact each 4 4 (hle _) hq z hz
  · have hq := hf 5 _ rfl
    exact each 5 5 (hle _) hq z hz
  · have hq := hf 6 _ rfl
    exact each 6 6 (hle _) hq z hz

theorem tab_of_laid (h : laidMetH Tryd.prog [("penstock/params.rows", Rows.laid_penstock_params_rows)] W) : Tab W := by
  have h' : laidMet Tryd.prog [("penstock/params.rows", Rows.laid_penstock_params_rows)] W := h
  obtain ⟨ps, ⟨g', t', cs, fuel, p, q, hg', ht', hvar, hd, _, _⟩, _⟩ := h'
  obtain rfl := Option.some.inj (gTab.symm.trans hg')
  obtain rfl := Option.some.inj (gTabType.symm.trans ht')
  rw [table_is] at hd
  obtain ⟨xs, m, -, hx, hl, hlen, hf⟩ := DataW.trod_array Tryd.underlying103 hd
  simp only [Prod.mk.injEq, DataW.agg.injEq] at hx
  have hxs : xs.map (·.1) = kinds.map rowD := hx.1.symm
  intro j z hj
  rw [World.var?_cell gTab hvar j]
  have hj119 : j < 119 := by have := (List.getElem?_eq_some_iff.1 hj).1; rwa [length_tabL] at this
  have hi : j / 7 < 17 := by omega
  have hj2 : 7 * (j / 7) + j % 7 = j := by omega
  have hz : (kindOf (j / 7)).cells[j % 7]? = some z := by rw [← tabL_at (j / 7) (by omega) (j % 7) (by omega), hj2, hj]
  have h1 := hf (j / 7) hi
  have hk : (xs.map (·.1))[j / 7]? = some (rowD (kindOf (j / 7))) := by
    rw [hxs, List.getElem?_map]
    have : kinds[j / 7]? = some (kindOf (j / 7)) := by
      have hl : kinds.length = 17 := rfl
      rw [kindOf, List.getD_eq_getElem?_getD, List.getElem?_eq_getElem (by omega)]
      rfl
    rw [this]
    rfl
  rw [List.getElem?_map] at hk
  cases hq : xs[j / 7]? with
  | none => rw [hq] at hk; cases hk
  | some y =>
    rw [hq] at hk h1
    obtain ⟨d, pp⟩ := y
    simp only [Option.map_some, Option.some.injEq] at hk
    subst hk
    have := row_cells h1 (j % 7) z hz
    rw [Tryd.cells102, List.getElem?_take, if_pos (by omega), List.getElem?_drop] at this
    rw [show j / 7 * 7 + j % 7 = j by omega] at this
    simpa [iv] using this

/-! Bytes, and parameters. -/
theorem byte_of {n : Int} (h : (Lit.int .u8 n).wf = true) : ((UInt8.ofNat n.toNat).toNat : Int) = n := by
  have h2 : 0 ≤ n ∧ n ≤ 255 := by
    have h' : (decide (IntKind.u8.min ≤ n) && decide (n ≤ IntKind.u8.max)) = true := h
    rw [show IntKind.u8.min = 0 by decide, show IntKind.u8.max = 255 by decide] at h'
    simpa using h'
  have h3 : n.toNat < 256 := by omega
  simp [Nat.mod_eq_of_lt h3]
  omega
theorem fits_of {n : Int} (h : (Lit.int .i64 n).wf = true) : Fits n := by
  have h' : (decide (IntKind.i64.min ≤ n) && decide (n ≤ IntKind.i64.max)) = true := h
  rw [show IntKind.i64.min = -9223372036854775808 by decide, show IntKind.i64.max = 9223372036854775807 by decide] at h'
  simpa [Fits] using h'
theorem spot_none {a : Addr} {v : Value} (h : W.cell? a = some v) : a.spot = none := by
  unfold World.cell? at h
  split at h
  · split at h
    · cases h
    · rename_i hs
      simpa using hs
  · cases h
theorem plain_addr {a : Addr} {v : Value} (h : W.cell? (a.add 0) = some v) : ∃ b off, a = ⟨b, off, none⟩ := by
  rw [Addr.add_zero'] at h
  obtain ⟨b, off, sp⟩ := a
  have := spot_none h
  simp only at this
  subst this
  exact ⟨b, off, rfl⟩

theorem open_bytes {fuel : Nat} {V : Value} {x : DataW H × List MemPlace} (h : DataW.trod enc Tryd.prog W 0 (fun _ => true) true fuel 22 [V] = some x) : ∃ bs, IsBytes W V bs := by
  obtain ⟨D, ps⟩ := x
  rcases open_ints Tryd.underlying22 Tryd.underlying5 Tryd.cells5 h with ⟨hcs, _⟩ | ⟨a, len, cap, zs, hcs, _, hl, _, hz, hx, hc, hwf⟩
  · simp at hcs
    exact ⟨[], none, 0, by rw [hcs]; rfl, Nat.le_refl _, fun j c hj => by simp at hj⟩
  · simp at hcs hx hz
    obtain ⟨rfl, rfl⟩ := hx
    refine ⟨(zs.take len).map fun n => UInt8.ofNat n.toNat, some a, cap, by rw [hcs]; simp; omega, by simp; omega, fun j c hj => ?_⟩
    simp only [List.getElem?_map, Option.map_eq_some_iff] at hj
    obtain ⟨n, hn, rfl⟩ := hj
    have hjl : j < zs.length := by
      have := (List.getElem?_eq_some_iff.1 hn).1
      simp at this
      omega
    have hzn : zs[j]? = some n := by
      rw [List.getElem?_take] at hn
      split at hn
      · exact hn
      · cases hn
    obtain ⟨b, off, rfl⟩ := plain_addr (hc 0 (by omega))
    have hcj := hc j hjl
    rw [Addr.add_mid] at hcj
    refine ⟨b, off, rfl, ?_⟩
    rw [hcj, byte_of (hwf n (List.mem_of_getElem? hzn))]
    simp [List.getD, hzn]

set_option maxRecDepth 100000 in
theorem open_par {base : Nat} {v : Value} {d : DataW H} {ps : List MemPlace} (hv : Value.okWide Tryd.prog W .any base 24 v) (h : DataW.Trod enc Tryd.prog W 0 (fun _ => true) true 24 v d ps) :
    ∃ k n va vb A B, v = parV k n va vb ∧ Fits k ∧ Fits n ∧ IsBytes W va A ∧ IsBytes W vb B := by
  obtain ⟨v0, v1, v2, v3, y0, y1, y2, y3, m, rfl, -, -, h0, h1, h2, h3⟩ := Joins.open_agg4 Tryd.underlying24 (by kernel_rfl) Tryd.cells24 hv h
  obtain ⟨k, hk, -, wk⟩ := DataW.trod_int Tryd.underlying3 h0
  obtain ⟨n, hn, -, wn⟩ := DataW.trod_int Tryd.underlying3 h1
  obtain ⟨A, hA⟩ := open_bytes h2
  obtain ⟨B, hB⟩ := open_bytes h3
  simp only [List.cons.injEq, and_true] at hk hn
  subst hk
  subst hn
  exact ⟨k, n, v2, v3, A, B, rfl, fits_of wk, fits_of wn, hA, hB⟩

end
end Go.Proofs.YtlflhjgfegflfaaDoor.Pm
