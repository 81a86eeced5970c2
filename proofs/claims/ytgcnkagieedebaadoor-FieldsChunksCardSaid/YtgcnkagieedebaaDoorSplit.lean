/- What strings.Split does at a text of one byte: the shelf's contracts, laid at this cut. -/
import Derived.Shelf.Strings.Split
import Derived.Test.YtgcnkagieedebaaDoorJoinby
import Derived.Test.YtgcnkagieedebaaDoorContains
namespace Go.Proofs.YtgcnkagieedebaaDoor
open Go.Shelf Go.RowKit

def lays146_ren : Go.Shelf.Ren := ⟨fun | 138 => 61 | 143 => 51 | 146 => 46 | 195 => 69 | 197 => 70 | 217 => 65 | 218 => 71 | 219 => 59 | 221 => 53 | 224 => 67 | 225 => 66 | 260 => 76 | 266 => 74 | 267 => 68 | 268 => 60 | 314 => 75 | n => n, fun | 0 => 0 | 3 => 3 | 4 => 4 | 5 => 5 | 9 => 9 | 21 => 21 | 31 => 64 | 46 => 137 | 51 => 144 | 105 => 139 | 119 => 147 | 138 => 149 | 139 => 150 | 146 => 145 | n => n, fun | 1 => 1 | 3 => 2 | 4 => 3 | n => n⟩
theorem lays146 : Go.Proofs.Lays.n146 Tryd.prog lays146_ren := {
  mixed := by kernel_rfl
  f138 := Tryd.func61.trans (congrArg some (by kernel_rfl))
  f143 := Tryd.func51.trans (congrArg some (by kernel_rfl))
  f146 := Tryd.func46.trans (congrArg some (by kernel_rfl))
  f195 := Tryd.func69.trans (congrArg some (by kernel_rfl))
  f197 := Tryd.func70.trans (congrArg some (by kernel_rfl))
  f217 := Tryd.func65.trans (congrArg some (by kernel_rfl))
  f218 := Tryd.func71.trans (congrArg some (by kernel_rfl))
  f219 := Tryd.func59.trans (congrArg some (by kernel_rfl))
  f221 := Tryd.func53.trans (congrArg some (by kernel_rfl))
  f224 := Tryd.func67.trans (congrArg some (by kernel_rfl))
  f225 := Tryd.func66.trans (congrArg some (by kernel_rfl))
  f260 := Tryd.func76.trans (congrArg some (by kernel_rfl))
  f266 := Tryd.func74.trans (congrArg some (by kernel_rfl))
  f267 := Tryd.func68.trans (congrArg some (by kernel_rfl))
  f268 := Tryd.func60.trans (congrArg some (by kernel_rfl))
  f314 := Tryd.func75.trans (congrArg some (by kernel_rfl))
  t0 := Tryd.underlying0
  a0 := Tryd.isAgg0
  z0 := Tryd.sizeOf0
  v0 := Tryd.zeroValue0
  t3 := Tryd.underlying3
  a3 := Tryd.isAgg3
  z3 := Tryd.sizeOf3
  v3 := Tryd.zeroValue3
  t4 := Tryd.underlying4
  a4 := Tryd.isAgg4
  z4 := Tryd.sizeOf4
  v4 := Tryd.zeroValue4
  t5 := Tryd.underlying5
  a5 := Tryd.isAgg5
  z5 := Tryd.sizeOf5
  v5 := Tryd.zeroValue5
  t9 := Tryd.underlying9
  a9 := Tryd.isAgg9
  z9 := Tryd.sizeOf9
  v9 := Tryd.zeroValue9
  t21 := Tryd.underlying21
  a21 := Tryd.isAgg21
  z21 := Tryd.sizeOf21
  v21 := Tryd.zeroValue21
  t31 := Tryd.underlying64
  a31 := Tryd.isAgg64
  z31 := Tryd.sizeOf64
  v31 := Tryd.zeroValue64
  t46 := Tryd.underlying137
  a46 := Tryd.isAgg137
  z46 := Tryd.sizeOf137
  v46 := Tryd.zeroValue137
  t51 := Tryd.underlying144
  a51 := Tryd.isAgg144
  z51 := Tryd.sizeOf144
  v51 := Tryd.zeroValue144
  t105 := Tryd.underlying139
  a105 := Tryd.isAgg139
  z105 := Tryd.sizeOf139
  v105 := Tryd.zeroValue139
  t119 := Tryd.underlying147
  a119 := Tryd.isAgg147
  z119 := Tryd.sizeOf147
  t138 := Tryd.underlying149
  a138 := Tryd.isAgg149
  z138 := Tryd.sizeOf149
  v138 := Tryd.zeroValue149
  t139 := Tryd.underlying150
  a139 := Tryd.isAgg150
  z139 := Tryd.sizeOf150
  v139 := Tryd.zeroValue150
  t146 := Tryd.underlying145
  a146 := Tryd.isAgg145
  z146 := Tryd.sizeOf145
  v146 := Tryd.zeroValue145
  g1 := by kernel_rfl
  g3 := by kernel_rfl
  g4 := by kernel_rfl }

theorem split_info : (Tryd.prog.info? (lays146_ren.t 9)).map (fun i => (i.zero, i.size, i.bytes)) = some (some (.string ByteArray.empty), 1, 16) := by kernel_rfl
/-- The parts of a line that a byte parts. -/
def consL (c : UInt8) : Lines → Lines
  | h :: t => (c :: h) :: t
  | [] => [[c]]
def partsL (a : UInt8) : List UInt8 → Lines
  | [] => [[]]
  | c :: r => if c = a then [] :: partsL a r else consL c (partsL a r)
theorem partsL_same (a : UInt8) (r : List UInt8) : partsL a (a :: r) = [] :: partsL a r := by rw [partsL, if_pos rfl]
theorem partsL_other {a c : UInt8} (h : c ≠ a) (r : List UInt8) : partsL a (c :: r) = consL c (partsL a r) := by rw [partsL, if_neg h]
theorem partsL_len (a : UInt8) : ∀ x : List UInt8, (partsL a x).length = x.count a + 1
  | [] => rfl
  | c :: r => by
    have ih := partsL_len a r
    by_cases h : c = a
    · subst h
      rw [partsL_same, List.length_cons, ih, List.count_cons_self]
    · rw [partsL_other h, List.count_cons_of_ne (by simpa using h), ← ih]
      cases hp : partsL a r with
      | nil => rw [hp] at ih; simp at ih
      | cons _ _ => rfl
theorem splitK_same (a : UInt8) (k : Nat) (r : List UInt8) : Lib.splitK [a] 0 (k + 1) (a :: r) = [] :: Lib.splitK [a] 0 k r := by
  have hix : Lib.index (a :: r) [a] = 0 := by rw [Lib.index]; simp [List.isPrefixOf]
  rw [Lib.splitK, hix]
  simp
theorem splitK_other {a c : UInt8} (h : c ≠ a) : ∀ (k : Nat) (r : List UInt8), Lib.splitK [a] 0 k (c :: r) = consL c (Lib.splitK [a] 0 k r)
  | 0, r => rfl
  | k + 1, r => by
    have hp : ([a] : List UInt8).isPrefixOf (c :: r) = false := by simp [List.isPrefixOf, Ne.symm h]
    have hix : Lib.index (c :: r) [a] = if Lib.index r [a] == -1 then -1 else Lib.index r [a] + 1 := by rw [Lib.index, hp]; simp
    rw [Lib.splitK, Lib.splitK, hix]
    by_cases hm : Lib.index r [a] = -1
    · simp [hm, consL]
    · have hge := Lib.index_ge r [a]
      obtain ⟨j, hj⟩ : ∃ j : Nat, Lib.index r [a] = j := ⟨(Lib.index r [a]).toNat, by omega⟩
      have e1 : ((j : Int) == -1) = false := beq_false_of_ne (by omega)
      have e2 : ((j : Int) + 1 == -1) = false := beq_false_of_ne (by omega)
      have e3 : ((j : Int) + 1).toNat = j + 1 := by omega
      rw [hj]
      simp only [e1, e2, e3, Int.toNat_natCast, Nat.add_zero, Bool.false_eq_true, if_false]
      rfl
theorem splitK_one (a : UInt8) : ∀ x : List UInt8, Lib.splitK [a] 0 (x.count a) x = partsL a x
  | [] => rfl
  | c :: r => by
    by_cases h : c = a
    · subst h
      rw [List.count_cons_self, splitK_same, splitK_one c r, partsL_same]
    · rw [List.count_cons_of_ne (by simpa using h), splitK_other h, splitK_one a r, partsL_other h]

/-- A text in which A stands has more than one part. -/
theorem hasB_one (x : List UInt8) (a : UInt8) : hasB x [a] = decide (1 < (partsL a x).length) := by
  rw [partsL_len, ← Lib.count_one]
  unfold hasB Lib.contains
  by_cases hm : Lib.index x [a] = -1
  · rw [Lib.count_miss hm, hm]
    rfl
  · have hge := Lib.index_ge x [a]
    obtain ⟨j, hj⟩ : ∃ j : Nat, Lib.index x [a] = j := ⟨(Lib.index x [a]).toNat, by omega⟩
    rw [Lib.count_hit (by simp) hj, hj]
    have h1 : (j : Int) ≠ -1 := by omega
    simp
    omega

/-- Split: the parts, in a new block. -/
theorem split_any (x : List UInt8) (a : UInt8) (w : World) (hx : x.length ≤ 1000000) (hm : MaxAt w) :
    Calls Tryd.prog 46 #[strV x, strV [a]] w fun e w' => e = .returned (.slice (some ⟨w.heap.size, 0, none⟩) (partsL a x).length (partsL a x).length) ∧ w' = w.alloc (.cells ((partsL a x).map strV).toArray 9) := by
  obtain ⟨m, hm⟩ := hm
  have h := Go.Proofs.Any.strings_Split lays146 split_info ⟨x.toArray⟩ ⟨#[a]⟩ m w (by simp [ByteArray.size]; omega) hm (Nat.le_refl 1)
  refine h.mono fun e w' ⟨h1, h2⟩ => ?_
  have hc : Lib.countB ⟨x.toArray⟩ ⟨#[a]⟩ = x.count a := by
    show Lib.count x [a] = _
    exact Lib.count_one a x
  have hd := Lib.splitB_data ⟨#[a]⟩ 0 (Lib.countB ⟨x.toArray⟩ ⟨#[a]⟩) ⟨x.toArray⟩
  rw [hc] at hd h2
  have hd2 : (Lib.splitB ⟨#[a]⟩ 0 (x.count a) ⟨x.toArray⟩).map (·.data.toList) = partsL a x := hd.trans (splitK_one a x)
  have hs : (Lib.splitB ⟨#[a]⟩ 0 (x.count a) ⟨x.toArray⟩).map Value.string = (partsL a x).map strV := by
    rw [← hd2, List.map_map]
    rfl
  rw [hs] at h2
  rw [hc, ← partsL_len a x] at h1
  exact ⟨h1, h2⟩

end Go.Proofs.YtgcnkagieedebaaDoor
