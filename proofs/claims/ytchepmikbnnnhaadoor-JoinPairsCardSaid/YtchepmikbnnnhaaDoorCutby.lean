/- What strings.Cut does at one byte: the shelf's contract, laid at this cut: a line's key, and its rest. -/
import Derived.Shelf.Strings.Cut
import Derived.Shelf.Vars
import Derived.Test.YtchepmikbnnnhaaDoorDdefs
import Derived.Test.YtchepmikbnnnhaaDoorGheavy
import Derived.Test.YtchepmikbnnnhaaDoorJnA
namespace Go.Proofs.YtchepmikbnnnhaaDoor
open Go.Shelf Go.RowKit

def lays145_ren : Go.Shelf.Ren := ⟨fun | 145 => 59 | 217 => 79 | 219 => 76 | 220 => 71 | 224 => 81 | 225 => 80 | 266 => 83 | 267 => 82 | 314 => 84 | n => n, fun | 3 => 3 | 4 => 4 | 5 => 5 | 9 => 9 | 46 => 159 | 51 => 160 | 59 => 134 | 146 => 161 | n => n, fun | 1 => 1 | n => n⟩
theorem lays145 : Go.Proofs.Lays.n145 Tryd.prog lays145_ren := {
  mixed := by kernel_rfl
  f145 := Tryd.func59.trans (congrArg some (by kernel_rfl))
  f217 := Tryd.func79.trans (congrArg some (by kernel_rfl))
  f219 := Tryd.func76.trans (congrArg some (by kernel_rfl))
  f220 := Tryd.func71.trans (congrArg some (by kernel_rfl))
  f224 := Tryd.func81.trans (congrArg some (by kernel_rfl))
  f225 := Tryd.func80.trans (congrArg some (by kernel_rfl))
  f266 := Tryd.func83.trans (congrArg some (by kernel_rfl))
  f267 := Tryd.func82.trans (congrArg some (by kernel_rfl))
  f314 := Tryd.func84.trans (congrArg some (by kernel_rfl))
  t3 := Tryd.underlying3
  a3 := Tryd.isAgg3
  z3 := Tryd.sizeOf3
  v3 := Tryd.zeroValue3
  t4 := Tryd.underlying4
  a4 := Tryd.isAgg4
  z4 := Tryd.sizeOf4
  v4 := Tryd.zeroValue4
  t5 := Tryd.underlying5
  a5 := Tryd.isAgg5
  z5 := Tryd.sizeOf5
  v5 := Tryd.zeroValue5
  t9 := Tryd.underlying9
  a9 := Tryd.isAgg9
  z9 := Tryd.sizeOf9
  v9 := Tryd.zeroValue9
  t46 := Tryd.underlying159
  a46 := Tryd.isAgg159
  z46 := Tryd.sizeOf159
  v46 := Tryd.zeroValue159
  t51 := Tryd.underlying160
  a51 := Tryd.isAgg160
  z51 := Tryd.sizeOf160
  v51 := Tryd.zeroValue160
  t59 := Tryd.underlying134
  a59 := Tryd.isAgg134
  z59 := Tryd.sizeOf134
  v59 := Tryd.zeroValue134
  t146 := Tryd.underlying161
  a146 := Tryd.isAgg161
  z146 := Tryd.sizeOf161
  v146 := Tryd.zeroValue161
  g1 := by kernel_rfl }

/-- The library's variable of the machine's own widest row of bytes holds a number. -/
def MaxAt (w : World) : Prop := ∃ m, w.cell? ⟨1, 0, none⟩ = some (.int .i64 m)
theorem MaxAt.frame {p : Nat → Prop} {w w' : World} (h : MaxAt w) (hf : Frame p w w') (hp : ¬ p 1) : MaxAt w' := by
  obtain ⟨m, h⟩ := h
  exact ⟨m, hf.cell? h hp⟩
theorem MaxAt.lt {w : World} (h : MaxAt w) : 1 < w.heap.size := by
  obtain ⟨m, h⟩ := h
  exact block_lt_of_cell h
/-- What the machines ask of the world: the table of kinds, and that variable. -/
def MaxTab (w : World) : Prop := Pm.Tab w ∧ MaxAt w
theorem MaxTab.below {w w' : World} (h : MaxTab w) (hb : Below w.heap.size w w') : MaxTab w' := ⟨h.1.below hb, h.2.frame (Below.toFrame hb fun _ => False) (fun h => h)⟩
theorem maxTab_of {w : World} (hL : laidMetH Tryd.prog [("penstock/params.rows", Rows.laid_penstock_params_rows)] w) (hS : w.ShapedOpen Tryd.prog) : MaxTab w :=
  ⟨Pm.tab_of_laid hL, cell_of_shapedOpen_int (P := Tryd.prog) (g := 1) (t := 3) (zero := #[.int .i64 0]) hS (of_decide_eq_true (by kernel_rfl)) (by kernel_rfl) rfl (by kernel_rfl) (by kernel_rfl) Tryd.underlying3⟩

theorem index_one (a : UInt8) : ∀ l : List UInt8, (Lib.index l [a] = -1 ∧ keyL a l = l ∧ restL a l = []) ∨ ∃ i : Nat, Lib.index l [a] = i ∧ l.take i = keyL a l ∧ l.drop (i + 1) = restL a l
  | [] => .inl ⟨rfl, rfl, rfl⟩
  | b :: l => by
    by_cases h : b = a
    · subst h
      refine .inr ⟨0, ?_, ?_, ?_⟩
      · rw [Lib.index]; simp
      · simp [keyL]
      · simp [restL]
    · have hk : keyL a (b :: l) = b :: keyL a l := by simp [keyL, h]
      have hr : restL a (b :: l) = restL a l := by simp [restL, h]
      have hi : Lib.index (b :: l) [a] = if Lib.index l [a] == -1 then -1 else Lib.index l [a] + 1 := by
        rw [Lib.index, if_neg (by simp; exact fun e => h e.symm)]
      rcases index_one a l with ⟨h1, h2, h3⟩ | ⟨i, h1, h2, h3⟩
      · exact .inl ⟨by rw [hi, h1]; rfl, by rw [hk, h2], by rw [hr, h3]⟩
      · refine .inr ⟨i + 1, by rw [hi, h1, if_neg (by simp)]; omega, by rw [hk, List.take_succ_cons, h2], by rw [hr, ← h3]; rfl⟩
theorem cut_key (a : UInt8) (l : List UInt8) : (Lib.cut l [a]).1 = keyL a l ∧ (Lib.cut l [a]).2.1 = restL a l := by
  unfold Lib.cut
  rcases index_one a l with ⟨h1, h2, h3⟩ | ⟨i, h1, h2, h3⟩
  · rw [h1, h2, h3]; exact ⟨rfl, rfl⟩
  · rw [h1]
    rw [if_pos (by omega)]
    simp [h2, h3]
theorem cutby_any (a : UInt8) (l : List UInt8) (w : World) (hl : l.length ≤ 1000000) (hm : MaxAt w) :
    Calls Tryd.prog 59 #[strV l, strV [a]] w fun e w' => (∃ f, e = .returned (.tuple #[strV (keyL a l), strV (restL a l), .bool f])) ∧ ∃ n, w' = w.drewN n := by
  obtain ⟨m, hm⟩ := hm
  have h := Go.Proofs.Any.strings_Cut lays145 ⟨l.toArray⟩ ⟨[a].toArray⟩ m w (by simp [ByteArray.size]; omega) hm
  obtain ⟨k1, k2⟩ := cut_key a l
  refine h.mono fun e w' ⟨h1, h2⟩ => ⟨⟨(Lib.cut l [a]).2.2, ?_⟩, h2⟩
  rw [h1]
  show Ending.returned (.tuple #[.string ⟨(Lib.cut l [a]).1.toArray⟩, .string ⟨(Lib.cut l [a]).2.1.toArray⟩, .bool (Lib.cut l [a]).2.2]) = _
  rw [k1, k2]
  rfl

end Go.Proofs.YtchepmikbnnnhaaDoor
