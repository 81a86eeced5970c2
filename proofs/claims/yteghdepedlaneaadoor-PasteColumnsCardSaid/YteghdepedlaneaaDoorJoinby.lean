/- What strings.Join does at a text of one byte: the shelf's contract, laid at this cut. -/
import Derived.Shelf.Strings.OnBuilder
import Derived.Test.YteghdepedlaneaaDoorLB
namespace Go.Proofs.YteghdepedlaneaaDoor
open Go.Shelf Go.RowKit

def lays156_ren : Go.Shelf.Ren := ⟨fun | 156 => 54 | 165 => 59 | 166 => 60 | 169 => 61 | 240 => 63 | 241 => 64 | 276 => 65 | 277 => 66 | n => n, fun | 0 => 0 | 3 => 3 | 4 => 4 | 5 => 5 | 9 => 9 | 20 => 20 | 31 => 65 | 37 => 22 | 70 => 125 | 72 => 127 | 75 => 129 | 76 => 130 | 80 => 108 | 127 => 134 | 164 => 135 | n => n, fun | n => n⟩
theorem lays156 : Go.Proofs.Lays.n156 Tryd.prog lays156_ren := {
  mixed := by kernel_rfl
  f156 := Tryd.func54.trans (congrArg some (by kernel_rfl))
  f165 := Tryd.func59.trans (congrArg some (by kernel_rfl))
  f166 := Tryd.func60.trans (congrArg some (by kernel_rfl))
  f169 := Tryd.func61.trans (congrArg some (by kernel_rfl))
  f240 := Tryd.func63.trans (congrArg some (by kernel_rfl))
  f241 := Tryd.func64.trans (congrArg some (by kernel_rfl))
  f276 := Tryd.func65.trans (congrArg some (by kernel_rfl))
  f277 := Tryd.func66.trans (congrArg some (by kernel_rfl))
  t0 := Tryd.underlying0
  a0 := Tryd.isAgg0
  z0 := Tryd.sizeOf0
  v0 := Tryd.zeroValue0
  t3 := Tryd.underlying3
  a3 := Tryd.isAgg3
  z3 := Tryd.sizeOf3
  v3 := Tryd.zeroValue3
  t4 := Tryd.underlying4
  a4 := Tryd.isAgg4
  z4 := Tryd.sizeOf4
  v4 := Tryd.zeroValue4
  t9 := Tryd.underlying9
  a9 := Tryd.isAgg9
  z9 := Tryd.sizeOf9
  v9 := Tryd.zeroValue9
  t20 := Tryd.underlying20
  a20 := Tryd.isAgg20
  z20 := Tryd.sizeOf20
  v20 := Tryd.zeroValue20
  t31 := Tryd.underlying65
  a31 := Tryd.isAgg65
  z31 := Tryd.sizeOf65
  v31 := Tryd.zeroValue65
  t37 := Tryd.underlying22
  a37 := Tryd.isAgg22
  z37 := Tryd.sizeOf22
  v37 := Tryd.zeroValue22
  t70 := Tryd.underlying125
  a70 := Tryd.isAgg125
  z70 := Tryd.sizeOf125
  v70 := Tryd.zeroValue125
  t72 := Tryd.underlying127
  a72 := Tryd.isAgg127
  z72 := Tryd.sizeOf127
  v72 := Tryd.zeroValue127
  t75 := Tryd.underlying129
  a75 := Tryd.isAgg129
  z75 := Tryd.sizeOf129
  v75 := Tryd.zeroValue129
  t76 := Tryd.underlying130
  a76 := Tryd.isAgg130
  z76 := Tryd.sizeOf130
  v76 := Tryd.zeroValue130
  t127 := Tryd.underlying134
  a127 := Tryd.isAgg134
  z127 := Tryd.sizeOf134
  v127 := Tryd.zeroValue134
  t164 := Tryd.underlying135
  a164 := Tryd.isAgg135
  z164 := Tryd.sizeOf135
  v164 := Tryd.zeroValue135 }

theorem join_extra : Builder.Extra Tryd.prog lays156_ren := {
  sizeBuilder := by kernel_rfl
  liesBuilder := by kernel_rfl
  t5 := Tryd.underlying5
  a5 := Tryd.isAgg5
  z5 := Tryd.sizeOf5
  v5 := Tryd.zeroValue5
  infoByte := by kernel_rfl
  cellsByte := by kernel_rfl
  sizeByte := by kernel_rfl
  neB5 := by decide }


/-- Join: the texts, parted by a byte. -/
theorem joinBy_any {p : Nat → Prop} (v : Value) (ps : Lines) (a : UInt8) (w : World) (hv : IsTexts p w v ps) (hcap : ∃ b c, v = .slice b ps.length c ∧ ps.length ≤ c) (hlen : (Lib.join ps [a]).length ≤ 1000000) (hn : ps.length ≤ 1000000) :
    Calls Tryd.prog 54 #[v, strV [a]] w fun e w' => e = .returned (strV (Lib.join ps [a])) ∧ Below w.heap.size w w' := by
  obtain ⟨b, c, rfl, hc⟩ := hcap
  obtain ⟨b2, c2, e, hcs⟩ := hv
  cases e
  cases ps with
  | nil => exact (Go.Proofs.Any.strings_Join_none lays156 join_extra b c ⟨#[a]⟩ w).mono fun e w' ⟨he, hw⟩ => ⟨he, hw ▸ Below.refl _ _⟩
  | cons l r =>
    obtain ⟨bk, o, rfl, -, hl⟩ := hcs 0 l rfl
    have hm : ((l :: r).map fun l => (⟨l.toArray⟩ : ByteArray)).map (·.data.toList) = l :: r := by simp [Function.comp_def]
    have h := Go.Proofs.Any.strings_Join lays156 join_extra bk o c ((l :: r).map fun l => (⟨l.toArray⟩ : ByteArray)) ⟨#[a]⟩ w (fun j x hx => by
      rw [List.getElem?_map] at hx
      cases hj : (l :: r)[j]? with
      | none => rw [hj] at hx; cases hx
      | some y =>
        rw [hj] at hx
        cases hx
        obtain ⟨bk2, o2, e2, -, hl2⟩ := hcs j y hj
        cases e2
        exact hl2) (block_lt_of_cell hl) (by simp at hn ⊢; omega) (by simpa using hc) (by rw [hm]; show (Lib.join (l :: r) [a]).length ≤ _; omega)
    rw [hm] at h
    simp only [List.length_map] at h
    exact h.mono fun e w' h => h

end Go.Proofs.YteghdepedlaneaaDoor
