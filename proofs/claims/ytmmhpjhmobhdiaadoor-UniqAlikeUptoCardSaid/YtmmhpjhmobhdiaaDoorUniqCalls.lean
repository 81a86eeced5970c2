/- What uniq's small calls do: takes, begin, giveUp. -/
import Derived.Test.YtmmhpjhmobhdiaaDoorIend
import Derived.Test.YtmmhpjhmobhdiaaDoorItoa
import Derived.Test.YtmmhpjhmobhdiaaDoorUniqPlain
import Derived.Deep.RegionHeld3
namespace Go.Proofs.YtmmhpjhmobhdiaaDoor
open Go.RowKit

def uniqBase : Nat := 1 + 1
def uniqM (c : Bool) : LM US where
  T := 85
  F := if c = true then 31 else 29
  last := some (if c = true then 32 else 30)
  piece _ := .nilFunc
  ext g u X rest w := rest = [strV u.2, .int .i64 u.1] ∧ (∀ k, ¬ X k) ∧ TenAt w ∧ uniqBase ≤ g
  tell := uniqT c
  good := UOk
  quiet := false
  base := uniqBase
  extKeep _ _ _ _ _ _ _ h hf hp := ⟨h.1, h.2.1, h.2.2.1.frame hf (hp _ (.inr (by decide))), h.2.2.2⟩
  extBase _ _ _ _ _ h := h.2.2.2
  extOld _ _ _ _ _ h k hk := absurd hk (h.2.1 k)
theorem uniq_enters (c : Bool) : Enters (uniqM c).F := by
  cases c
  · exact enters_of Tryd.func29 (by kernel_rfl) (by kernel_rfl)
  · exact enters_of Tryd.func31 (by kernel_rfl) (by kernel_rfl)
def uniqLast (c : Bool) : FuncId := if c = true then 32 else 30
theorem uniq_enters2 (c : Bool) : Enters (uniqLast c) := by
  cases c
  · exact enters_of Tryd.func30 (by kernel_rfl) (by kernel_rfl)
  · exact enters_of Tryd.func32 (by kernel_rfl) (by kernel_rfl)
def uniqRow (c : Bool) (nd : Int) (f : Bool) (b : List UInt8) (g : Nat) (u : US) : Array Value := rowA [.int .i64 nd, .nilFunc] f b [(uniqM c).each g, lastV (uniqM c).last g, strV u.2, .int .i64 u.1]
section
variable {c : Bool} {g : Nat} {nd : Int} {f : Bool} {b : List UInt8} {u : US} {X : Nat → Prop} {w : World}
theorem uniq_heap (h : (uniqM c).RepN g nd f b u X w) : w.heap[g]? = some (.cells (uniqRow c nd f b g u) 85 (0, 0)) ∧ (∀ k, ¬ X k) ∧ TenAt w ∧ uniqBase ≤ g ∧ b.length ≤ 64 ∧ (f = true → b = []) := by
  obtain ⟨rest, h, rfl, hX, hm, hg⟩ := h
  exact ⟨h.heap, hX, hm, hg, h.le, h.fail⟩
theorem uniq_of (h : w.heap[g]? = some (.cells (uniqRow c nd f b g u) 85 (0, 0))) (hb : b.length ≤ 64) (hf : f = true → b = []) (hm : TenAt w) (hg : uniqBase ≤ g) (hX : ∀ k, ¬ X k) : (uniqM c).RepN g nd f b u X w :=
  ⟨_, ⟨h, rfl, hb, hf⟩, rfl, hX, hm, hg⟩
theorem uniq_c70 (h : (uniqM c).RepN g nd f b u X w) : w.cell? ⟨g, 70, none⟩ = some (strV u.2) := by
  obtain ⟨h, -, -, -, hb, -⟩ := uniq_heap h
  rw [cell_of_row _ _ _ _ _ _ h]
  simp only [uniqRow, rowA, List.getElem?_toArray]
  rw [List.getElem?_append_right (by simp [length_splL hb])]
  simp [length_splL hb]
theorem uniq_c71 (h : (uniqM c).RepN g nd f b u X w) : w.cell? ⟨g, 71, none⟩ = some (.int .i64 u.1) := by
  obtain ⟨h, -, -, -, hb, -⟩ := uniq_heap h
  rw [cell_of_row _ _ _ _ _ _ h]
  simp only [uniqRow, rowA, List.getElem?_toArray]
  rw [List.getElem?_append_right (by simp [length_splL hb])]
  simp [length_splL hb]
/-- How many they are is put anew. -/
theorem uniq_put1 (h : (uniqM c).RepN g nd f b u X w) (n : Int) : (uniqM c).RepN g nd f b (n, u.2) X (w.setCell ⟨g, 71, none⟩ (.int .i64 n)) := by
  obtain ⟨h, hX, hm, hg, hb, hf⟩ := uniq_heap h
  refine uniq_of ?_ hb hf (hm.frame (Frame.cell w ⟨g, 71, none⟩ _) (fun e => by have e' : 1 = g := e; unfold uniqBase at hg; omega)) hg hX
  rw [setCell_row h]
  simp only [uniqRow, rowA, List.setIfInBounds_toArray]
  rw [List.set_append_right _ _ (by simp [length_splL hb])]
  simp [length_splL hb]
/-- Both are put anew. -/
theorem uniq_put (h : (uniqM c).RepN g nd f b u X w) (x : List UInt8) (n : Int) : (uniqM c).RepN g nd f b (n, x) X ((w.setCell ⟨g, 70, none⟩ (strV x)).setCell ⟨g, 71, none⟩ (.int .i64 n)) := by
  obtain ⟨h, hX, hm, hg, hb, hf⟩ := uniq_heap h
  have hne : ¬ 1 = g := fun e => by unfold uniqBase at hg; omega
  refine uniq_of ?_ hb hf ((hm.frame (Frame.cell w ⟨g, 70, none⟩ _) hne).frame (Frame.cell _ ⟨g, 71, none⟩ _) hne) hg hX
  rw [setCell_row (setCell_row h _ _)]
  simp only [uniqRow, rowA, List.setIfInBounds_toArray]
  rw [List.set_append_right _ _ (by simp [length_splL hb]), List.set_append_right _ _ (by simp [length_splL hb])]
  simp [length_splL hb]
end

set_option maxRecDepth 100000 in
set_option maxHeartbeats 1000000 in
theorem begin_any (g : Nat) (x : List UInt8) (v70 v71 : Value) (w : World) (c70 : w.cell? ⟨g, 70, none⟩ = some v70) (c71 : w.cell? ⟨g, 71, none⟩ = some v71) (hz : ∀ o, w.frozen? ⟨g, o, none⟩ = false) :
    Calls Tryd.prog 46 #[.pointer (some ⟨g, 0, none⟩), strV x] w fun e w' => e = .returned (.tuple #[]) ∧ w' = (w.setCell ⟨g, 70, none⟩ (strV x)).setCell ⟨g, 71, none⟩ (.int .i64 1) := by
  have z70 := hz 70
  have z71 := hz 71
  obtain ⟨S, hS⟩ : ∃ S : ByteArray, strV x = .string S := ⟨_, rfl⟩
  rw [hS]
  clear hS hz
  go_enter Tryd.func46, Tryd.ntmps46
  go_wp2
  go_returns
  exact ⟨rfl, rfl⟩

set_option maxRecDepth 100000 in
set_option maxHeartbeats 1000000 in
theorem giveUp_any (g : Nat) (v70 v71 : Value) (w : World) (c70 : w.cell? ⟨g, 70, none⟩ = some v70) (c71 : w.cell? ⟨g, 71, none⟩ = some v71) (hz : ∀ o, w.frozen? ⟨g, o, none⟩ = false) :
    Calls Tryd.prog 48 #[.pointer (some ⟨g, 0, none⟩)] w fun e w' => e = .returned (.tuple #[]) ∧ w' = (w.setCell ⟨g, 70, none⟩ (strV [])).setCell ⟨g, 71, none⟩ (.int .i64 0) := by
  have z70 := hz 70
  have z71 := hz 71
  clear hz
  go_enter Tryd.func48, Tryd.ntmps48
  go_wp2
  go_returns
  exact ⟨rfl, rfl⟩

set_option maxRecDepth 100000 in
set_option maxHeartbeats 1000000 in
theorem takes_any (g : Nat) (u : US) (x : List UInt8) (w : World) (c70 : w.cell? ⟨g, 70, none⟩ = some (strV u.2)) (c71 : w.cell? ⟨g, 71, none⟩ = some (.int .i64 u.1)) (hz : ∀ o, w.frozen? ⟨g, o, none⟩ = false) :
    Calls Tryd.prog 45 #[.pointer (some ⟨g, 0, none⟩), strV x] w fun e w' => e = .returned (.bool (alike u x)) ∧ w' = if alike u x = true then w.setCell ⟨g, 71, none⟩ (.int .i64 (wrap64 (u.1 + 1))) else w := by
  have z71 := hz 71
  obtain ⟨A, hA⟩ : ∃ A, A = alike u x := ⟨_, rfl⟩
  rw [← hA]
  obtain ⟨n, y⟩ := u
  simp only at c70 c71 ⊢
  by_cases h0 : n = 0
  · subst h0
    have hA0 : A = false := by rw [hA]; simp [alike]
    subst hA0
    rw [if_neg (by decide)]
    clear c70 hz hA
    go_enter Tryd.func45, Tryd.ntmps45
    go_wp2
    go_ret
    exact ⟨rfl, rfl⟩
  · have q0 : (n == 0) = false := by simpa using h0
    obtain ⟨S, hS⟩ : ∃ S : ByteArray, strV x = .string S := ⟨_, rfl⟩
    obtain ⟨T, hT⟩ : ∃ T : ByteArray, strV y = .string T := ⟨_, rfl⟩
    have hq : (S.toList == T.toList) = decide (x = y) := by
      have e1 : (⟨x.toArray⟩ : ByteArray) = S := by injection hS
      have e2 : (⟨y.toArray⟩ : ByteArray) = T := by injection hT
      rw [← e1, ← e2, Pm.strV_eq]
    rw [hT] at c70
    rw [hS]
    have hA1 : A = decide (x = y) := by rw [hA]; simp [alike, h0]
    cases hd : decide (x = y) with
    | true =>
      rw [hd] at hq hA1
      subst hA1
      rw [if_pos rfl]
      clear hz hd hS hT h0 hA
      go_enter Tryd.func45, Tryd.ntmps45
      go_wp2
      go_ret
      exact ⟨rfl, rfl⟩
    | false =>
      rw [hd] at hq hA1
      subst hA1
      rw [if_neg (by decide)]
      clear hz hd hS hT h0 hA
      go_enter Tryd.func45, Tryd.ntmps45
      go_wp2
      go_ret
      exact ⟨rfl, rfl⟩

end Go.Proofs.YtmmhpjhmobhdiaaDoor
