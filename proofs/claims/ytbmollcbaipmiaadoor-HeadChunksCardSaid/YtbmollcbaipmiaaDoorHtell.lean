/- What head's own calls do: Tell, stopIfNoneLeft, tell. -/
import Derived.Test.YtbmollcbaipmiaaDoorItell
import Derived.Test.YtbmollcbaipmiaaDoorIfeedb
namespace Go.Proofs.YtbmollcbaipmiaaDoor
open Go.RowKit

/-- Head: what is its own. -/
def headT : Teller Nat := fun u x => (u - 1, [(0, x ++ [10])], decide (u - 1 = 0))
def headM : LM Nat where
  T := 86
  F := 30
  piece _ := .nilFunc
  ext _ u X rest _ := rest = [.int .i64 u] ∧ ∀ k, ¬ X k
  tell := headT
  good u := 1 ≤ u ∧ u ≤ 1000000000
  quiet := false
  base := 0
  extBase _ _ _ _ _ _ := Nat.zero_le _
  extKeep _ _ _ _ _ _ _ h _ _ := h
  extOld _ _ _ _ _ h k hk := absurd hk (h.2 k)
/-- Head's own blocks: its one block. -/
def noX : Nat → Prop := fun _ => False
theorem noX_of {X : Nat → Prop} (h : ∀ k, ¬ X k) : X = noX := funext fun k => propext ⟨fun hk => h k hk, fun hk => hk.elim⟩
def headRow (nd : Int) (f : Bool) (b : List UInt8) (g u : Nat) : Array Value := rowA [.int .i64 nd, .nilFunc] f b [.func (.func 30) #[.pointer (some ⟨g, 0, none⟩)] #[], .nilFunc, .int .i64 u]
theorem head_heap {g : Nat} {nd : Int} {f : Bool} {b : List UInt8} {u : Nat} {X : Nat → Prop} {w : World} (h : headM.RepN g nd f b u X w) : w.heap[g]? = some (.cells (headRow nd f b g u) 86 (0, 0)) ∧ X = noX ∧ b.length ≤ 64 ∧ (f = true → b = []) := by
  obtain ⟨rest, h, rfl, hX⟩ := h
  exact ⟨h.heap, noX_of hX, h.le, h.fail⟩
theorem head_of {g : Nat} {nd : Int} {f : Bool} {b : List UInt8} {u : Nat} {w : World} (h : w.heap[g]? = some (.cells (headRow nd f b g u) 86 (0, 0))) (hb : b.length ≤ 64) (hf : f = true → b = []) : headM.RepN g nd f b u noX w :=
  ⟨_, ⟨h, rfl, hb, hf⟩, rfl, fun _ h => h⟩
theorem head_enters : Enters headM.F := fun args w => by
  show (callFunc 30 args).run Tryd.prog w = _
  simp [callFunc, go_sem, Tryd.func30]
  rfl

theorem row_left (pre : List Value) (h1 : pre.length = 2) (f : Bool) (b : List UInt8) (hb : b.length ≤ 64) (fn z x y : Value) : (rowA pre f b [fn, z, x]).setIfInBounds 70 y = rowA pre f b [fn, z, y] := by
  simp only [rowA, List.setIfInBounds_toArray]
  rw [List.set_append_right _ _ (by simp [length_splL hb]; omega)]
  simp [length_splL hb, h1]

set_option maxRecDepth 100000 in
set_option maxHeartbeats 1000000 in
theorem stopIf_any {g : Nat} {u : Nat} {n : Int} {w : World} (hu : w.cell? ⟨g, 70, none⟩ = some (.int .i64 u)) (hn : w.cell? ⟨g, 0, none⟩ = some (.int .i64 n)) (hz : w.frozen? ⟨g, 0, none⟩ = false) :
    Calls Tryd.prog 31 #[.pointer (some ⟨g, 0, none⟩)] w fun e w' => e = .returned (.tuple #[]) ∧ w' = if u = 0 then w.setCell ⟨g, 0, none⟩ (.int .i64 (-1)) else w := by
  have HN := Lib.hid hn
  have HZ := Lib.hid hz
  clear hn hz
  by_cases h0 : u = 0
  · subst h0
    rw [if_pos rfl]
    go_enter Tryd.func31, Tryd.ntmps31
    go_wp2_with fail
    refine (stop_any HN.out HZ.out).mono ?_
    rintro e w' ⟨rfl, rfl⟩
    go_wp2_with fail
    go_returns
    exact ⟨rfl, rfl⟩
  · rw [if_neg h0]
    have g1 : ((u : Int) == 0) = false := by simpa using h0
    clear h0
    go_enter Tryd.func31, Tryd.ntmps31
    go_wp2_with fail
    go_returns
    exact ⟨rfl, rfl⟩

set_option maxRecDepth 100000 in
set_option maxHeartbeats 2000000 in
theorem head_tells (g : Nat) : headM.Tells g := by
  intro s X x w h hl hb hx
  obtain ⟨hf, hg1, hg2⟩ := h.live hl
  obtain ⟨hheap, rfl, -, -⟩ := head_heap h.repN
  obtain ⟨live, fail, b, u⟩ := s
  simp only at hl hb hf hg1 hg2 hheap
  subst hl hb hf
  show Calls Tryd.prog 30 #[.pointer (some ⟨g, 0, none⟩), strV x] w fun e w' => ∃ v X', e = .returned v ∧ OwnOuts w.heap.size w' v [(0, x ++ [10])] ∧ headM.Rep g ⟨!decide (u - 1 = 0), false, [], u - 1⟩ X' w' ∧ (∀ k, X' k → noX k) ∧ (∀ k, X' k → noX k ∨ w.heap.size ≤ k) ∧ Frame (headM.own g noX) w w'
  have hleft : w.cell? ⟨g, 70, none⟩ = some (.int .i64 u) := by rw [cell_of_row _ _ _ _ _ _ hheap]; rfl
  have hzl : w.frozen? ⟨g, 70, none⟩ = false := h.repN.froz 70
  have hlt := h.repN.lt
  have h1 : (w.setCell ⟨g, 70, none⟩ (.int .i64 ((u : Int) - 1))).heap[g]? = some (.cells (rowA [.int .i64 0, .nilFunc] false [] [.func (.func 30) #[.pointer (some ⟨g, 0, none⟩)] #[], .nilFunc, .int .i64 ((u : Int) - 1)]) 86 (0, 0)) := by
    rw [setCell_row hheap]
    have := row_left [.int .i64 0, .nilFunc] rfl false [] (by simp) (.func (.func 30) #[.pointer (some ⟨g, 0, none⟩)] #[]) .nilFunc (.int .i64 u) (.int .i64 ((u : Int) - 1))
    show some (Obj.cells ((rowA [.int .i64 0, .nilFunc] false [] [.func (.func 30) #[.pointer (some ⟨g, 0, none⟩)] #[], .nilFunc, .int .i64 u]).setIfInBounds 70 (.int .i64 ((u : Int) - 1))) _ _) = _
    rw [this]
  have hcast : ((u : Int) - 1) = ((u - 1 : Nat) : Int) := by omega
  rw [hcast] at h1
  have H1 := Lib.hid h1
  have HC := Lib.hid hcast
  have hf1 := Frame.cell w ⟨g, 70, none⟩ (.int .i64 ((u - 1 : Nat) : Int))
  have HF1 := Lib.hid hf1
  have hsz : (w.setCell ⟨g, 70, none⟩ (.int .i64 ((u - 1 : Nat) : Int))).heap.size = w.heap.size := by simp [World.setCell]
  have HSZ := Lib.hid hsz
  obtain ⟨S, hS⟩ : ∃ S : ByteArray, strV x = .string S := ⟨_, rfl⟩
  rw [hS]
  have HS := Lib.hid hS
  have q1 : (1 : Int) ≤ (u : Int) := by omega
  have q2 : (u : Int) ≤ 1000000000 := by omega
  have HXL := Lib.hid hx
  clear h h1 hf1 hsz hS hcast hx hheap
  go_enter Tryd.func30, Tryd.ntmps30
  go_wp2_with fail
  rw [HC.out]
  have hh := H1.out
  have hff := HF1.out
  have hss := HSZ.out
  generalize w.setCell ⟨g, 70, none⟩ (.int .i64 ((u - 1 : Nat) : Int)) = W1 at hh hff hss ⊢
  have HH := Lib.hid hh
  have HFF := Lib.hid hff
  have HSS := Lib.hid hss
  clear hh hff hss H1 HF1 HSZ hleft hzl
  have hcl : W1.cell? ⟨g, 70, none⟩ = some (.int .i64 ((u - 1 : Nat) : Int)) := by rw [cell_of_row _ _ _ _ _ _ HH.out]; rfl
  have hcn : W1.cell? ⟨g, 0, none⟩ = some (.int .i64 0) := by rw [cell_of_row _ _ _ _ _ _ HH.out]; rfl
  have hfn : W1.frozen? ⟨g, 0, none⟩ = false := by simp [World.frozen?, HH.out]
  refine (stopIf_any hcl hcn hfn).mono ?_
  clear hcl hcn hfn
  rintro e w2 ⟨rfl, hw2⟩
  have hR : headM.Rep g ⟨!decide (u - 1 = 0), false, [], u - 1⟩ noX w2 ∧ Frame (· = g) W1 w2 := by
    have h0' : headM.RepN g 0 false [] (u - 1) noX W1 := head_of HH.out (by simp) (fun h => by cases h)
    by_cases h0 : u - 1 = 0
    · rw [if_pos h0] at hw2
      subst hw2
      rw [decide_eq_true h0]
      exact ⟨⟨h0'.setNeed (-1), fun h => by cases h⟩, Frame.cell _ ⟨g, 0, none⟩ _⟩
    · rw [if_neg h0] at hw2
      subst hw2
      rw [decide_eq_false h0]
      exact ⟨⟨h0', fun _ => ⟨rfl, by show 1 ≤ u - 1 ∧ u - 1 ≤ 1000000000; omega⟩⟩, Frame.refl _ _⟩
  clear hw2
  have HR := Lib.hid hR
  clear hR
  go_wp2_with fail
  refine (tellOut_any 0 _ x _ (text_new w2 x S HS.out (0, 0)) HXL.out).mono ?_
  rintro e w3 ⟨v, rfl, ho, hb⟩
  have HO := Lib.hid ho
  have HB := Lib.hid hb
  clear ho hb
  go_wp2_with fail
  go_ret
  have hb3 : Below w2.heap.size w2 w3 := ((Below.refl w2.heap.size w2).alloc (Nat.le_refl _) _).trans (HB.out.mono (by simp))
  refine ⟨v, noX, rfl, HO.out.mono ?_, HR.out.1.frame (Below.toFrame hb3 fun _ => False) (fun _ _ h => h), fun _ h => h, fun _ h => .inl h, ((HFF.out.trans HR.out.2).trans (Below.toFrame hb3 _)).mono (fun _ _ h => .inl h)⟩
  have := HR.out.2.size
  have := HSS.out
  simp
  omega

end Go.Proofs.YtbmollcbaipmiaaDoor
