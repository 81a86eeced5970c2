/- What head's own calls do: Tell, stopIfNoneLeft, tell. -/
import Derived.Test.YtfdgkjmdbcehiaaDoorIfeedb
import Derived.Laws.OwnMore
namespace Go.Proofs.YtfdgkjmdbcehiaaDoor
open Go.RowKit

def TellsOut (w : World) (L : Outs) (e : Ending) (w' : World) : Prop := ∃ v, e = .returned v ∧ OwnOuts w.heap.size w' v L ∧ Below w.heap.size w w'

set_option maxRecDepth 100000 in
set_option maxHeartbeats 1000000 in
theorem tellOut_any (port : Nat) (v : Value) (x : List UInt8) (w : World) (hT : IsTexts (fun _ => True) w v [x]) (hx : x.length ≤ 64) :
    Calls Tryd.prog 39 #[.int .i64 port, v] w (TellsOut w [(port, x ++ [10])]) := by
  have HT := Lib.hid hT
  obtain ⟨y, hy⟩ : ∃ y, y = x ++ [10] := ⟨_, rfl⟩
  rw [← hy]
  have hj : joinL [x] = y := by rw [hy]; simp [joinL]
  have hyl : y.length ≤ 65 := by rw [hy]; simp; omega
  have HJ := Lib.hid hj
  clear hT hj hy
  go_enter Tryd.func39, Tryd.ntmps39
  go_wp2_with fail
  refine (join_any v [x] w HT.out (by simp) (by rw [HJ.out]; omega)).mono ?_
  rintro e w1 ⟨bv, rfl, ho, hb⟩
  rw [HJ.out] at ho
  obtain ⟨a, c, rfl⟩ := owns_slice ho
  have HO := Lib.hid ho
  have HB := Lib.hid hb
  clear ho hb
  go_wp2_with fail
  go_ret
  refine ⟨_, rfl, ⟨[((port, y), .slice a y.length c)], rfl, World.ownsRow_lit w1 #[.int .i64 port, .slice a y.length c] 1 HB.out.size (by decide) rfl, ?_⟩, HB.out.alloc HB.out.size _⟩
  intro t ht
  rw [List.mem_singleton.1 ht]
  have h1 := isBytes_of_owns HO.out
  refine ((h1.mono (q := fun k => w.heap.size ≤ k ∧ k < w1.heap.size) (fun k hk h => ⟨h, hk⟩)).below ((Below.refl _ _).alloc (Nat.le_refl _) _)).mono (fun k _ h => ⟨h.1, ?_⟩)
  simp [Value.ownBlock]
  omega

/-- Head: what is its own. -/
def headT : Teller Nat := fun u x => (u - 1, [(0, x ++ [10])], decide (u - 1 = 0))
def headM : LM Nat where
  T := 77
  F := 26
  rest u := [.int .i64 u]
  tell := headT
  good u := 1 ≤ u ∧ u ≤ 1000000000
theorem head_enters : Enters headM.F := fun args w => by
  show (callFunc 26 args).run Tryd.prog w = _
  simp [callFunc, go_sem, Tryd.func26]
  rfl

theorem head_left {g : Nat} {s : LS Nat} {w : World} (h : headM.Rep g s w) : w.cell? ⟨g, 68, none⟩ = some (.int .i64 s.u) := by
  rw [cell_of_row _ _ _ _ _ _ h.spl.heap]
  simp only [rowA, List.getElem?_toArray]
  rw [List.getElem?_append_right (by simp [length_splL h.spl.le])]
  simp [length_splL h.spl.le, LM.post, headM]
theorem row_left (pre : List Value) (h1 : pre.length = 1) (f : Bool) (b : List UInt8) (hb : b.length ≤ 64) (fn x y : Value) : (rowA pre f b [fn, x]).setIfInBounds 68 y = rowA pre f b [fn, y] := by
  simp only [rowA, List.setIfInBounds_toArray]
  rw [List.set_append_right _ _ (by simp [length_splL hb]; omega)]
  simp [length_splL hb, h1]

set_option maxRecDepth 100000 in
set_option maxHeartbeats 1000000 in
theorem stopIf_any {g : Nat} {u : Nat} {n : Int} {w : World} (hu : w.cell? ⟨g, 68, none⟩ = some (.int .i64 u)) (hn : w.cell? ⟨g, 0, none⟩ = some (.int .i64 n)) (hz : w.frozen? ⟨g, 0, none⟩ = false) :
    Calls Tryd.prog 27 #[.pointer (some ⟨g, 0, none⟩)] w fun e w' => e = .returned (.tuple #[]) ∧ w' = if u = 0 then w.setCell ⟨g, 0, none⟩ (.int .i64 (-1)) else w := by
  have HN := Lib.hid hn
  have HZ := Lib.hid hz
  clear hn hz
  by_cases h0 : u = 0
  · subst h0
    rw [if_pos rfl]
    go_enter Tryd.func27, Tryd.ntmps27
    go_wp2_with fail
    refine (stop_any HN.out HZ.out).mono ?_
    rintro e w' ⟨rfl, rfl⟩
    go_wp2_with fail
    go_returns
    exact ⟨rfl, rfl⟩
  · rw [if_neg h0]
    have g1 : ((u : Int) == 0) = false := by simpa using h0
    clear h0
    go_enter Tryd.func27, Tryd.ntmps27
    go_wp2_with fail
    go_returns
    exact ⟨rfl, rfl⟩

/-- A text in memory that was just made. -/
theorem text_new (w : World) (x : List UInt8) (S : ByteArray) (hS : strV x = .string S) (m : Nat × Nat) : IsTexts (fun _ => True) (w.alloc (.cells #[.string S] 9 m)) (.slice (some ⟨w.heap.size, 0, none⟩) 1 1) [x] := by
  refine ⟨_, 1, rfl, fun j c hj => ⟨_, _, rfl, trivial, ?_⟩⟩
  match j, hj with
  | 0, hj =>
    simp at hj
    subst hj
    rw [hS, Nat.zero_add, cell_of_row _ _ _ _ _ _ (heap_alloc_last w _)]
    rfl
  | j + 1, hj => simp at hj

set_option maxRecDepth 100000 in
set_option maxHeartbeats 2000000 in
theorem head_tells (g : Nat) : headM.Tells g := by
  intro s x w h hl hb hx
  obtain ⟨hf, hg1, hg2⟩ := h.live hl
  obtain ⟨live, fail, b, u⟩ := s
  simp only at hl hb hf hg1 hg2
  subst hl hb hf
  show Calls Tryd.prog 26 #[.pointer (some ⟨g, 0, none⟩), strV x] w fun e w' => ∃ v, e = .returned v ∧ OwnOuts w.heap.size w' v [(0, x ++ [10])] ∧ headM.Rep g ⟨!decide (u - 1 = 0), false, [], u - 1⟩ w' ∧ Frame (· = g) w w'
  have hleft := head_left h
  simp only at hleft
  have hzl : w.frozen? ⟨g, 68, none⟩ = false := by simp [World.frozen?, h.spl.heap]
  have hlt := h.spl.lt
  have h1 : (w.setCell ⟨g, 68, none⟩ (.int .i64 ((u : Int) - 1))).heap[g]? = some (.cells (rowA [.int .i64 0] false [] [.func (.func 26) #[.pointer (some ⟨g, 0, none⟩)] #[], .int .i64 ((u : Int) - 1)]) 77 (0, 0)) := by
    rw [setCell_row h.spl.heap]
    have := row_left [.int .i64 (needOf ⟨true, false, [], u⟩)] rfl false [] (by simp) (.func (.func 26) #[.pointer (some ⟨g, 0, none⟩)] #[]) (.int .i64 u) (.int .i64 ((u : Int) - 1))
    rw [show (headM.post g u) = [.func (.func 26) #[.pointer (some ⟨g, 0, none⟩)] #[], .int .i64 u] from rfl, this]
    rfl
  have hcast : ((u : Int) - 1) = ((u - 1 : Nat) : Int) := by omega
  rw [hcast] at h1
  have H1 := Lib.hid h1
  have HC := Lib.hid hcast
  have hf1 := Frame.cell w ⟨g, 68, none⟩ (.int .i64 ((u - 1 : Nat) : Int))
  have HF1 := Lib.hid hf1
  have hsz : (w.setCell ⟨g, 68, none⟩ (.int .i64 ((u - 1 : Nat) : Int))).heap.size = w.heap.size := by simp [World.setCell]
  have HSZ := Lib.hid hsz
  obtain ⟨S, hS⟩ : ∃ S : ByteArray, strV x = .string S := ⟨_, rfl⟩
  rw [hS]
  have HS := Lib.hid hS
  have q1 : (1 : Int) ≤ (u : Int) := by omega
  have q2 : (u : Int) ≤ 1000000000 := by omega
  have HXL := Lib.hid hx
  clear h h1 hf1 hsz hS hcast hx
  go_enter Tryd.func26, Tryd.ntmps26
  go_wp2_with fail
  rw [HC.out]
  have hh := H1.out
  have hff := HF1.out
  have hss := HSZ.out
  generalize w.setCell ⟨g, 68, none⟩ (.int .i64 ((u - 1 : Nat) : Int)) = W1 at hh hff hss ⊢
  have HH := Lib.hid hh
  have HFF := Lib.hid hff
  have HSS := Lib.hid hss
  clear hh hff hss H1 HF1 HSZ hleft hzl
  have hcl : W1.cell? ⟨g, 68, none⟩ = some (.int .i64 ((u - 1 : Nat) : Int)) := by rw [cell_of_row _ _ _ _ _ _ HH.out]; rfl
  have hcn : W1.cell? ⟨g, 0, none⟩ = some (.int .i64 0) := by rw [cell_of_row _ _ _ _ _ _ HH.out]; rfl
  have hfn : W1.frozen? ⟨g, 0, none⟩ = false := by simp [World.frozen?, HH.out]
  refine (stopIf_any hcl hcn hfn).mono ?_
  clear hcl hcn hfn
  rintro e w2 ⟨rfl, hw2⟩
  have hR : headM.Rep g ⟨!decide (u - 1 = 0), false, [], u - 1⟩ w2 ∧ Frame (· = g) W1 w2 := by
    by_cases h0 : u - 1 = 0
    · rw [if_pos h0] at hw2
      subst hw2
      rw [decide_eq_true h0]
      refine ⟨⟨⟨?_, rfl, by simp, fun h => by cases h⟩, fun h => by cases h⟩, Frame.cell _ ⟨g, 0, none⟩ _⟩
      rw [setCell_row HH.out, rowA_need]
      rfl
    · rw [if_neg h0] at hw2
      subst hw2
      rw [decide_eq_false h0]
      exact ⟨⟨⟨HH.out, rfl, by simp, fun h => by cases h⟩, fun _ => ⟨rfl, by show 1 ≤ u - 1 ∧ u - 1 ≤ 1000000000; omega⟩⟩, Frame.refl _ _⟩
  clear hw2
  have HR := Lib.hid hR
  clear hR
  go_wp2_with fail
  refine (tellOut_any 0 _ x _ (text_new w2 x S HS.out (0, 0)) HXL.out).mono ?_
  rintro e w3 ⟨v, rfl, ho, hb⟩
  have HO := Lib.hid ho
  have HB := Lib.hid hb
  clear ho hb
  go_wp2_with fail
  go_ret
  have hb3 : Below w2.heap.size w2 w3 := ((Below.refl w2.heap.size w2).alloc (Nat.le_refl _) _).trans (HB.out.mono (by simp))
  refine ⟨v, rfl, HO.out.mono ?_, HR.out.1.frame (Below.toFrame hb3 fun _ => False) (fun h => h), (HFF.out.trans HR.out.2).trans (Below.toFrame hb3 _)⟩
  have := HR.out.2.size
  have := HSS.out
  simp
  omega

end Go.Proofs.YtfdgkjmdbcehiaaDoor
