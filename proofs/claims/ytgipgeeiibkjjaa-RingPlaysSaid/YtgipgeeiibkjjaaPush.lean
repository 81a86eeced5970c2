/- What Push does, of every ring that may be and every slice of bytes. -/
import Derived.Test.YtgipgeeiibkjjaaBytes
import Derived.Deep.Cut
import Derived.Deep.DeepCutAuto
namespace Go.Proofs.Ytgipgeeiibkjjaa
open Go.RowKit

/-- A ring whose count is told apart. -/
def ringN (c n : Nat) (L : Chunks) : Array Value := (.int .i64 c :: .int .i64 n :: cellsL L : List Value).toArray
def cell0 (n : Nat) : Array Value := (.int .i64 n :: List.replicate 32 (.int .u8 0) : List Value).toArray

theorem cell0_copy (b : List UInt8) : ((cell0 b.length).toList.take 1 ++ (bytesL b ++ (cell0 b.length).toList.drop (1 + (bytesL b).length))).toArray = (cellL b).toArray := by
  have e : (cell0 b.length).toList = Value.int .i64 b.length :: List.replicate 32 (.int .u8 0) := rfl
  rw [length_bytesL, Nat.add_comm 1, e, List.drop_succ_cons, List.drop_replicate]
  rfl
theorem one_cell0 (n : Nat) : (cell0 n).all (·.oneCell') = true := by
  refine all_oneCell_toArray fun v hv => ?_
  rcases List.mem_cons.1 hv with rfl | hv
  · rfl
  · rw [(List.mem_replicate.1 hv).2]; rfl
theorem size_cell0 (n : Nat) : (cell0 n).size = 33 := by simp [cell0]
theorem size_cellL (b : List UInt8) (h : b.length ≤ 32) : (cellL b).toArray.size = 33 := by simp [length_cellL b h]

theorem cellsL_parts (L : Chunks) (h : L.length < 8) : cellsL L = L.flatMap cellL ++ (cellL [] ++ (List.replicate (7 - L.length) []).flatMap cellL) := by
  unfold cellsL
  rw [show 8 - L.length = (7 - L.length) + 1 by omega, List.replicate_succ, List.flatMap_append, List.flatMap_cons]
theorem cellsL_snoc (L : Chunks) (b : List UInt8) : cellsL (L ++ [b]) = L.flatMap cellL ++ (cellL b ++ (List.replicate (7 - L.length) []).flatMap cellL) := by
  unfold cellsL
  rw [List.length_append, List.length_singleton, show 8 - (L.length + 1) = 7 - L.length by omega, List.append_assoc, List.flatMap_append, List.flatMap_append]
  simp

theorem take_drop_mid {α : Type} (A M X R : List α) (n : Nat) (hA : A.length = n) (hM : M.length = X.length) :
    (A ++ (M ++ R)).take n ++ X ++ (A ++ (M ++ R)).drop (n + X.length) = A ++ (X ++ R) := by
  subst hA
  rw [List.take_left, ← hM, List.drop_append, List.drop_of_length_le (by omega), Nat.add_sub_cancel_left]
  simp

theorem push_splice (c : Nat) (L : Chunks) (b : List UInt8) (hG : Good c L) (h : L.length < 8) (hb : b.length ≤ 32) :
    ((ringA c L).toList.take (2 + L.length * 33) ++ (cellL b).toArray.toList ++ (ringA c L).toList.drop (2 + L.length * 33 + (cellL b).toArray.size)).toArray = ringN c L.length (L ++ [b]) := by
  have e : (ringA c L).toList = (.int .i64 c :: .int .i64 L.length :: L.flatMap cellL) ++ (cellL [] ++ (List.replicate (7 - L.length) []).flatMap cellL) := by
    simp [ringA, ringL, cellsL_parts L h]
  have := take_drop_mid (.int .i64 c :: .int .i64 L.length :: L.flatMap cellL) (cellL []) (cellL b) ((List.replicate (7 - L.length) []).flatMap cellL) (2 + L.length * 33)
    (by simp only [List.length_cons, length_flat L hG.le]; omega) (by rw [length_cellL b hb, length_cellL [] (by simp)])
  rw [e, List.size_toArray, this]
  simp [ringN, cellsL_snoc]
theorem ringN_set1 (c n : Nat) (L : Chunks) (h : L.length = n + 1) : (ringN c n L).setIfInBounds 1 (.int .i64 ((n : Int) + 1)) = ringA c L := by
  simp [ringN, ringA, ringL, h]
theorem ringN_1 (c n : Nat) (L : Chunks) : (ringN c n L)[1]? = some (.int .i64 n) := by simp [ringN]
theorem Good.push {c : Nat} {L : Chunks} (h : Good c L) {b : List UInt8} (hl : L.length < c) (h1 : 1 ≤ b.length) (h2 : b.length ≤ 32) : Good c (L ++ [b]) :=
  ⟨h.cap, by simp; omega, fun x hx => by
    rcases List.mem_append.1 hx with hx | hx
    · exact h.each x hx
    · rw [List.mem_singleton.1 hx]; exact ⟨h1, h2⟩⟩
theorem Try.size5 : (Try.prog.info? 5).map (·.size) = some 1 := by kernel_rfl

/-- A struct that is built of one part, under a name of one's own. -/
theorem wpList_build1 {P : Program} {ops : Array Oper} {rest : List Oper} {o : Oper} {a : Act} {w : World} {Q : Exit → Act → World → Prop} (hgd : o.guard = none) (t : TypeId) (i : Nat) (x : Operand) (ho : o.op = .build t #[(i, x)])
    (v : Value) (hx : a.eval x = v) (cells : Array Value) (hf : P.built t [(i, v)] = some cells)
    (h : wpList P ops Q rest (a.put o.dst (.agg cells)) w) : wpList P ops Q (o :: rest) a w := by
  have hf' : P.built t ((#[(i, x)] : Array (Nat × Operand)).map fun (i, x) => (i, a.eval x)).toList = some cells := by simpa [hx] using hf
  exact wpList_build hgd t _ ho (by rw [hf']; rfl) (by rw [hf']; exact h)

/-- A whole value into the block that was made last but one. -/
theorem wpList_store_prev {P : Program} {ops : Array Oper} {rest : List Oper} {o : Oper} {a : Act} {w : World} {Q : Exit → Act → World → Prop} (hgd : o.guard = none) (ty : TypeId) (x y : Operand) (ho : o.op = .store ty x y)
    (cells old : Array Value) (t : TypeId) (o2 : Obj) (g : Nat) (hw : w.heap.size = g) (hx : a.eval x = .pointer (some ⟨g, 0, none⟩)) (hy : a.eval y = .agg cells)
    (n : Nat) (hi : (P.info? ty).map (·.size) = some n) (hc : cells.size = n) (hold : old.size = n) (h1 : cells.all (·.oneCell') = true)
    (h : wpList P ops Q rest (a.put o.dst undef) ((w.alloc (.cells cells t)).alloc o2)) : wpList P ops Q (o :: rest) a ((w.alloc (.cells old t)).alloc o2) := by
  subst hw
  refine wpList_store_row hgd ty x y ho w.heap.size cells hx hy t old (heap_alloc2_old w _ _) (by rw [hi, hc]) (by rw [hold, hc]) h1 ?_
  rw [setRow_alloc_old _ _ _ _ (by simp), World.setRow_alloc_new]
  exact h
theorem heap_first3 (w : World) (o1 o2 o3 : Obj) : (((w.alloc o1).alloc o2).alloc o3).heap[w.heap.size]? = some o1 := by
  rw [Below.heap_alloc _ _ _ (by simp; omega)]
  exact heap_alloc2_old w _ _
theorem heap_second3 (w : World) (o1 o2 o3 : Obj) : (((w.alloc o1).alloc o2).alloc o3).heap[w.heap.size + 1]? = some o2 := by
  rw [Below.heap_alloc _ _ _ (by simp)]
  exact heap_alloc2_new w _ _

set_option maxRecDepth 100000 in
set_option maxHeartbeats 800000 in
theorem push_yes (c : Nat) (L : Chunks) (ad : Addr) (n cap : Nat) (bs : List UInt8) (w : World) (hG : Good c L) (hn : n = bs.length) (hB : ∀ j x, bs[j]? = some x → w.cell? (ad.add j) = some (.int .u8 x.toNat))
    (h1 : 1 ≤ n) (h2 : n ≤ 32) (hl : L.length < c) :
    Calls Try.prog 12 #[.agg (ringA c L), .slice (some ad) n cap] w fun e w' => e = .returned (.tuple #[.agg (ringA c (L ++ [bs])), .int .i64 0]) ∧ Below w.heap.size w w' := by
  have r0 := ringA_0 c L
  have r1 := ringA_1 c L
  have hz := Try.zero30
  have h8 := hG.cap
  have g1 : ¬ ((n : Int) < 1) := by omega
  have g2 : ¬ ((32 : Int) < n) := by omega
  have g3 : ((c : Int) == 0) = false := by simp; omega
  have g4 : ((L.length : Int) == (c : Int)) = false := by simp; omega
  have g5 : (L.length : Int) < 8 := by omega
  have g6 : (0 : Int) ≤ (L.length : Int) := by omega
  have hs1 := ringN_set1 c L.length (L ++ [bs]) (by simp)
  have rn1 := ringN_1 c L.length (L ++ [bs])
  have hG' : Good c (L ++ [bs]) := hG.push hl (by omega) (by omega)
  have HN := Lib.hid hn
  clear hn
  go_enter Try.func12, Try.ntmps12
  go_wp2_with (first
    | (with_reducible refine wpList_build1 rfl 27 0 (.tmp 28) rfl (.int .i64 n) rfl (cell0 n) (Try.built27 n) ?_)
    | (with_reducible refine wpList_store_at rfl 27 (.tmp 6) (.tmp 29) rfl (cell0 n) _ 27 (w.heap.size + 1 + 1) (by simp) rfl rfl 33 Try.size27 (size_cell0 n) (by simp) (one_cell0 n) ?_)
    | (with_reducible refine wpList_copy_last rfl (.tmp 31) (.tmp 32) 42 42 rfl 5 Try.underlying42 Try.size5 (w.heap.size + 1 + 1) 1 32 32 (by simp) ad n cap rfl rfl (cell0 n) (cellL bs).toArray 27 (bytesL bs) ?c1 ?c2 (by rw [length_bytesL, ← HN.out, size_cell0]; omega) (one_bytesL bs) (by rw [HN.out]; exact cell0_copy bs) ?_)
    | (with_reducible refine wpList_load_row rfl 27 (.tmp 6) rfl (w.heap.size + 1 + 1) rfl 27 (cellL bs).toArray (0, 0) _ (heap_at (by simp)) Try.underlying27 rfl (by rw [Try.size27, size_cellL bs (by rw [← HN.out]; exact h2)]) ?_)
    | (with_reducible refine wpList_store_first3 rfl 27 (.tmp 38) (.tmp 36) rfl (2 + L.length * 33) (cellL bs).toArray (ringA c L) (ringN c L.length (L ++ [bs])) 30 _ _ rfl rfl 33 Try.size27 (size_cellL bs (by rw [← HN.out]; exact h2)) ?c3 (all_oneCell_toArray (one_cellL bs)) (push_splice c L bs hG (by omega) (by rw [← HN.out]; exact h2)) ?_)
    | (with_reducible refine wpList_load_row rfl 30 (.tmp 2) rfl w.heap.size rfl 30 (ringA c (L ++ [bs])) (0, 0) _ (heap_first3 w _ _ _) Try.underlying30 rfl (by rw [Try.size30, size_ringA hG']) ?_)
    | (with_reducible refine wpList_store_prev rfl 30 (.tmp 4) (.tmp 43) rfl (ringA c (L ++ [bs])) (ringA 0 []) 30 _ (w.heap.size + 1) (by simp) rfl rfl 266 Try.size30 (size_ringA hG') size_zero (one_ringA _ _) ?_))
  case c1 => rw [length_bytesL, HN.out]
  case c2 =>
    intro j v hv
    obtain ⟨x, hx, rfl⟩ := bytesL_get hv
    exact cell_below (((Below.refl _ _).alloc (Nat.le_refl _) _).alloc (by simp) _) (hB j x hx)
  case c3 => rw [size_ringA hG, length_cellL bs (by rw [← HN.out]; exact h2)]; omega
  exact ret_ring rfl rfl rfl (heap_second3 w _ _ _) (size_ringA hG') ⟨rfl, (((Below.refl _ _).alloc (Nat.le_refl _) _).alloc (by simp) _).alloc (by simp; omega) _⟩

end Go.Proofs.Ytgipgeeiibkjjaa
