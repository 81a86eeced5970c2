/- What strconv.Itoa does, whatever the library's table of the powers of ten holds: it answers a text that the number and the table alone settle. -/
import Derived.Test.YtlflhjgfegflfaaDoorItoalays
import Derived.Test.YtlflhjgfegflfaaDoorDdefs
import Derived.Shelf.Strconv.Itoa3
import Derived.RegionTactic
import Derived.Lib.ItoaMem
import Derived.CellFam
namespace Go.Proofs.YtlflhjgfegflfaaDoor
open Go.Shelf Go.RowKit Go.Sort Go.Lib

/-! What is written into a row of sz bytes: pairs from the right; one byte alone at the head of an odd row. -/
def rowG (u sz t : Nat) : UInt8 :=
  if sz % 2 = 1 ∧ t = 0 then UInt8.ofNat (48 + u / 10 ^ (sz - 1))
  else if (sz - t) % 2 = 0 then sm (u / 10 ^ (sz - t - 2) % 100 * 2)
  else sm (u / 10 ^ (sz - t - 1) % 100 * 2 + 1)
def rowC (u sz : Nat) : Array UInt8 := Array.ofFn (n := sz) fun t => rowG u sz t
theorem rowC_size (u sz : Nat) : (rowC u sz).size = sz := by simp [rowC]
theorem rowC_of {u sz : Nat} {d : Array UInt8} (hs : d.size = sz) (h : ∀ t, t < sz → d[t]! = rowG u sz t) : d = rowC u sz := by
  refine Array.ext (by rw [hs, rowC_size]) fun i h1 h2 => ?_
  have := h i (by omega)
  rw [getElem!_pos d i h1] at this
  rw [this]
  simp [rowC]
/-- What the stores keep: the places from nd on are written; v is what is left of u. -/
structure GI (sz u nd v : Nat) (d : Array UInt8) : Prop where
  size : d.size = sz
  le : nd ≤ sz
  par : (sz - nd) % 2 = 0
  rest : v = u / 10 ^ (sz - nd)
  small : v < 10 ^ (nd + 1)
  done : ∀ t, nd ≤ t → t < sz → d[t]! = rowG u sz t
theorem GI.start {d : Array UInt8} {u : Nat} (h : u < 10 ^ (d.size + 1)) : GI d.size u d.size u d :=
  ⟨rfl, Nat.le_refl _, by simp, by simp, h, fun t h1 h2 => by omega⟩
theorem GI.two {sz u k v : Nat} {d : Array UInt8} (h : GI sz u (k + 2) v d) :
    GI sz u k (v / 100) ((d.setIfInBounds (k + 1) (sm (v % 100 * 2 + 1))).setIfInBounds k (sm (v % 100 * 2))) := by
  have hle := h.le
  have hp := h.par
  refine ⟨by simp [h.size], by omega, by omega, ?_, ?_, fun t h1 h3 => ?_⟩
  · rw [h.rest, Nat.div_div_eq_div_mul, show sz - k = sz - (k + 2) + 2 by omega, Nat.pow_add]
  · have hs := h.small
    rw [show k + 2 + 1 = k + 1 + 2 by omega, Nat.pow_add] at hs
    exact Nat.div_lt_of_lt_mul (by rw [Nat.mul_comm]; exact hs)
  · by_cases e2 : t = k
    · rw [e2, get_set_same _ _ _ (by simp [h.size]; omega), rowG, if_neg (by omega), if_pos (by omega), h.rest, show sz - k - 2 = sz - (k + 2) by omega]
    · rw [get_set_other _ _ _ _ e2]
      by_cases e1 : t = k + 1
      · rw [e1, get_set_same _ _ _ (by simp [h.size]; omega), rowG, if_neg (by omega), if_neg (by omega), h.rest, show sz - (k + 1) - 1 = sz - (k + 2) by omega]
      · rw [get_set_other _ _ _ _ e1]
        exact h.done t (by omega) h3
theorem GI.fin0 {sz u v : Nat} {d : Array UInt8} (h : GI sz u 0 v d) : d = rowC u sz := rowC_of h.size fun t ht => h.done t (Nat.zero_le _) ht
theorem GI.fin1 {sz u v : Nat} {d : Array UInt8} (h : GI sz u 1 v d) : d.setIfInBounds 0 (UInt8.ofNat (48 + v)) = rowC u sz := by
  have hle := h.le
  have hp := h.par
  refine rowC_of (by simp [h.size]) fun t ht => ?_
  by_cases e : t = 0
  · rw [e, get_set_same _ _ _ (by simp [h.size]; omega), rowG, if_pos (by omega), h.rest]
  · rw [get_set_other _ _ _ _ e]
    exact h.done t (by omega) ht
theorem GI.lt8 {sz u nd v : Nat} {d : Array UInt8} (h : GI sz u nd v d) (h8 : nd < 8) : v < 100000000 :=
  Nat.lt_of_lt_of_le h.small (Nat.le_trans (Nat.pow_le_pow_right (by decide) (show nd + 1 ≤ 8 by omega)) (by decide))

abbrev byteV (b : UInt8) : Value := Value.int .u8 (b.toNat : Int)
set_option maxRecDepth 100000 in
set_option maxHeartbeats 12800000 in
theorem fmt_any (blk off cap u : Nat) (d : Array UInt8) (w : World) (hH : Holds (fun (b : UInt8) => Value.int .u8 (b.toNat : Int)) w blk off d) (hu : u < 10 ^ (d.size + 1)) (hu64 : u < 18446744073709551616) (hsz : d.size < 100) :
    Calls Tryd.prog 94 #[.slice (some ⟨blk, off, none⟩) d.size cap, .int .u64 u] w fun e w' => e = .returned (.tuple #[]) ∧ ∃ n, w' = (putRow (fun (b : UInt8) => Value.int .u8 (b.toNat : Int)) w blk off (rowC u d.size)).drewN n := by
  have t9 := Tryd.underlying9
  have hstart := GI.start hu
  clear hu
  go_enter Tryd.func94, Tryd.ntmps94
  go_name_bytes SM hSM
  have eSM : SM = Lib.smalls := by rw [← hSM]; decide +kernel
  subst eSM
  clear hSM
  go_wp2
  go_loopw [1, 4] (fun vu vn wr => ∃ (nd v n : Nat) (dk : Array UInt8), vu = .int .u64 v ∧ vn = .int .i64 nd ∧ wr = (putRow (fun (b : UInt8) => Value.int .u8 (b.toNat : Int)) w blk off dk).drewN n ∧ Hid (GI d.size u nd v dk)) (fun _ vn _ => (RowKit.intOf vn).toNat)
  case atStart => exact ⟨d.size, u, 0, d, rfl, rfl, (putRow_self _ _ _ _ _ hH).symm, hstart⟩
  case round =>
    obtain ⟨nd, v, n, dk, rfl, rfl, hw0, HI0⟩ := hrel
    rename World => W0
    have AH := Lib.hid hH
    clear hH hstart
    have hv64 : v < 18446744073709551616 := by have := HI0.out.rest; have := Nat.div_le_self u (10 ^ (d.size - nd)); omega
    have hle := HI0.out.le
    have keep : ∀ (W : World) (n : Nat) (dk : Array UInt8), W = (putRow (fun (b : UInt8) => Value.int .u8 (b.toNat : Int)) w blk off dk).drewN n → dk.size = d.size → ∃ G : Nat → Int, (∀ t, t < d.size → W.cell? ⟨blk, off + t, none⟩ = some (.int .u8 (G t))) ∧ ∀ t, t < d.size → W.frozen? ⟨blk, off + t, none⟩ = false := fun W n dk hW hs => by
      have h : Holds (fun (b : UInt8) => Value.int .u8 (b.toNat : Int)) W blk off dk := by rw [hW]; exact holds_putRow _ w blk off d dk AH.out hs
      exact ⟨fun t => (dk[t]!.toNat : Int), fun t ht => (h t (by omega)).1, fun t ht => (h t (by omega)).2⟩
    have HK := Lib.hid keep
    clear keep
    obtain ⟨G0, hc0, hf0⟩ := HK.out W0 _ _ hw0 HI0.out.size
    have AW0 := Lib.hid hw0
    clear hw0
    by_cases h8 : 8 ≤ nd
    · obtain ⟨m, rfl⟩ : ∃ m, nd = m + 8 := ⟨nd - 8, by omega⟩
      go_wp2
      have HI1 := Lib.hid (GI.two (show GI d.size u (m + 6 + 2) (v) dk from HI0.out))
      go_name_slot 9 x0 hx0
      have hxe0 : x0 = ((v % 100 * 2 : Nat) : Int) := by omega
      have hXa0 : ∀ w, (Instr.index 9 (.string Lib.smalls) (.int .u32 (x0 + 1))).run Tryd.prog w = .ok (.int .u8 ((sm (v % 100 * 2 + 1)).toNat : Int)) w := idx_smalls 9 t9 .u32 _ _ (by omega) (by omega)
      have hXb0 : ∀ w, (Instr.index 9 (.string Lib.smalls) (.int .u32 x0)).run Tryd.prog w = .ok (.int .u8 ((sm (v % 100 * 2)).toNat : Int)) w := idx_smalls 9 t9 .u32 _ _ (by omega) (by omega)
      have hlo0 : 0 ≤ x0 := by omega
      have hhi0 : x0 ≤ 198 := by omega
      clear hx0 hxe0
      go_region
      go_wp2
      go_name_world W1 hW1
      have hw1 : W1 = (putRow (fun (b : UInt8) => Value.int .u8 (b.toNat : Int)) w blk off ((dk.setIfInBounds (m + 6 + 1) (sm (v % 100 * 2 + 1))).setIfInBounds (m + 6) (sm (v % 100 * 2)))).drewN (n + 0 + 1) := by rw [← hW1, AW0.out]; exact store2_world w blk off dk (n + 0) (m + 6 + 1) (m + 6) _ _ (by have := HI0.out.size; omega) (by have := HI0.out.size; omega)
      generalize ((dk.setIfInBounds (m + 6 + 1) (sm (v % 100 * 2 + 1))).setIfInBounds (m + 6) (sm (v % 100 * 2))) = dk1 at hw1 HI1
      clear hW1 hc0 hf0 AW0 HI0 hXa0 hXb0
      obtain ⟨G1, hc1, hf1⟩ := HK.out W1 _ _ hw1 HI1.out.size
      have AW1 := Lib.hid hw1
      clear hw1
      have HI2 := Lib.hid (GI.two (show GI d.size u (m + 4 + 2) (v / 100) dk1 from HI1.out))
      go_name_slot 8 x1 hx1
      have hxe1 : x1 = ((v / 100 % 100 * 2 : Nat) : Int) := by omega
      have hXa1 : ∀ w, (Instr.index 9 (.string Lib.smalls) (.int .u32 (x1 + 1))).run Tryd.prog w = .ok (.int .u8 ((sm (v / 100 % 100 * 2 + 1)).toNat : Int)) w := idx_smalls 9 t9 .u32 _ _ (by omega) (by omega)
      have hXb1 : ∀ w, (Instr.index 9 (.string Lib.smalls) (.int .u32 x1)).run Tryd.prog w = .ok (.int .u8 ((sm (v / 100 % 100 * 2)).toNat : Int)) w := idx_smalls 9 t9 .u32 _ _ (by omega) (by omega)
      have hlo1 : 0 ≤ x1 := by omega
      have hhi1 : x1 ≤ 198 := by omega
      clear hx1 hxe1
      go_region
      go_wp2
      go_name_world W2 hW2
      have hw2 : W2 = (putRow (fun (b : UInt8) => Value.int .u8 (b.toNat : Int)) w blk off ((dk1.setIfInBounds (m + 4 + 1) (sm (v / 100 % 100 * 2 + 1))).setIfInBounds (m + 4) (sm (v / 100 % 100 * 2)))).drewN (n + 1 + 1) := by rw [← hW2, AW1.out]; exact store2_world w blk off dk1 (n + 1) (m + 4 + 1) (m + 4) _ _ (by have := HI1.out.size; omega) (by have := HI1.out.size; omega)
      generalize ((dk1.setIfInBounds (m + 4 + 1) (sm (v / 100 % 100 * 2 + 1))).setIfInBounds (m + 4) (sm (v / 100 % 100 * 2))) = dk2 at hw2 HI2
      clear hW2 hc1 hf1 AW1 HI1 hXa1 hXb1
      obtain ⟨G2, hc2, hf2⟩ := HK.out W2 _ _ hw2 HI2.out.size
      have AW2 := Lib.hid hw2
      clear hw2
      have HI3 := Lib.hid (GI.two (show GI d.size u (m + 2 + 2) (v / 100 / 100) dk2 from HI2.out))
      go_name_slot 11 x2 hx2
      have hxe2 : x2 = ((v / 100 / 100 % 100 * 2 : Nat) : Int) := by omega
      have hXa2 : ∀ w, (Instr.index 9 (.string Lib.smalls) (.int .u32 (x2 + 1))).run Tryd.prog w = .ok (.int .u8 ((sm (v / 100 / 100 % 100 * 2 + 1)).toNat : Int)) w := idx_smalls 9 t9 .u32 _ _ (by omega) (by omega)
      have hXb2 : ∀ w, (Instr.index 9 (.string Lib.smalls) (.int .u32 x2)).run Tryd.prog w = .ok (.int .u8 ((sm (v / 100 / 100 % 100 * 2)).toNat : Int)) w := idx_smalls 9 t9 .u32 _ _ (by omega) (by omega)
      have hlo2 : 0 ≤ x2 := by omega
      have hhi2 : x2 ≤ 198 := by omega
      clear hx2 hxe2
      go_region
      go_wp2
      go_name_world W3 hW3
      have hw3 : W3 = (putRow (fun (b : UInt8) => Value.int .u8 (b.toNat : Int)) w blk off ((dk2.setIfInBounds (m + 2 + 1) (sm (v / 100 / 100 % 100 * 2 + 1))).setIfInBounds (m + 2) (sm (v / 100 / 100 % 100 * 2)))).drewN (n + 2 + 1) := by rw [← hW3, AW2.out]; exact store2_world w blk off dk2 (n + 2) (m + 2 + 1) (m + 2) _ _ (by have := HI2.out.size; omega) (by have := HI2.out.size; omega)
      generalize ((dk2.setIfInBounds (m + 2 + 1) (sm (v / 100 / 100 % 100 * 2 + 1))).setIfInBounds (m + 2) (sm (v / 100 / 100 % 100 * 2))) = dk3 at hw3 HI3
      clear hW3 hc2 hf2 AW2 HI2 hXa2 hXb2
      obtain ⟨G3, hc3, hf3⟩ := HK.out W3 _ _ hw3 HI3.out.size
      have AW3 := Lib.hid hw3
      clear hw3
      have HI4 := Lib.hid (GI.two (show GI d.size u (m + 2) (v / 100 / 100 / 100) dk3 from HI3.out))
      go_name_slot 10 x3 hx3
      have hxe3 : x3 = ((v / 100 / 100 / 100 % 100 * 2 : Nat) : Int) := by omega
      have hXa3 : ∀ w, (Instr.index 9 (.string Lib.smalls) (.int .u32 (x3 + 1))).run Tryd.prog w = .ok (.int .u8 ((sm (v / 100 / 100 / 100 % 100 * 2 + 1)).toNat : Int)) w := idx_smalls 9 t9 .u32 _ _ (by omega) (by omega)
      have hXb3 : ∀ w, (Instr.index 9 (.string Lib.smalls) (.int .u32 x3)).run Tryd.prog w = .ok (.int .u8 ((sm (v / 100 / 100 / 100 % 100 * 2)).toNat : Int)) w := idx_smalls 9 t9 .u32 _ _ (by omega) (by omega)
      have hlo3 : 0 ≤ x3 := by omega
      have hhi3 : x3 ≤ 198 := by omega
      clear hx3 hxe3
      go_region
      go_wp2
      go_roundw
      case rel =>
        refine ⟨m, v / 100000000, n + 3 + 1, ((dk3.setIfInBounds (m + 1) (sm (v / 100 / 100 / 100 % 100 * 2 + 1))).setIfInBounds (m) (sm (v / 100 / 100 / 100 % 100 * 2))), by first | go_num | (congr 1; omega), by first | go_num | (congr 1; omega), by rw [AW3.out]; exact store2_world w blk off dk3 (n + 3) (m + 1) (m) _ _ (by have := HI3.out.size; omega) (by have := HI3.out.size; omega), ?_⟩
        have e : v / 100 / 100 / 100 / 100 = v / 100000000 := by omega
        rw [← e]
        exact HI4.out
      case measure => simp [RowKit.intOf]; omega
    · have hv8 := HI0.out.lt8 (by omega)
      have hc8 : nd = 0 ∨ nd = 1 ∨ nd = 2 ∨ nd = 3 ∨ nd = 4 ∨ nd = 5 ∨ nd = 6 ∨ nd = 7 := by omega
      rcases hc8 with rfl | rfl | rfl | rfl | rfl | rfl | rfl | rfl
      · go_wp2
        go_end0
        exact ⟨rfl, n, by rw [AW0.out, HI0.out.fin0]⟩
      · go_wp2
        go_end0
        exact ⟨rfl, n, by rw [AW0.out, ← HI0.out.fin1]; exact store1_world0 w blk off dk n _ v (by omega) (by have := HI0.out.size; omega)⟩
      · go_wp2
        have HI1 := Lib.hid (GI.two (show GI d.size u (0 + 2) (v) dk from HI0.out))
        go_name_slot 16 x0 hx0
        have hxe0 : x0 = ((v % 100 * 2 : Nat) : Int) := by omega
        have hXa0 : ∀ w, (Instr.index 9 (.string Lib.smalls) (.int .u32 (x0 + 1))).run Tryd.prog w = .ok (.int .u8 ((sm (v % 100 * 2 + 1)).toNat : Int)) w := idx_smalls 9 t9 .u32 _ _ (by omega) (by omega)
        have hXb0 : ∀ w, (Instr.index 9 (.string Lib.smalls) (.int .u32 x0)).run Tryd.prog w = .ok (.int .u8 ((sm (v % 100 * 2)).toNat : Int)) w := idx_smalls 9 t9 .u32 _ _ (by omega) (by omega)
        have hlo0 : 0 ≤ x0 := by omega
        have hhi0 : x0 ≤ 198 := by omega
        clear hx0 hxe0
        go_region
        go_wp2
        go_end0
        exact ⟨rfl, n + 0 + 1, by rw [AW0.out, ← HI1.out.fin0]; exact store2_world w blk off dk (n + 0) (0 + 1) (0) _ _ (by have := HI0.out.size; omega) (by have := HI0.out.size; omega)⟩
      · go_wp2
        have HI1 := Lib.hid (GI.two (show GI d.size u (1 + 2) (v) dk from HI0.out))
        go_name_slot 16 x0 hx0
        have hxe0 : x0 = ((v % 100 * 2 : Nat) : Int) := by omega
        have hXa0 : ∀ w, (Instr.index 9 (.string Lib.smalls) (.int .u32 (x0 + 1))).run Tryd.prog w = .ok (.int .u8 ((sm (v % 100 * 2 + 1)).toNat : Int)) w := idx_smalls 9 t9 .u32 _ _ (by omega) (by omega)
        have hXb0 : ∀ w, (Instr.index 9 (.string Lib.smalls) (.int .u32 x0)).run Tryd.prog w = .ok (.int .u8 ((sm (v % 100 * 2)).toNat : Int)) w := idx_smalls 9 t9 .u32 _ _ (by omega) (by omega)
        have hlo0 : 0 ≤ x0 := by omega
        have hhi0 : x0 ≤ 198 := by omega
        clear hx0 hxe0
        go_region
        go_wp2
        go_end0
        exact ⟨rfl, n + 0 + 1, by rw [AW0.out, ← HI1.out.fin1]; exact store21_world w blk off dk (n + 0) (1 + 1) (1) _ _ _ (v / 100) (by omega) (by have := HI0.out.size; omega) (by have := HI0.out.size; omega)⟩
      · go_wp2
        have HI1 := Lib.hid (GI.two (show GI d.size u (2 + 2) (v) dk from HI0.out))
        go_name_slot 15 x0 hx0
        have hxe0 : x0 = ((v % 100 * 2 : Nat) : Int) := by omega
        have hXa0 : ∀ w, (Instr.index 9 (.string Lib.smalls) (.int .u32 (x0 + 1))).run Tryd.prog w = .ok (.int .u8 ((sm (v % 100 * 2 + 1)).toNat : Int)) w := idx_smalls 9 t9 .u32 _ _ (by omega) (by omega)
        have hXb0 : ∀ w, (Instr.index 9 (.string Lib.smalls) (.int .u32 x0)).run Tryd.prog w = .ok (.int .u8 ((sm (v % 100 * 2)).toNat : Int)) w := idx_smalls 9 t9 .u32 _ _ (by omega) (by omega)
        have hlo0 : 0 ≤ x0 := by omega
        have hhi0 : x0 ≤ 198 := by omega
        clear hx0 hxe0
        go_region
        go_wp2
        go_name_world W1 hW1
        have hw1 : W1 = (putRow (fun (b : UInt8) => Value.int .u8 (b.toNat : Int)) w blk off ((dk.setIfInBounds (2 + 1) (sm (v % 100 * 2 + 1))).setIfInBounds (2) (sm (v % 100 * 2)))).drewN (n + 0 + 1) := by rw [← hW1, AW0.out]; exact store2_world w blk off dk (n + 0) (2 + 1) (2) _ _ (by have := HI0.out.size; omega) (by have := HI0.out.size; omega)
        generalize ((dk.setIfInBounds (2 + 1) (sm (v % 100 * 2 + 1))).setIfInBounds (2) (sm (v % 100 * 2))) = dk1 at hw1 HI1
        clear hW1 hc0 hf0 AW0 HI0 hXa0 hXb0
        obtain ⟨G1, hc1, hf1⟩ := HK.out W1 _ _ hw1 HI1.out.size
        have AW1 := Lib.hid hw1
        clear hw1
        have HI2 := Lib.hid (GI.two (show GI d.size u (0 + 2) (v / 100) dk1 from HI1.out))
        go_name_slot 14 x1 hx1
        have hxe1 : x1 = ((v / 100 % 100 * 2 : Nat) : Int) := by omega
        have hXa1 : ∀ w, (Instr.index 9 (.string Lib.smalls) (.int .u32 (x1 + 1))).run Tryd.prog w = .ok (.int .u8 ((sm (v / 100 % 100 * 2 + 1)).toNat : Int)) w := idx_smalls 9 t9 .u32 _ _ (by omega) (by omega)
        have hXb1 : ∀ w, (Instr.index 9 (.string Lib.smalls) (.int .u32 x1)).run Tryd.prog w = .ok (.int .u8 ((sm (v / 100 % 100 * 2)).toNat : Int)) w := idx_smalls 9 t9 .u32 _ _ (by omega) (by omega)
        have hlo1 : 0 ≤ x1 := by omega
        have hhi1 : x1 ≤ 198 := by omega
        clear hx1 hxe1
        go_region
        go_wp2
        go_end0
        exact ⟨rfl, n + 1 + 1, by rw [AW1.out, ← HI2.out.fin0]; exact store2_world w blk off dk1 (n + 1) (0 + 1) (0) _ _ (by have := HI1.out.size; omega) (by have := HI1.out.size; omega)⟩
      · go_wp2
        have HI1 := Lib.hid (GI.two (show GI d.size u (3 + 2) (v) dk from HI0.out))
        go_name_slot 15 x0 hx0
        have hxe0 : x0 = ((v % 100 * 2 : Nat) : Int) := by omega
        have hXa0 : ∀ w, (Instr.index 9 (.string Lib.smalls) (.int .u32 (x0 + 1))).run Tryd.prog w = .ok (.int .u8 ((sm (v % 100 * 2 + 1)).toNat : Int)) w := idx_smalls 9 t9 .u32 _ _ (by omega) (by omega)
        have hXb0 : ∀ w, (Instr.index 9 (.string Lib.smalls) (.int .u32 x0)).run Tryd.prog w = .ok (.int .u8 ((sm (v % 100 * 2)).toNat : Int)) w := idx_smalls 9 t9 .u32 _ _ (by omega) (by omega)
        have hlo0 : 0 ≤ x0 := by omega
        have hhi0 : x0 ≤ 198 := by omega
        clear hx0 hxe0
        go_region
        go_wp2
        go_name_world W1 hW1
        have hw1 : W1 = (putRow (fun (b : UInt8) => Value.int .u8 (b.toNat : Int)) w blk off ((dk.setIfInBounds (3 + 1) (sm (v % 100 * 2 + 1))).setIfInBounds (3) (sm (v % 100 * 2)))).drewN (n + 0 + 1) := by rw [← hW1, AW0.out]; exact store2_world w blk off dk (n + 0) (3 + 1) (3) _ _ (by have := HI0.out.size; omega) (by have := HI0.out.size; omega)
        generalize ((dk.setIfInBounds (3 + 1) (sm (v % 100 * 2 + 1))).setIfInBounds (3) (sm (v % 100 * 2))) = dk1 at hw1 HI1
        clear hW1 hc0 hf0 AW0 HI0 hXa0 hXb0
        obtain ⟨G1, hc1, hf1⟩ := HK.out W1 _ _ hw1 HI1.out.size
        have AW1 := Lib.hid hw1
        clear hw1
        have HI2 := Lib.hid (GI.two (show GI d.size u (1 + 2) (v / 100) dk1 from HI1.out))
        go_name_slot 14 x1 hx1
        have hxe1 : x1 = ((v / 100 % 100 * 2 : Nat) : Int) := by omega
        have hXa1 : ∀ w, (Instr.index 9 (.string Lib.smalls) (.int .u32 (x1 + 1))).run Tryd.prog w = .ok (.int .u8 ((sm (v / 100 % 100 * 2 + 1)).toNat : Int)) w := idx_smalls 9 t9 .u32 _ _ (by omega) (by omega)
        have hXb1 : ∀ w, (Instr.index 9 (.string Lib.smalls) (.int .u32 x1)).run Tryd.prog w = .ok (.int .u8 ((sm (v / 100 % 100 * 2)).toNat : Int)) w := idx_smalls 9 t9 .u32 _ _ (by omega) (by omega)
        have hlo1 : 0 ≤ x1 := by omega
        have hhi1 : x1 ≤ 198 := by omega
        clear hx1 hxe1
        go_region
        go_wp2
        go_end0
        exact ⟨rfl, n + 1 + 1, by rw [AW1.out, ← HI2.out.fin1]; exact store21_world w blk off dk1 (n + 1) (1 + 1) (1) _ _ _ (v / 100 / 100) (by omega) (by have := HI1.out.size; omega) (by have := HI1.out.size; omega)⟩
      · go_wp2
        have HI1 := Lib.hid (GI.two (show GI d.size u (4 + 2) (v) dk from HI0.out))
        go_name_slot 15 x0 hx0
        have hxe0 : x0 = ((v % 100 * 2 : Nat) : Int) := by omega
        have hXa0 : ∀ w, (Instr.index 9 (.string Lib.smalls) (.int .u32 (x0 + 1))).run Tryd.prog w = .ok (.int .u8 ((sm (v % 100 * 2 + 1)).toNat : Int)) w := idx_smalls 9 t9 .u32 _ _ (by omega) (by omega)
        have hXb0 : ∀ w, (Instr.index 9 (.string Lib.smalls) (.int .u32 x0)).run Tryd.prog w = .ok (.int .u8 ((sm (v % 100 * 2)).toNat : Int)) w := idx_smalls 9 t9 .u32 _ _ (by omega) (by omega)
        have hlo0 : 0 ≤ x0 := by omega
        have hhi0 : x0 ≤ 198 := by omega
        clear hx0 hxe0
        go_region
        go_wp2
        go_name_world W1 hW1
        have hw1 : W1 = (putRow (fun (b : UInt8) => Value.int .u8 (b.toNat : Int)) w blk off ((dk.setIfInBounds (4 + 1) (sm (v % 100 * 2 + 1))).setIfInBounds (4) (sm (v % 100 * 2)))).drewN (n + 0 + 1) := by rw [← hW1, AW0.out]; exact store2_world w blk off dk (n + 0) (4 + 1) (4) _ _ (by have := HI0.out.size; omega) (by have := HI0.out.size; omega)
        generalize ((dk.setIfInBounds (4 + 1) (sm (v % 100 * 2 + 1))).setIfInBounds (4) (sm (v % 100 * 2))) = dk1 at hw1 HI1
        clear hW1 hc0 hf0 AW0 HI0 hXa0 hXb0
        obtain ⟨G1, hc1, hf1⟩ := HK.out W1 _ _ hw1 HI1.out.size
        have AW1 := Lib.hid hw1
        clear hw1
        have HI2 := Lib.hid (GI.two (show GI d.size u (2 + 2) (v / 100) dk1 from HI1.out))
        go_name_slot 14 x1 hx1
        have hxe1 : x1 = ((v / 100 % 100 * 2 : Nat) : Int) := by omega
        have hXa1 : ∀ w, (Instr.index 9 (.string Lib.smalls) (.int .u32 (x1 + 1))).run Tryd.prog w = .ok (.int .u8 ((sm (v / 100 % 100 * 2 + 1)).toNat : Int)) w := idx_smalls 9 t9 .u32 _ _ (by omega) (by omega)
        have hXb1 : ∀ w, (Instr.index 9 (.string Lib.smalls) (.int .u32 x1)).run Tryd.prog w = .ok (.int .u8 ((sm (v / 100 % 100 * 2)).toNat : Int)) w := idx_smalls 9 t9 .u32 _ _ (by omega) (by omega)
        have hlo1 : 0 ≤ x1 := by omega
        have hhi1 : x1 ≤ 198 := by omega
        clear hx1 hxe1
        go_region
        go_wp2
        go_name_world W2 hW2
        have hw2 : W2 = (putRow (fun (b : UInt8) => Value.int .u8 (b.toNat : Int)) w blk off ((dk1.setIfInBounds (2 + 1) (sm (v / 100 % 100 * 2 + 1))).setIfInBounds (2) (sm (v / 100 % 100 * 2)))).drewN (n + 1 + 1) := by rw [← hW2, AW1.out]; exact store2_world w blk off dk1 (n + 1) (2 + 1) (2) _ _ (by have := HI1.out.size; omega) (by have := HI1.out.size; omega)
        generalize ((dk1.setIfInBounds (2 + 1) (sm (v / 100 % 100 * 2 + 1))).setIfInBounds (2) (sm (v / 100 % 100 * 2))) = dk2 at hw2 HI2
        clear hW2 hc1 hf1 AW1 HI1 hXa1 hXb1
        obtain ⟨G2, hc2, hf2⟩ := HK.out W2 _ _ hw2 HI2.out.size
        have AW2 := Lib.hid hw2
        clear hw2
        have HI3 := Lib.hid (GI.two (show GI d.size u (0 + 2) (v / 100 / 100) dk2 from HI2.out))
        go_name_slot 16 x2 hx2
        have hxe2 : x2 = ((v / 100 / 100 % 100 * 2 : Nat) : Int) := by omega
        have hXa2 : ∀ w, (Instr.index 9 (.string Lib.smalls) (.int .u32 (x2 + 1))).run Tryd.prog w = .ok (.int .u8 ((sm (v / 100 / 100 % 100 * 2 + 1)).toNat : Int)) w := idx_smalls 9 t9 .u32 _ _ (by omega) (by omega)
        have hXb2 : ∀ w, (Instr.index 9 (.string Lib.smalls) (.int .u32 x2)).run Tryd.prog w = .ok (.int .u8 ((sm (v / 100 / 100 % 100 * 2)).toNat : Int)) w := idx_smalls 9 t9 .u32 _ _ (by omega) (by omega)
        have hlo2 : 0 ≤ x2 := by omega
        have hhi2 : x2 ≤ 198 := by omega
        clear hx2 hxe2
        go_region
        go_wp2
        go_end0
        exact ⟨rfl, n + 2 + 1, by rw [AW2.out, ← HI3.out.fin0]; exact store2_world w blk off dk2 (n + 2) (0 + 1) (0) _ _ (by have := HI2.out.size; omega) (by have := HI2.out.size; omega)⟩
      · go_wp2
        have HI1 := Lib.hid (GI.two (show GI d.size u (5 + 2) (v) dk from HI0.out))
        go_name_slot 15 x0 hx0
        have hxe0 : x0 = ((v % 100 * 2 : Nat) : Int) := by omega
        have hXa0 : ∀ w, (Instr.index 9 (.string Lib.smalls) (.int .u32 (x0 + 1))).run Tryd.prog w = .ok (.int .u8 ((sm (v % 100 * 2 + 1)).toNat : Int)) w := idx_smalls 9 t9 .u32 _ _ (by omega) (by omega)
        have hXb0 : ∀ w, (Instr.index 9 (.string Lib.smalls) (.int .u32 x0)).run Tryd.prog w = .ok (.int .u8 ((sm (v % 100 * 2)).toNat : Int)) w := idx_smalls 9 t9 .u32 _ _ (by omega) (by omega)
        have hlo0 : 0 ≤ x0 := by omega
        have hhi0 : x0 ≤ 198 := by omega
        clear hx0 hxe0
        go_region
        go_wp2
        go_name_world W1 hW1
        have hw1 : W1 = (putRow (fun (b : UInt8) => Value.int .u8 (b.toNat : Int)) w blk off ((dk.setIfInBounds (5 + 1) (sm (v % 100 * 2 + 1))).setIfInBounds (5) (sm (v % 100 * 2)))).drewN (n + 0 + 1) := by rw [← hW1, AW0.out]; exact store2_world w blk off dk (n + 0) (5 + 1) (5) _ _ (by have := HI0.out.size; omega) (by have := HI0.out.size; omega)
        generalize ((dk.setIfInBounds (5 + 1) (sm (v % 100 * 2 + 1))).setIfInBounds (5) (sm (v % 100 * 2))) = dk1 at hw1 HI1
        clear hW1 hc0 hf0 AW0 HI0 hXa0 hXb0
        obtain ⟨G1, hc1, hf1⟩ := HK.out W1 _ _ hw1 HI1.out.size
        have AW1 := Lib.hid hw1
        clear hw1
        have HI2 := Lib.hid (GI.two (show GI d.size u (3 + 2) (v / 100) dk1 from HI1.out))
        go_name_slot 14 x1 hx1
        have hxe1 : x1 = ((v / 100 % 100 * 2 : Nat) : Int) := by omega
        have hXa1 : ∀ w, (Instr.index 9 (.string Lib.smalls) (.int .u32 (x1 + 1))).run Tryd.prog w = .ok (.int .u8 ((sm (v / 100 % 100 * 2 + 1)).toNat : Int)) w := idx_smalls 9 t9 .u32 _ _ (by omega) (by omega)
        have hXb1 : ∀ w, (Instr.index 9 (.string Lib.smalls) (.int .u32 x1)).run Tryd.prog w = .ok (.int .u8 ((sm (v / 100 % 100 * 2)).toNat : Int)) w := idx_smalls 9 t9 .u32 _ _ (by omega) (by omega)
        have hlo1 : 0 ≤ x1 := by omega
        have hhi1 : x1 ≤ 198 := by omega
        clear hx1 hxe1
        go_region
        go_wp2
        go_name_world W2 hW2
        have hw2 : W2 = (putRow (fun (b : UInt8) => Value.int .u8 (b.toNat : Int)) w blk off ((dk1.setIfInBounds (3 + 1) (sm (v / 100 % 100 * 2 + 1))).setIfInBounds (3) (sm (v / 100 % 100 * 2)))).drewN (n + 1 + 1) := by rw [← hW2, AW1.out]; exact store2_world w blk off dk1 (n + 1) (3 + 1) (3) _ _ (by have := HI1.out.size; omega) (by have := HI1.out.size; omega)
        generalize ((dk1.setIfInBounds (3 + 1) (sm (v / 100 % 100 * 2 + 1))).setIfInBounds (3) (sm (v / 100 % 100 * 2))) = dk2 at hw2 HI2
        clear hW2 hc1 hf1 AW1 HI1 hXa1 hXb1
        obtain ⟨G2, hc2, hf2⟩ := HK.out W2 _ _ hw2 HI2.out.size
        have AW2 := Lib.hid hw2
        clear hw2
        have HI3 := Lib.hid (GI.two (show GI d.size u (1 + 2) (v / 100 / 100) dk2 from HI2.out))
        go_name_slot 16 x2 hx2
        have hxe2 : x2 = ((v / 100 / 100 % 100 * 2 : Nat) : Int) := by omega
        have hXa2 : ∀ w, (Instr.index 9 (.string Lib.smalls) (.int .u32 (x2 + 1))).run Tryd.prog w = .ok (.int .u8 ((sm (v / 100 / 100 % 100 * 2 + 1)).toNat : Int)) w := idx_smalls 9 t9 .u32 _ _ (by omega) (by omega)
        have hXb2 : ∀ w, (Instr.index 9 (.string Lib.smalls) (.int .u32 x2)).run Tryd.prog w = .ok (.int .u8 ((sm (v / 100 / 100 % 100 * 2)).toNat : Int)) w := idx_smalls 9 t9 .u32 _ _ (by omega) (by omega)
        have hlo2 : 0 ≤ x2 := by omega
        have hhi2 : x2 ≤ 198 := by omega
        clear hx2 hxe2
        go_region
        go_wp2
        go_end0
        exact ⟨rfl, n + 2 + 1, by rw [AW2.out, ← HI3.out.fin1]; exact store21_world w blk off dk2 (n + 2) (1 + 1) (1) _ _ _ (v / 100 / 100 / 100) (by omega) (by have := HI2.out.size; omega) (by have := HI2.out.size; omega)⟩

/-! The library's table of the powers of ten, whatever it holds. -/
structure TabBox where
  tab : List Int
def TabAt (tab : List Int) (w : World) : Prop := tab.length = 20 ∧ ∃ t m, w.heap[2]? = some (.cells (tab.map fun z => Value.int .u64 z).toArray t m)
theorem TabAt.frame {tab : List Int} {p : Nat → Prop} {w w' : World} (h : TabAt tab w) (hf : Frame p w w') (hp : ¬ p 2) : TabAt tab w' := by
  obtain ⟨hl, t, m, e⟩ := h
  exact ⟨hl, t, m, hf.heap e hp⟩
theorem TabAt.lt {tab : List Int} {w : World} (h : TabAt tab w) : 2 < w.heap.size := by
  obtain ⟨-, t, m, e⟩ := h
  exact (Array.getElem?_eq_some_iff.1 e).1
theorem TabAt.below {tab : List Int} {w w' : World} (h : TabAt tab w) (hb : Below w.heap.size w w') : TabAt tab w' := h.frame (Below.toFrame hb fun _ => False) (fun h => h)
theorem TabAt.cell {tab : List Int} {w : World} (h : TabAt tab w) {q : Nat} (hq : q < 20) : w.cell? ⟨2, q, none⟩ = some (.int .u64 (tab.getD q 0)) := by
  obtain ⟨hl, t, m, e⟩ := h
  rw [cell_of_row _ _ _ _ _ _ e]
  simp [hl, hq, List.getD]

/-- How many digits are told. -/
def numG (tab : List Int) (u : Nat) : Nat := l10 (Lib.bitLen u) + if tab.getD (l10 (Lib.bitLen u)) 0 ≤ (u : Int) then 1 else 0
theorem bits_l10 {u : Nat} (h1 : 1 ≤ u) (h2 : u < 18446744073709551616) : Lib.bitLen u ≤ 64 ∧ u < 10 ^ (l10 (Lib.bitLen u) + 1) ∧ l10 (Lib.bitLen u) ≤ 19 := by
  have hb := bitLenAux_bounds 64 u h2 (by omega)
  have hl : bitLenAux 64 u ≤ 64 := bitLen_le u 64 (Nat.le_refl _) h2
  unfold Lib.bitLen
  generalize bitLenAux 64 u = L at hb hl ⊢
  obtain ⟨t1, -, t3⟩ := l10_tab ⟨L, by omega⟩ hb.1
  simp only at t1 t3
  exact ⟨hl, Nat.lt_of_lt_of_le hb.2.2 t1, t3⟩
theorem numG_pow (tab : List Int) {u : Nat} (h1 : 1 ≤ u) (h2 : u < 18446744073709551616) : u < 10 ^ (numG tab u + 1) ∧ numG tab u ≤ 20 := by
  obtain ⟨-, h, hl⟩ := bits_l10 h1 h2
  unfold numG
  refine ⟨Nat.lt_of_lt_of_le h (Nat.pow_le_pow_right (by decide) (by omega)), ?_⟩
  split <;> omega
def itoaG (tab : List Int) (n : Int) : List UInt8 :=
  if 0 ≤ n ∧ n < 100 then decDigits n.toNat else if n < 0 then 45 :: (rowC n.natAbs (numG tab n.natAbs)).toList else (rowC n.natAbs (numG tab n.natAbs)).toList
theorem itoaG_len (tab : List Int) (n : Int) (h0 : -9223372036854775808 ≤ n) (h1 : n ≤ 9223372036854775807) : (itoaG tab n).length ≤ 21 := by
  unfold itoaG
  by_cases h : 0 ≤ n ∧ n < 100
  · rw [if_pos h]
    have := itoa_length_le n h0 h1
    rwa [show n = ((n.toNat : Nat) : Int) by omega, itoa_nonneg] at this
  · rw [if_neg h]
    have hp := (numG_pow tab (u := n.natAbs) (by omega) (by omega)).2
    split <;> simp [rowC_size] <;> omega

set_option maxRecDepth 100000 in
set_option maxHeartbeats 2000000 in
theorem numDigits_any (tab : List Int) (u : Nat) (h1 : 1 ≤ u) (h2 : u < 18446744073709551616) (w : World) (hT : TabAt tab w) :
    Calls Tryd.prog 93 #[.int .u64 u] w fun e w' => e = .returned (.int .i64 (numG tab u)) ∧ w' = w := by
  obtain ⟨hL, -, h19⟩ := bits_l10 h1 h2
  have h64 := fun (W : World) => Any.bits_Len64 { laysM171 with } (u : Int) W (by omega) (by omega)
  have hlg := fun (W : World) => Any.internal_strconv_log10Pow2 { laysM171 with } (Lib.bitLen u) hL W
  have hb2 := fun (b : Bool) (W : World) => Any.internal_strconv_bool2_int { laysM171 with } b W
  rw [show ((u : Int)).toNat = u by omega] at h64
  obtain ⟨q, hq⟩ : ∃ q, q = l10 (Lib.bitLen u) := ⟨_, rfl⟩
  have hcell := hT.cell (q := q) (by omega)
  rw [← hq] at h19 hlg
  have hnum : numG tab u = q + if tab.getD q 0 ≤ (u : Int) then 1 else 0 := by rw [hq]; rfl
  have HNum := Lib.hid hnum
  obtain ⟨z, hz⟩ : ∃ z, z = tab.getD q 0 := ⟨_, rfl⟩
  rw [← hz] at hcell
  have HZ := Lib.hid hz
  have H64 := Lib.hid h64
  have HLg := Lib.hid hlg
  have HB2 := Lib.hid hb2
  have h20 : q < 20 := by omega
  have h20' : (q : Int) < 20 := by omega
  have h00 : (0 : Int) ≤ (q : Int) := by omega
  clear hT hL h19 h64 hlg hb2 hq hnum hz
  go_enter Tryd.func93, Tryd.ntmps93
  go_wp2_with (first
    | (go_at_call 97; refine (H64.out _).mono ?_; rintro e w' ⟨rfl, rfl⟩)
    | (go_at_call 96; refine (HLg.out _).mono ?_; rintro e w' ⟨rfl, rfl⟩)
    | (go_at_call 98; refine (HB2.out _ _).mono ?_; rintro e w' ⟨rfl, rfl⟩))
  all_goals go_ret
  all_goals
    refine ⟨?_, rfl⟩
    have hn := HNum.out
    rw [← HZ.out] at hn
    rw [hn]
    congr 2
    split <;> simp_all <;> omega


theorem below_grow {w w' : World} {k : Nat} {os : Array Obj} (h : w' = grow (w.drewN k) os) : Below w.heap.size w w' := by
  subst h
  refine ⟨rfl, rfl, rfl, ?_, fun i hi => ?_⟩
  · show w.heap.size ≤ (w.heap ++ os).size
    simp
  · show (w.heap ++ os)[i]? = w.heap[i]?
    rw [Array.getElem?_append_left hi]
theorem rowC_at (u sz j : Nat) (hj : j < (rowC u sz).toList.length) : (rowC u sz).toList[j] = (rowC u sz)[j]! := by
  rw [getElem!_pos _ j (by simpa using hj)]
  simp

set_option maxRecDepth 100000 in
set_option maxHeartbeats 6400000 in
theorem formatInt_any (tab : List Int) (n : Int) (h0 : -9223372036854775808 ≤ n) (h1 : n ≤ 9223372036854775807) (w : World) (hT : TabAt tab w) :
    Calls Tryd.prog 91 #[.int .i64 n, .int .i64 10] w fun e w' => e = .returned (strV (itoaG tab n)) ∧ Below w.heap.size w w' := by
  by_cases hs : 0 ≤ n ∧ n < 100
  · obtain ⟨i, rfl⟩ : ∃ i : Nat, n = i := ⟨n.toNat, by omega⟩
    have hi : i < 100 := by omega
    have hsm := fun (W : World) => Any.internal_strconv_small { laysM171 with } i hi W
    have HSm := Lib.hid hsm
    have HI := Lib.hid (show itoaG tab (i : Int) = decDigits i by rw [itoaG, if_pos hs]; rfl)
    have g0 : (0 : Int) ≤ (i : Int) := hs.1
    have g1 : (i : Int) < 100 := hs.2
    clear hsm hT h0 h1 hs hi
    go_enter Tryd.func91, Tryd.ntmps91
    go_wp2_with (go_at_call 92; refine (HSm.out _).mono ?_; rintro e w' ⟨rfl, rfl⟩)
    go_ret
    refine ⟨?_, Below.refl _ _⟩
    rw [HI.out]
    rfl
  · have hal : Tryd.prog.arrayLen 138 = 24 := by simp [Program.arrayLen, Tryd.underlying138]
    by_cases hneg : n < 0
    · obtain ⟨u, rfl⟩ : ∃ u : Nat, n = -(u : Int) := ⟨n.natAbs, by omega⟩
      have hu1 : 1 ≤ u := by omega
      have hu64 : u < 18446744073709551616 := by omega
      obtain ⟨hp, hp20⟩ := numG_pow tab hu1 hu64
      have hnum := fun (W : World) (hW : TabAt tab W) => numDigits_any tab u hu1 hu64 W hW
      have hit : itoaG tab (-(u : Int)) = 45 :: (rowC u (numG tab u)).toList := by
        rw [itoaG, if_neg (by omega), if_pos (by omega)]
        simp
      obtain ⟨nd, hnd⟩ : ∃ nd, nd = numG tab u := ⟨_, rfl⟩
      rw [← hnd] at hp hp20 hnum hit
      have hwr : IntKind.u64.wrap (-IntKind.u64.wrap (-(u : Int))) = (u : Int) := by rw [IntKind.wrap_u64, IntKind.wrap_u64]; omega
      have hsl1 : ∀ W, (Instr.sliceAt 138 (.pointer (some ⟨w.heap.size, 0, none⟩)) (some (.int .i64 1)) (some (.int .i64 (1 + (nd : Int)))) none).run Tryd.prog W = .ok (.slice (some ⟨w.heap.size, 1, none⟩) nd 23) W := fun W => by
        rw [run_sliceAt_array_lh W 138 ⟨w.heap.size, 0, none⟩ (by simp [Program.arrayLen, Program.elem, Tryd.underlying138]) .i64 .i64 1 (1 + (nd : Int)) (by omega) (by omega) (by rw [hal]; omega)]
        go_simp
        omega
      have hsl2 : ∀ W, (Instr.sliceAt 138 (.pointer (some ⟨w.heap.size, 0, none⟩)) none (some (.int .i64 (1 + (nd : Int)))) none).run Tryd.prog W = .ok (.slice (some ⟨w.heap.size, 0, none⟩) (1 + nd) 24) W := fun W => by
        rw [run_sliceAt_array_h W 138 ⟨w.heap.size, 0, none⟩ (by simp [Program.arrayLen, Program.elem, Tryd.underlying138]) .i64 (1 + (nd : Int)) (by omega) (by rw [hal]; omega)]
        go_simp
        omega
      have hH0 := Lib.holds_zero w 138 nd (by omega)
      have hfmt := fmt_any w.heap.size 1 23 u (Array.replicate nd 0) (w.alloc (.cells Lib.zeros24 138)) hH0 (by rw [Array.size_replicate]; exact hp) hu64 (by rw [Array.size_replicate]; omega)
      rw [Array.size_replicate] at hfmt
      have HH0 := Lib.hid hH0
      have HN := Lib.hid (hnum _ (hT.below ((Below.refl _ _).alloc (Nat.le_refl _) (.cells Lib.zeros24 138))))
      have HF := Lib.hid hfmt
      have HIt := Lib.hid hit
      have g23 : nd ≤ 23 := by omega
      clear hnum hfmt hH0 hit hnd hal hT hp hs hu64
      go_enter Tryd.func91, Tryd.ntmps91
      go_wp2_with (first
        | (go_at_call 93; refine HN.out.mono ?_; rintro e w' ⟨rfl, rfl⟩))
      go_at_call 94
      refine HF.out.mono ?_
      rintro e w' ⟨rfl, k, rfl⟩
      have hc0 : ((putRow (fun (b : UInt8) => Value.int .u8 (b.toNat : Int)) (w.alloc (.cells Lib.zeros24 138)) w.heap.size 1 (rowC u nd)).drewN k).cell? ⟨w.heap.size, 0, none⟩ = some (.int .u8 0) := by
        rw [World.cell?_drewN, cell?_putRow_other _ _ _ _ _ _ (Or.inr (Or.inl (Nat.zero_lt_one))), World.cell?_alloc_new]
        exact Lib.zeros24_at 0 (by omega)
      have hf0 : ((putRow (fun (b : UInt8) => Value.int .u8 (b.toNat : Int)) (w.alloc (.cells Lib.zeros24 138)) w.heap.size 1 (rowC u nd)).drewN k).frozen? ⟨w.heap.size, 0, none⟩ = false := by
        rw [World.frozen?_drewN, frozen?_putRow]
        exact World.frozen?_alloc_new _ _ _ _
      have hcv : (convert 22 9 (.slice (some ⟨w.heap.size, 0, none⟩) (1 + nd) 24)).run Tryd.prog (((putRow (fun (b : UInt8) => Value.int .u8 (b.toNat : Int)) (w.alloc (.cells Lib.zeros24 138)) w.heap.size 1 (rowC u nd)).drewN k).setCell ⟨w.heap.size, 0, none⟩ (.int .u8 45)) = .ok (.string ⟨(45 :: (rowC u nd).toList).toArray⟩) (((putRow (fun (b : UInt8) => Value.int .u8 (b.toNat : Int)) (w.alloc (.cells Lib.zeros24 138)) w.heap.size 1 (rowC u nd)).drewN k).setCell ⟨w.heap.size, 0, none⟩ (.int .u8 45)) := by
        have h := run_convert_bytes_back (P := Tryd.prog) (((putRow (fun (b : UInt8) => Value.int .u8 (b.toNat : Int)) (w.alloc (.cells Lib.zeros24 138)) w.heap.size 1 (rowC u nd)).drewN k).setCell ⟨w.heap.size, 0, none⟩ (.int .u8 45)) 22 9 5 ⟨w.heap.size, 0, none⟩ 24 (45 :: (rowC u nd).toList) Tryd.underlying22 Tryd.underlying5 Tryd.underlying9 (fun j hj => by
          rw [Lib.add_plain]
          cases j with
          | zero => exact World.cell?_setCell_same _ _ _ hc0
          | succ i =>
            have hi : i < (rowC u nd).toList.length := by simpa using hj
            rw [World.cell?_setCell_other _ _ _ _ (by simp), List.getElem_cons_succ, rowC_at u nd i hi, World.cell?_drewN, show 0 + (i + 1) = 1 + i by omega]
            exact cell?_putRow (fun (b : UInt8) => Value.int .u8 (b.toNat : Int)) _ w.heap.size 1 _ (rowC u nd) HH0.out (by rw [rowC_size, Array.size_replicate]) i (by simpa using hi))
        rw [List.length_cons, Array.length_toList, rowC_size, Nat.add_comm] at h
        exact h
      clear HF HN
      go_wp2
      go_ret
      obtain ⟨os, eo⟩ := Lib.fin_neg w (.cells Lib.zeros24 138) (rowC u nd) k (.int .u8 45)
      refine ⟨?_, below_grow eo⟩
      rw [HIt.out]
      rfl
    · obtain ⟨u, rfl⟩ : ∃ u : Nat, n = u := ⟨n.toNat, by omega⟩
      have hu1 : 1 ≤ u := by omega
      have hu64 : u < 18446744073709551616 := by omega
      obtain ⟨hp, hp20⟩ := numG_pow tab hu1 hu64
      have hnum := fun (W : World) (hW : TabAt tab W) => numDigits_any tab u hu1 hu64 W hW
      have hit : itoaG tab (u : Int) = (rowC u (numG tab u)).toList := by
        rw [itoaG, if_neg hs, if_neg (by omega)]
        simp
      obtain ⟨nd, hnd⟩ : ∃ nd, nd = numG tab u := ⟨_, rfl⟩
      rw [← hnd] at hp hp20 hnum hit
      have hwr : IntKind.u64.wrap (u : Int) = (u : Int) := by rw [IntKind.wrap_u64]; omega
      have hsl1 : ∀ W, (Instr.sliceAt 138 (.pointer (some ⟨w.heap.size, 0, none⟩)) (some (.int .i64 1)) (some (.int .i64 (1 + (nd : Int)))) none).run Tryd.prog W = .ok (.slice (some ⟨w.heap.size, 1, none⟩) nd 23) W := fun W => by
        rw [run_sliceAt_array_lh W 138 ⟨w.heap.size, 0, none⟩ (by simp [Program.arrayLen, Program.elem, Tryd.underlying138]) .i64 .i64 1 (1 + (nd : Int)) (by omega) (by omega) (by rw [hal]; omega)]
        go_simp
        omega
      have hH0 := Lib.holds_zero w 138 nd (by omega)
      have hfmt := fmt_any w.heap.size 1 23 u (Array.replicate nd 0) (w.alloc (.cells Lib.zeros24 138)) hH0 (by rw [Array.size_replicate]; exact hp) hu64 (by rw [Array.size_replicate]; omega)
      rw [Array.size_replicate] at hfmt
      have HH0 := Lib.hid hH0
      have HN := Lib.hid (hnum _ (hT.below ((Below.refl _ _).alloc (Nat.le_refl _) (.cells Lib.zeros24 138))))
      have HF := Lib.hid hfmt
      have HIt := Lib.hid hit
      have g23 : nd ≤ 23 := by omega
      have g100 : ¬ (u : Int) < 100 := by omega
      have g0 : (0 : Int) ≤ (u : Int) := by omega
      clear hnum hfmt hH0 hit hnd hal hT hp hs hu64
      go_enter Tryd.func91, Tryd.ntmps91
      go_wp2_with (first
        | (go_at_call 93; refine HN.out.mono ?_; rintro e w' ⟨rfl, rfl⟩))
      go_at_call 94
      refine HF.out.mono ?_
      rintro e w' ⟨rfl, k, rfl⟩
      have hcv : (convert 22 9 (.slice (some ⟨w.heap.size, 1, none⟩) nd 23)).run Tryd.prog ((putRow (fun (b : UInt8) => Value.int .u8 (b.toNat : Int)) (w.alloc (.cells Lib.zeros24 138)) w.heap.size 1 (rowC u nd)).drewN k) = .ok (.string ⟨((rowC u nd).toList).toArray⟩) ((putRow (fun (b : UInt8) => Value.int .u8 (b.toNat : Int)) (w.alloc (.cells Lib.zeros24 138)) w.heap.size 1 (rowC u nd)).drewN k) := by
        have h := run_convert_bytes_back (P := Tryd.prog) ((putRow (fun (b : UInt8) => Value.int .u8 (b.toNat : Int)) (w.alloc (.cells Lib.zeros24 138)) w.heap.size 1 (rowC u nd)).drewN k) 22 9 5 ⟨w.heap.size, 1, none⟩ 23 ((rowC u nd).toList) Tryd.underlying22 Tryd.underlying5 Tryd.underlying9 (fun j hj => by
          rw [rowC_at u nd j hj, Lib.add_plain, World.cell?_drewN]
          exact cell?_putRow (fun (b : UInt8) => Value.int .u8 (b.toNat : Int)) _ w.heap.size 1 _ (rowC u nd) HH0.out (by rw [rowC_size, Array.size_replicate]) j (by simpa using hj))
        rw [Array.length_toList, rowC_size] at h
        exact h
      clear HF HN
      go_wp2
      go_ret
      obtain ⟨os, eo⟩ := Lib.fin_pos w (.cells Lib.zeros24 138) (rowC u nd) k
      refine ⟨?_, below_grow eo⟩
      rw [HIt.out]
      rfl

set_option maxRecDepth 100000 in
theorem itoaIn_any (tab : List Int) (n : Int) (h0 : -9223372036854775808 ≤ n) (h1 : n ≤ 9223372036854775807) (w : World) (hT : TabAt tab w) :
    Calls Tryd.prog 89 #[.int .i64 n] w fun e w' => e = .returned (strV (itoaG tab n)) ∧ Below w.heap.size w w' := by
  have H := Lib.hid (formatInt_any tab n h0 h1 w hT)
  obtain ⟨S, hS⟩ : ∃ S : ByteArray, strV (itoaG tab n) = .string S := ⟨_, rfl⟩
  rw [hS] at H ⊢
  clear hT hS h0 h1
  go_enter Tryd.func89, Tryd.ntmps89
  go_wp2_with fail
  refine H.out.mono ?_
  rintro e w' ⟨rfl, hb⟩
  have HB := Lib.hid hb
  clear hb
  go_wp2_with fail
  go_ret
  exact ⟨rfl, HB.out⟩
set_option maxRecDepth 100000 in
theorem itoaG_any (tab : List Int) (n : Int) (h0 : -9223372036854775808 ≤ n) (h1 : n ≤ 9223372036854775807) (w : World) (hT : TabAt tab w) :
    Calls Tryd.prog 85 #[.int .i64 n] w fun e w' => e = .returned (strV (itoaG tab n)) ∧ Below w.heap.size w w' := by
  have H := Lib.hid (itoaIn_any tab n h0 h1 w hT)
  obtain ⟨S, hS⟩ : ∃ S : ByteArray, strV (itoaG tab n) = .string S := ⟨_, rfl⟩
  rw [hS] at H ⊢
  clear hT hS h0 h1
  go_enter Tryd.func85, Tryd.ntmps85
  go_wp2_with fail
  refine H.out.mono ?_
  rintro e w' ⟨rfl, hb⟩
  have HB := Lib.hid hb
  clear hb
  go_wp2_with fail
  go_ret
  exact ⟨rfl, HB.out⟩

/-- What the world holds of that table, whatever it is. -/
def tabOf (w : World) : List Int :=
  match w.heap[2]? with
  | some (Obj.cells cs _ _) => cs.toList.map RowKit.intOf
  | _ => []
set_option maxRecDepth 100000 in
theorem tabAt_of {w : World} (h : w.ShapedOpen Tryd.prog) : TabAt (tabOf w) w := by
  obtain ⟨cs, hh, hs, hr⟩ := h.1 2 (Array.replicate 20 (.int .u64 0)) 145 (of_decide_eq_true (by kernel_rfl)) (by kernel_rfl)
  have hb : Tryd.prog.buildable 145 = true := by kernel_rfl
  obtain ⟨ts, hts, -, hall⟩ := hr hb
  have hc : Tryd.prog.cellTypes Tryd.prog.depth 145 = some (List.replicate 20 139) := by kernel_rfl
  rw [hc] at hts
  cases hts
  have hs20 : cs.size = 20 := by rw [hs]; rfl
  have hcell : ∀ i (hi : i < cs.size), cs[i] = .int .u64 (RowKit.intOf cs[i]) := fun i hi => by
    obtain ⟨u, hu, hok⟩ := hall i cs[i] (by simp [hi])
    have hu64 : u = 139 := by
      have h := List.mem_of_getElem? hu
      exact (List.mem_replicate.1 h).2
    subst hu64
    unfold Cell.ok at hok
    rw [Tryd.underlying139] at hok
    cases hv : cs[i] <;> rw [hv] at hok <;> simp at hok
    case int k' n => rw [hok.1]; rfl
  have ht : tabOf w = cs.toList.map RowKit.intOf := by rw [tabOf, hh]
  refine ⟨by rw [ht]; simp [hs20], 145, (0, 0), ?_⟩
  rw [hh, ht]
  congr 2
  refine Array.ext (by simp) fun i h1 h2 => ?_
  rw [hcell i h1]
  simp

end Go.Proofs.YtlflhjgfegflfaaDoor
