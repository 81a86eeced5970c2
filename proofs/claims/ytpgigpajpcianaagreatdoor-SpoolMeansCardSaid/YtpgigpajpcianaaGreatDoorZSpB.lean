/- Sorting, plainly: lines that change places, halves that are merged. -/
import Derived.Test.YtpgigpajpcianaaGreatDoorZSpA
import Derived.Test.YtpgigpajpcianaaGreatDoorZIA
import Derived.Shelf.Small.Strs
import Derived.Deep.RegionHeld3
import Derived.BigRegion
import Derived.Shelf.RegionOpenPlain
import Derived.Deep.QuietTactic
namespace Go.Proofs.YtpgigpajpcianaaGreatDoor
open Go.RowKit

def swapL (L : Lines) (i j : Nat) : Lines := match L[i]?, L[j]? with | some x, some y => (L.set i y).set j x | _, _ => L
theorem swapL_length (L : Lines) (i j : Nat) : (swapL L i j).length = L.length := by unfold swapL; split <;> simp
theorem swapL_at {L : Lines} {i j : Nat} {x y : List UInt8} (h1 : L[i]? = some x) (h2 : L[j]? = some y) : swapL L i j = (L.set i y).set j x := by unfold swapL; rw [h1, h2]
theorem get_mid (P : Lines) (x : List UInt8) (Q : Lines) : (P ++ x :: Q)[P.length]? = some x := by simp
theorem set_mid (P : Lines) (x y : List UInt8) (Q : Lines) : (P ++ x :: Q).set P.length y = P ++ y :: Q := by simp
theorem swapL_mid (P M Q : Lines) (x y : List UInt8) (i j : Nat) (hi : i = P.length) (hj : j = P.length + 1 + M.length) : swapL (P ++ x :: M ++ y :: Q) i j = P ++ y :: M ++ x :: Q := by
  have hj2 : j = (P ++ x :: M).length := by rw [hj]; simp; omega
  have h1 : (P ++ x :: M ++ y :: Q)[i]? = some x := by rw [hi, List.append_assoc]; exact get_mid P x _
  have h2 : (P ++ x :: M ++ y :: Q)[j]? = some y := by rw [hj2]; exact get_mid _ y Q
  rw [swapL_at h1 h2, hi, List.append_assoc, List.cons_append, set_mid]
  have e : P ++ y :: (M ++ y :: Q) = (P ++ y :: M) ++ y :: Q := by simp
  have hj3 : j = (P ++ y :: M).length := by rw [hj]; simp; omega
  rw [e, hj3, set_mid]
theorem swapL_mid' (P M Q : Lines) (x y : List UInt8) (i j : Nat) (hi : i = P.length) (hj : j = P.length + 1 + M.length) : swapL (P ++ x :: M ++ y :: Q) j i = P ++ y :: M ++ x :: Q := by
  have hj2 : j = (P ++ x :: M).length := by rw [hj]; simp; omega
  have h1 : (P ++ x :: M ++ y :: Q)[i]? = some x := by rw [hi, List.append_assoc]; exact get_mid P x _
  have h2 : (P ++ x :: M ++ y :: Q)[j]? = some y := by rw [hj2]; exact get_mid _ y Q
  rw [swapL_at h2 h1, hj2, set_mid, hi, List.append_assoc, List.cons_append, set_mid, List.append_assoc, List.cons_append]
def swapN (L : Lines) (a b : Nat) : Nat → Lines
  | 0 => L
  | i + 1 => swapL (swapN L a b i) (a + i) (b + i)
theorem takeSp_snoc {A : Lines} {i : Nat} {x : List UInt8} (h : A[i]? = some x) : A.take (i + 1) = A.take i ++ [x] := by
  obtain ⟨hk, rfl⟩ := List.getElem?_eq_some_iff.1 h
  exact List.take_succ_eq_append_getElem hk
theorem drop_one {A : Lines} {i : Nat} {x : List UInt8} (h : A[i]? = some x) : A.drop i = x :: A.drop (i + 1) := by
  obtain ⟨hk, rfl⟩ := List.getElem?_eq_some_iff.1 h
  exact List.drop_eq_getElem_cons hk
theorem swapN_is (P A M B Q : Lines) (hl : A.length = B.length) (b : Nat) (hb : b = P.length + A.length + M.length) : ∀ i, i ≤ A.length → swapN (P ++ A ++ M ++ B ++ Q) P.length b i = P ++ B.take i ++ A.drop i ++ M ++ A.take i ++ B.drop i ++ Q
  | 0, _ => by simp [swapN]
  | i + 1, h => by
    rw [swapN, swapN_is P A M B Q hl b hb i (by omega)]
    obtain ⟨x, hx⟩ : ∃ x, A[i]? = some x := ⟨A[i], by simp [show i < A.length by omega]⟩
    obtain ⟨y, hy⟩ : ∃ y, B[i]? = some y := ⟨B[i], by simp [show i < B.length by omega]⟩
    rw [drop_one hx, drop_one hy, takeSp_snoc hx, takeSp_snoc hy]
    have e1 : P ++ B.take i ++ x :: A.drop (i + 1) ++ M ++ A.take i ++ y :: B.drop (i + 1) ++ Q = (P ++ B.take i) ++ x :: (A.drop (i + 1) ++ M ++ A.take i) ++ y :: (B.drop (i + 1) ++ Q) := by simp
    rw [e1, swapL_mid _ _ _ _ _ _ _ (by simp; omega) (by simp; omega)]
    simp
theorem swapN_all (P A M B Q : Lines) (hl : A.length = B.length) (b : Nat) (hb : b = P.length + A.length + M.length) : swapN (P ++ A ++ M ++ B ++ Q) P.length b A.length = P ++ B ++ M ++ A ++ Q := by
  rw [swapN_is P A M B Q hl b hb _ (Nat.le_refl _)]
  simp [hl, List.take_of_length_le]
theorem sorted_app {F : Bool} {L M : Lines} : SortedL F (L ++ M) ↔ SortedL F L ∧ SortedL F M ∧ ∀ a ∈ L, ∀ b ∈ M, upto F a b := List.pairwise_append
theorem sorted_last {F : Bool} {L : Lines} {x : List UInt8} (h : SortedL F (L ++ [x])) : ∀ a ∈ L, upto F a x := fun a ha => (sorted_app.1 h).2.2 a ha x (List.mem_singleton.2 rfl)
theorem sorted_put {F : Bool} {A B : Lines} {x : List UInt8} (h : SortedL F (A ++ B)) (h1 : ∀ a ∈ A, upto F a x) (h2 : ∀ b ∈ B, upto F x b) : SortedL F (A ++ x :: B) := by
  obtain ⟨k1, k2, k3⟩ := sorted_app.1 h
  refine sorted_app.2 ⟨k1, List.pairwise_cons.2 ⟨h2, k2⟩, fun a ha b hb => ?_⟩
  rcases List.mem_cons.1 hb with rfl | hb
  · exact h1 a ha
  · exact k3 a ha b hb
theorem put_is {F : Bool} {A B : Lines} {x : List UInt8} (h : SortedL F (A ++ B)) (h1 : ∀ a ∈ A, upto F a x) (h2 : ∀ b ∈ B, upto F x b) : A ++ x :: B = sortL F (x :: (A ++ B)) :=
  sortL_eq (sorted_put h h1 h2) List.perm_middle
theorem halves_is {F : Bool} {A B C D : Lines} (h1 : SortedL F (A ++ B)) (h2 : SortedL F (C ++ D)) (h3 : ∀ a ∈ A, ∀ d ∈ D, upto F a d) (h4 : ∀ c ∈ C, ∀ b ∈ B, upto F c b) : sortL F (A ++ C) ++ sortL F (B ++ D) = sortL F (A ++ B ++ (C ++ D)) := by
  refine sortL_eq ?_ ?_
  · refine sorted_app.2 ⟨sortL_sorted F _, sortL_sorted F _, fun a ha b hb => ?_⟩
    have ha := List.mem_append.1 ((sortL_perm F _).mem_iff.1 ha)
    have hb := List.mem_append.1 ((sortL_perm F _).mem_iff.1 hb)
    rcases ha with ha | ha <;> rcases hb with hb | hb
    · exact (sorted_app.1 h1).2.2 a ha b hb
    · exact h3 a ha b hb
    · exact h4 a ha b hb
    · exact (sorted_app.1 h2).2.2 a ha b hb
  · refine ((sortL_perm F _).append (sortL_perm F _)).trans ?_
    rw [List.append_assoc, List.append_assoc]
    refine List.Perm.append_left A ?_
    rw [← List.append_assoc, ← List.append_assoc]
    exact List.perm_append_comm.append_right D
theorem sorted_at {F : Bool} {L : Lines} (h : SortedL F L) {i j : Nat} {x y : List UInt8} (hi : L[i]? = some x) (hj : L[j]? = some y) (hij : i ≤ j) : upto F x y := by
  rcases Nat.lt_or_ge i j with hlt | hge
  · obtain ⟨h1, rfl⟩ := List.getElem?_eq_some_iff.1 hi
    obtain ⟨h2, rfl⟩ := List.getElem?_eq_some_iff.1 hj
    exact List.pairwise_iff_getElem.1 h i j h1 h2 hlt
  · obtain rfl : i = j := by omega
    rw [hi] at hj
    cases hj
    exact upto_refl F x
def Blocks (F : Bool) (bs : Nat) (L : Lines) : Prop := ∀ i, SortedL F ((L.drop (i * bs)).take bs)
theorem blocks_whole {F : Bool} {bs : Nat} {L : Lines} (h : Blocks F bs L) (hl : L.length ≤ bs) : SortedL F L := by
  have := h 0
  rw [Nat.zero_mul, List.drop_zero, List.take_of_length_le hl] at this
  exact this
end Go.Proofs.YtpgigpajpcianaaGreatDoor

namespace Go.Proofs.YtpgigpajpcianaaGreatDoor
open Go.Shelf Go.RowKit

def lays106_ren : Go.Shelf.Ren := ⟨fun | 106 => 81 | 213 => 104 | 265 => 130 | n => n, fun | 3 => 3 | 9 => 9 | n => n, fun | n => n⟩
theorem lays106 : Go.Proofs.Lays.n106 Tryz.prog lays106_ren := {
  mixed := by kernel_rfl
  f106 := Tryz.func81.trans (congrArg some (by kernel_rfl))
  f213 := Tryz.func104.trans (congrArg some (by kernel_rfl))
  f265 := Tryz.func130.trans (congrArg some (by kernel_rfl))
  t3 := Tryz.underlying3
  a3 := Tryz.isAgg3
  z3 := Tryz.sizeOf3
  v3 := Tryz.zeroValue3
  t9 := Tryz.underlying9
  a9 := Tryz.isAgg9
  z9 := Tryz.sizeOf9
  v9 := Tryz.zeroValue9 }
theorem strCompare_any (a b : List UInt8) (w : World) : Calls Tryz.prog 81 #[strV a, strV b] w (Says w (.int .i64 (Lib.compareBytes a b))) :=
  (Go.Proofs.Any.strings_Compare lays106 ⟨a.toArray⟩ ⟨b.toArray⟩ w).mono fun _ _ h => ⟨by rw [h.1], h.2.symm⟩
def cmpI (F : Bool) (a b : List UInt8) : Int := if F then Lib.compareBytes b a else Lib.compareBytes a b
theorem cmpI_lt (F : Bool) (a b : List UInt8) : cmpI F a b < 0 ↔ aheadB F a b = true := by
  cases F
  · exact (compare_less a b).1
  · exact (compare_less b a).1
def ordV (F : Bool) : Value := .int .i64 (if F then 1 else 0)
def cmpV (F : Bool) : Value := .func (.func 59) #[ordV F] #[]
theorem cmp_enters : ∀ args w, (callFunc 59 args).run Tryz.prog w = .ok (.enter 59 args) w := _root_.Go.Proofs.enters_of Tryz.func59 (by kernel_rfl) rfl
set_option maxRecDepth 100000 in
set_option maxHeartbeats 1000000 in
theorem compare_any (F : Bool) (a b : List UInt8) (w : World) : Calls Tryz.prog 59 #[ordV F, strV a, strV b] w (Says w (.int .i64 (cmpI F a b))) := by
  have HC := Lib.hid (fun a b => strCompare_any a b w)
  obtain ⟨A, hA⟩ : ∃ A : ByteArray, strV a = .string A := ⟨_, rfl⟩
  obtain ⟨B, hB⟩ : ∃ B : ByteArray, strV b = .string B := ⟨_, rfl⟩
  have HA := Lib.hid hA
  have HB := Lib.hid hB
  rw [hA, hB]
  clear hA hB
  cases F with
  | false =>
    rw [show ordV false = .int .i64 0 from rfl, show cmpI false a b = Lib.compareBytes a b from rfl]
    go_enter Tryz.func59, Tryz.ntmps59
    go_wp2_with fail
    have h := HC.out a b
    rw [HA.out, HB.out] at h
    refine h.mono ?_
    rintro e w' ⟨rfl, rfl⟩
    go_wp2_with fail
    go_ret
    exact ⟨rfl, rfl⟩
  | true =>
    rw [show ordV true = .int .i64 1 from rfl, show cmpI true a b = Lib.compareBytes b a from rfl]
    go_enter Tryz.func59, Tryz.ntmps59
    go_wp2_with fail
    have h := HC.out b a
    rw [HA.out, HB.out] at h
    refine h.mono ?_
    rintro e w' ⟨rfl, rfl⟩
    go_wp2_with fail
    go_ret
    exact ⟨rfl, rfl⟩
theorem cells_of_set2 {cs : Array Value} {i j : Nat} {x : Value} (h : i ≠ j) : (cs.setIfInBounds i x)[j]? = cs[j]? := by simp [h]
def RowAt (b off sz : Nat) (L : Lines) (w : World) : Prop := off + L.length ≤ sz ∧ ∃ cs, w.heap[b]? = some (.cells cs 9 (0, 0)) ∧ cs.size = sz ∧ ∀ j l, L[j]? = some l → cs[off + j]? = some (strV l)
section
variable {b off sz : Nat} {L : Lines} {w w' : World}
theorem RowAt.cell (h : RowAt b off sz L w) {j : Nat} {l : List UInt8} (hj : L[j]? = some l) : w.cell? ⟨b, off + j, none⟩ = some (strV l) := by
  obtain ⟨-, cs, h1, -, h2⟩ := h
  rw [cell_of_row _ _ _ _ _ _ h1]
  exact h2 j l hj
theorem RowAt.froz (h : RowAt b off sz L w) (j : Nat) : w.frozen? ⟨b, j, none⟩ = false := by
  obtain ⟨-, cs, h1, -, -⟩ := h
  simp [World.frozen?, h1]
theorem RowAt.lt (h : RowAt b off sz L w) : b < w.heap.size := by
  obtain ⟨-, cs, h1, -, -⟩ := h
  exact (Array.getElem?_eq_some_iff.1 h1).1
theorem RowAt.frame {p : Nat → Prop} (h : RowAt b off sz L w) (hf : Frame p w w') (hp : ¬ p b) : RowAt b off sz L w' := by
  obtain ⟨h0, cs, h1, h2⟩ := h
  exact ⟨h0, cs, hf.heap h1 hp, h2⟩
theorem RowAt.set (h : RowAt b off sz L w) {j : Nat} (hj : j < L.length) (l : List UInt8) : RowAt b off sz (L.set j l) (w.setCell ⟨b, off + j, none⟩ (strV l)) := by
  obtain ⟨h0, cs, h1, h2, h3⟩ := h
  refine ⟨by simpa using h0, _, setCell_row h1 _ _, by simpa using h2, fun i x hi => ?_⟩
  by_cases hij : i = j
  · subst hij
    rw [List.getElem?_set_self hj] at hi
    cases hi
    rw [Array.getElem?_setIfInBounds, if_pos rfl, if_pos (by omega)]
  · rw [List.getElem?_set_ne (fun e => hij e.symm)] at hi
    rw [cells_of_set2 (by omega)]
    exact h3 i x hi
end

end Go.Proofs.YtpgigpajpcianaaGreatDoor

namespace Go.Proofs.YtpgigpajpcianaaGreatDoor
open Go.Shelf Go.RowKit

def Turned (b off sz : Nat) (L : Lines) (w : World) (e : Ending) (w' : World) : Prop := e = .returned (.tuple #[]) ∧ RowAt b off sz L w' ∧ Frame (· = b) w w'
theorem Frame.drew' {p : Nat → Prop} {a b : World} (h : Frame p a b) : Frame p a b.drew := by have := h.drewN 1; exact this
theorem RowAt.drew {b off sz : Nat} {L : Lines} {w : World} (h : RowAt b off sz L w) : RowAt b off sz L w.drew := h
theorem RowAt.swapped {b off sz : Nat} {L : Lines} {w : World} (h : RowAt b off sz L w) {i j : Nat} {x y : List UInt8} (hi : L[i]? = some x) (hj : L[j]? = some y) : RowAt b off sz (swapL L i j) ((w.setCell ⟨b, off + i, none⟩ (strV y)).setCell ⟨b, off + j, none⟩ (strV x)).drew := by
  rw [swapL_at hi hj]
  have h1 := (List.getElem?_eq_some_iff.1 hi).1
  have h2 := (List.getElem?_eq_some_iff.1 hj).1
  exact ((h.set h1 y).set (by simpa using h2) x).drew
theorem frame_two {w : World} (b i j : Nat) (x y : Value) : Frame (· = b) w ((w.setCell ⟨b, i, none⟩ x).setCell ⟨b, j, none⟩ y).drew := ((Frame.cell w ⟨b, i, none⟩ x).trans (Frame.cell _ ⟨b, j, none⟩ y)).drew'
set_option maxRecDepth 100000 in
set_option maxHeartbeats 4000000 in
theorem swapRange_any {b off sz : Nat} {L : Lines} {w : World} (h : RowAt b off sz L w) (cap a c n : Nat) (ha : a + n ≤ L.length) (hc : c + n ≤ L.length) (hL : L.length ≤ 1000000) (cmp : Value) :
    Calls Tryz.prog 161 #[.slice (some ⟨b, off, none⟩) L.length cap, .int .i64 a, .int .i64 c, .int .i64 n, cmp] w (Turned b off sz (swapN L a c n) w) := by
  have hlen : ∀ k, (swapN L a c k).length = L.length := fun k => by
    induction k with
    | zero => rfl
    | succ k ih => rw [swapN, swapL_length, ih]
  have HLen := Lib.hid hlen
  have h0 := Lib.hid h
  obtain ⟨N, hN⟩ : ∃ N, N = L.length := ⟨_, rfl⟩
  have HN := Lib.hid hN
  rw [← hN] at ha hc hL ⊢
  clear h hlen hN
  go_enter Tryz.func161, Tryz.ntmps161
  go_wp2_with fail
  go_loopw [10] (fun i wr => ∃ k : Nat, k ≤ n ∧ i = .int .i64 k ∧ RowKit.Hid (RowAt b off sz (swapN L a c k) wr) ∧ RowKit.Hid (Frame (· = b) w wr)) (fun i _ => n - (intOf i).toNat)
  case atStart => exact ⟨0, Nat.zero_le _, rfl, h0, Lib.hid (Frame.refl _ _)⟩
  case round =>
    obtain ⟨k, hk, rfl, HR, HF⟩ := hrel
    by_cases hlt : k < n
    · have hltz : (k : Int) < (n : Int) := by omega
      have hl1 : a + k < (swapN L a c k).length := by rw [HLen.out k, ← HN.out]; omega
      have hl2 : c + k < (swapN L a c k).length := by rw [HLen.out k, ← HN.out]; omega
      obtain ⟨x, hx⟩ : ∃ x, (swapN L a c k)[a + k]? = some x := ⟨_, List.getElem?_eq_getElem hl1⟩
      obtain ⟨y, hy⟩ : ∃ y, (swapN L a c k)[c + k]? = some y := ⟨_, List.getElem?_eq_getElem hl2⟩
      have hnext : RowAt b off sz (swapN L a c (k + 1)) ((wr.setCell ⟨b, off + (a + k), none⟩ (strV y)).setCell ⟨b, off + (c + k), none⟩ (strV x)).drew := HR.out.swapped hx hy
      have HNext := Lib.hid hnext
      have HFr := Lib.hid (HF.out.trans (frame_two (w := wr) b (off + (a + k)) (off + (c + k)) (strV y) (strV x)))
      have c1 := HR.out.cell hx
      have c2 := HR.out.cell hy
      have f1 := HR.out.froz (off + (a + k))
      have f2 := HR.out.froz (off + (c + k))
      obtain ⟨u, c3⟩ : ∃ u, (wr.setCell ⟨b, off + (a + k), none⟩ (strV y)).cell? ⟨b, off + (c + k), none⟩ = some u := by
        obtain ⟨l, hl⟩ : ∃ l, ((swapN L a c k).set (a + k) y)[c + k]? = some l := ⟨_, List.getElem?_eq_getElem (by simpa using hl2)⟩
        exact ⟨_, (HR.out.set hl1 y).cell hl⟩
      obtain ⟨I, hI⟩ : ∃ I, I = a + k := ⟨_, rfl⟩
      obtain ⟨J, hJ⟩ : ∃ J, J = c + k := ⟨_, rfl⟩
      rw [← hI] at c1 c3 f1 HNext HFr
      rw [← hJ] at c2 c3 f2 HNext HFr
      have e1 : ((a : Int) + (k : Int)).toNat = I := by omega
      have e2 : ((c : Int) + (k : Int)).toNat = J := by omega
      have p1 : (0 : Int) ≤ (a : Int) + (k : Int) := by omega
      have p2 : (0 : Int) ≤ (c : Int) + (k : Int) := by omega
      have b1 : (a : Int) + (k : Int) < (N : Int) := by omega
      have b2 : (c : Int) + (k : Int) < (N : Int) := by omega
      have r1 : IntKind.i64.wrap ((a : Int) + (k : Int)) = (a : Int) + (k : Int) := by rw [IntKind.wrap_i64]; omega
      have r2 : IntKind.i64.wrap ((c : Int) + (k : Int)) = (c : Int) + (k : Int) := by rw [IntKind.wrap_i64]; omega
      obtain ⟨X, hX⟩ : ∃ X : ByteArray, Value.string X = strV x := ⟨_, rfl⟩
      obtain ⟨Y, hY⟩ : ∃ Y : ByteArray, Value.string Y = strV y := ⟨_, rfl⟩
      rw [← hX] at c1 HNext HFr
      rw [← hY] at c2 c3 HNext HFr
      clear hx hy hl1 hl2 hnext hI hJ hX hY hltz
      have hltz : (k : Int) < (n : Int) := by omega
      go_wp2_with fail
      have mixed : Tryz.prog.follows .mixedOrders = true := by kernel_rfl
      go_big_region_o
      clear mixed
      clear c1 c2 c3 f1 f2
      generalize ((wr.setCell ⟨b, off + I, none⟩ (.string Y)).setCell ⟨b, off + J, none⟩ (.string X)).drew = w3 at HNext HFr ⊢
      clear e1 e2
      go_wp2_with fail
      go_roundw
      case rel => exact ⟨k + 1, by omega, by go_num, HNext, HFr⟩
      case measure => simp [intOf]; omega
    · have hltz : ¬ (k : Int) < (n : Int) := by omega
      obtain rfl : k = n := by omega
      go_wp2_with fail
      go_end0
      exact ⟨rfl, HR.out, HF.out⟩
theorem swapRange_at {b off sz : Nat} {w : World} (P A M B Q : Lines) (h : RowAt b off sz (P ++ A ++ M ++ B ++ Q) w) (hl : A.length = B.length) (N cap : Nat) (hN : N = (P ++ A ++ M ++ B ++ Q).length) (hL : N ≤ 1000000) (a c n : Int) (ha : a = P.length) (hc : c = (P.length + A.length + M.length : Nat)) (hn : n = A.length) (cmp : Value) :
    Calls Tryz.prog 161 #[.slice (some ⟨b, off, none⟩) N cap, .int .i64 a, .int .i64 c, .int .i64 n, cmp] w (Turned b off sz (P ++ B ++ M ++ A ++ Q) w) := by
  subst ha hc hn hN
  have := swapRange_any h cap P.length (P.length + A.length + M.length) A.length (by simp) (by simp; omega) hL cmp
  rw [swapN_all P A M B Q hl _ rfl] at this
  exact this
set_option maxRecDepth 100000 in
set_option maxHeartbeats 4000000 in
theorem rotate_any {b off sz : Nat} {w : World} (P X Y Q : Lines) (h : RowAt b off sz (P ++ X ++ Y ++ Q) w) (hX : 0 < X.length) (hY : 0 < Y.length) (N cap : Nat) (hN : N = (P ++ X ++ Y ++ Q).length) (hL : N ≤ 1000000) (a m e : Int) (ha : a = P.length) (hm : m = (P.length + X.length : Nat)) (he : e = (P.length + X.length + Y.length : Nat)) (cmp : Value) :
    Calls Tryz.prog 158 #[.slice (some ⟨b, off, none⟩) N cap, .int .i64 a, .int .i64 m, .int .i64 e, cmp] w (Turned b off sz (P ++ Y ++ X ++ Q) w) := by
  have HSw := Lib.hid (fun (P A M B Q : Lines) (w : World) (h : RowAt b off sz (P ++ A ++ M ++ B ++ Q) w) (hl : A.length = B.length) (hN : N = (P ++ A ++ M ++ B ++ Q).length) (a c n : Int) (ha : a = P.length) (hc : c = (P.length + A.length + M.length : Nat)) (hn : n = A.length) => swapRange_at P A M B Q h hl N cap hN hL a c n ha hc hn cmp)
  obtain ⟨T, hT⟩ : ∃ T, T = P ++ Y ++ X ++ Q := ⟨_, rfl⟩
  rw [← hT]
  have hlen : N = P.length + X.length + Y.length + Q.length := by rw [hN]; simp; omega
  have hstart : ∃ (i j : Int) (P' U V Q' : Lines), Value.int .i64 (m - a) = .int .i64 i ∧ Value.int .i64 (e - m) = .int .i64 j ∧ i = U.length ∧ j = V.length ∧ 0 < U.length ∧ 0 < V.length ∧ m = (P'.length + U.length : Nat) ∧ P'.length + U.length + V.length + Q'.length = N ∧ RowKit.Hid (P' ++ V ++ U ++ Q' = T) ∧ RowKit.Hid (RowAt b off sz (P' ++ U ++ V ++ Q') w) ∧ RowKit.Hid (Frame (· = b) w w) :=
    ⟨m - a, e - m, P, X, Y, Q, rfl, rfl, by omega, by omega, hX, hY, hm, hlen.symm, hT.symm, h, Frame.refl _ _⟩
  have HStart := Lib.hid hstart
  have r1 : IntKind.i64.wrap (m - a) = m - a := by rw [IntKind.wrap_i64]; omega
  have r2 : IntKind.i64.wrap (e - m) = e - m := by rw [IntKind.wrap_i64]; omega
  clear h hT hN hX hY hstart hlen ha hm he
  go_enter Tryz.func158, Tryz.ntmps158
  go_wp2_with fail
  go_loopw [10, 11] (fun iv jv wr => ∃ (i j : Int) (P' U V Q' : Lines), iv = .int .i64 i ∧ jv = .int .i64 j ∧ i = U.length ∧ j = V.length ∧ 0 < U.length ∧ 0 < V.length ∧ m = (P'.length + U.length : Nat) ∧ P'.length + U.length + V.length + Q'.length = N ∧ RowKit.Hid (P' ++ V ++ U ++ Q' = T) ∧ RowKit.Hid (RowAt b off sz (P' ++ U ++ V ++ Q') wr) ∧ RowKit.Hid (Frame (· = b) w wr)) (fun iv jv _ => (intOf iv).toNat + (intOf jv).toNat)
  case atStart => exact HStart.out
  case round =>
    clear r1 r2 HStart
    obtain ⟨i, j, P', U, V, Q', rfl, rfl, hi, hj, hU, hV, hm, hN, HT, HR, HF⟩ := hrel
    have b0 : 0 < i := by omega
    have b1 : i ≤ m := by omega
    have b2 : 0 < j := by omega
    have b3 : m + j ≤ N := by omega
    have b4 : (N : Int) ≤ 1000000 := by omega
    have r1 : IntKind.i64.wrap (m - i) = m - i := by rw [IntKind.wrap_i64]; omega
    have r2 : IntKind.i64.wrap (m + j) = m + j := by rw [IntKind.wrap_i64]; omega
    have r3 : IntKind.i64.wrap (m + j - i) = m + j - i := by rw [IntKind.wrap_i64]; omega
    have HI := Lib.hid hi
    have HJ := Lib.hid hj
    have HM := Lib.hid hm
    have HU := Lib.hid hU
    have HV := Lib.hid hV
    have HN := Lib.hid hN
    clear hi hj hm hU hV hN
    by_cases hne : i = j
    · have g1 : (i != j) = false := by simpa using hne
      have HS := Lib.hid (HSw.out P' U [] V Q' wr (by simpa using HR.out) (by have := HI.out; have := HJ.out; omega) (by have := HN.out; simp; omega) (m - i) m i (by have := HI.out; have := HM.out; omega) (by have := HM.out; simpa using this) HI.out)
      clear hne
      go_wp2_with fail
      refine HS.out.mono ?_
      rintro e w2 ⟨rfl, h2, hf2⟩
      have H2 := Lib.hid h2
      have HF2 := Lib.hid hf2
      clear h2 hf2
      go_wp2_with fail
      go_end0
      refine ⟨rfl, ?_, HF.out.trans HF2.out⟩
      have := H2.out
      rw [← HT.out]
      simpa using this
    · have g1 : (i != j) = true := by simpa using hne
      by_cases hgt : i > j
      · have HS := Lib.hid (HSw.out P' (U.take V.length) (U.drop V.length) V Q' wr (by rw [show P' ++ U.take V.length ++ U.drop V.length ++ V ++ Q' = P' ++ (U.take V.length ++ U.drop V.length) ++ V ++ Q' by simp, List.take_append_drop]; exact HR.out) (by have := HI.out; have := HJ.out; simp; omega) (by have := HI.out; have := HJ.out; have := HN.out; simp; omega) (m - i) m j (by have := HI.out; have := HM.out; omega) (by have := HI.out; have := HJ.out; have := HM.out; simp; omega) (by have := HI.out; have := HJ.out; simp; omega))
        have r4 : IntKind.i64.wrap (i - j) = i - j := by rw [IntKind.wrap_i64]; omega
        have HNe := Lib.hid hne
        clear hne r2 r3
        go_wp2_with fail
        refine HS.out.mono ?_
        rintro e w2 ⟨rfl, h2, hf2⟩
        have H2 := Lib.hid h2
        have HF2 := Lib.hid hf2
        clear h2 hf2
        go_wp2_with fail
        have hi := HI.out
        have hj := HJ.out
        have hm := HM.out
        have hU := HU.out
        have hV := HV.out
        have hN := HN.out
        go_roundw
        case rel =>
          refine ⟨i - j, j, P' ++ V, U.drop V.length, U.take V.length, Q', rfl, rfl, by simp; omega, by simp; omega, by simp; omega, by simp; omega, by simp; omega, by simp; omega, ?_, ?_, HF.out.trans HF2.out⟩
          · show _ = _
            rw [← HT.out, show P' ++ V ++ U.take V.length ++ U.drop V.length ++ Q' = P' ++ V ++ (U.take V.length ++ U.drop V.length) ++ Q' by simp, List.take_append_drop]
          · exact H2.out
        case measure => simp [intOf]; omega
      · have HS := Lib.hid (HSw.out P' U (V.take (V.length - U.length)) (V.drop (V.length - U.length)) Q' wr (by rw [show P' ++ U ++ V.take (V.length - U.length) ++ V.drop (V.length - U.length) ++ Q' = P' ++ U ++ (V.take (V.length - U.length) ++ V.drop (V.length - U.length)) ++ Q' by simp, List.take_append_drop]; exact HR.out) (by have := HI.out; have := HJ.out; simp; omega) (by have := HI.out; have := HJ.out; have := HN.out; simp; omega) (m - i) (m + j - i) i (by have := HI.out; have := HM.out; omega) (by have := HI.out; have := HJ.out; have := HM.out; simp; omega) HI.out)
        have r4 : IntKind.i64.wrap (j - i) = j - i := by rw [IntKind.wrap_i64]; omega
        have HNe := Lib.hid hne
        clear hne
        go_wp2_with fail
        refine HS.out.mono ?_
        rintro e w2 ⟨rfl, h2, hf2⟩
        have H2 := Lib.hid h2
        have HF2 := Lib.hid hf2
        clear h2 hf2
        go_wp2_with fail
        have hi := HI.out
        have hj := HJ.out
        have hm := HM.out
        have hU := HU.out
        have hV := HV.out
        have hN := HN.out
        have hne := HNe.out
        go_roundw
        case rel =>
          refine ⟨i, j - i, P', V.drop (V.length - U.length), V.take (V.length - U.length), U ++ Q', rfl, rfl, by simp; omega, by simp; omega, by simp; omega, by simp; omega, by simp; omega, by simp; omega, ?_, ?_, HF.out.trans HF2.out⟩
          · show _ = _
            rw [← HT.out, show P' ++ V.take (V.length - U.length) ++ V.drop (V.length - U.length) ++ (U ++ Q') = P' ++ (V.take (V.length - U.length) ++ V.drop (V.length - U.length)) ++ U ++ Q' by simp, List.take_append_drop]
          · have := H2.out
            show RowAt _ _ _ _ _
            simpa using this
        case measure => simp [intOf]; omega
end Go.Proofs.YtpgigpajpcianaaGreatDoor

namespace Go.Proofs.YtpgigpajpcianaaGreatDoor
open Go.Shelf Go.RowKit

theorem cmp_at (F : Bool) (x y : List UInt8) (X Y : ByteArray) (hx : strV x = .string X) (hy : strV y = .string Y) : ∀ w : World, Calls Tryz.prog 59 #[ordV F, .string X, .string Y] w fun e w' => e = .returned (.int .i64 (cmpI F x y)) ∧ w' = w := fun w => by
  have h := compare_any F x y w
  rw [hx, hy] at h
  exact h.mono fun _ _ k => ⟨k.1, k.2.symm⟩
set_option maxRecDepth 100000 in
set_option maxHeartbeats 8000000 in
theorem insertion_any (F : Bool) {b off sz : Nat} {w : World} (P X Q : Lines) (h : RowAt b off sz (P ++ X ++ Q) w) (N cap : Nat) (hN : N = (P ++ X ++ Q).length) (hL : N ≤ 1000000) (a e : Int) (ha : a = P.length) (he : e = (P.length + X.length : Nat)) :
    Calls Tryz.prog 153 #[.slice (some ⟨b, off, none⟩) N cap, .int .i64 a, .int .i64 e, cmpV F] w (Turned b off sz (P ++ sortL F X ++ Q) w) := by
  have h0 := Lib.hid h
  have hlen : N = P.length + X.length + Q.length := by rw [hN]; simp; omega
  have b1 : (0 : Int) ≤ a := by omega
  have b2 : e ≤ (N : Int) := by omega
  have b3 : (N : Int) ≤ 1000000 := by omega
  have b4 : a ≤ e := by omega
  have HA := Lib.hid ha
  have HE := Lib.hid he
  have HLen := Lib.hid hlen
  have hent := cmp_enters
  clear h hN hL hlen ha he
  unfold cmpV
  obtain ⟨ov, hov⟩ : ∃ ov, ov = ordV F := ⟨_, rfl⟩
  have HOv := Lib.hid hov
  rw [← hov]
  clear hov
  have r1 : IntKind.i64.wrap (a + 1) = a + 1 := by rw [IntKind.wrap_i64]; omega
  go_enter Tryz.func153, Tryz.ntmps153
  go_wp2_with fail
  go_loopw [8] (fun iv wr => ∃ (i : Int) (k : Nat), iv = .int .i64 i ∧ i = a + k ∧ 1 ≤ k ∧ (k ≤ X.length ∨ k = 1) ∧ RowKit.Hid (RowAt b off sz (P ++ sortL F (X.take k) ++ X.drop k ++ Q) wr) ∧ RowKit.Hid (Frame (· = b) w wr)) (fun iv _ => (e + 1 - intOf iv).toNat)
  case atStart => exact ⟨a + 1, 1, rfl, by omega, Nat.le_refl _, .inr rfl, by
    show RowAt _ _ _ _ _
    cases X with
    | nil => simpa [sortL] using h0.out
    | cons x r => simpa [sortL, insL] using h0.out, Lib.hid (Frame.refl _ _)⟩
  case round =>
    obtain ⟨i, k, rfl, hi, hk1, hk, HR, HF⟩ := hrel
    by_cases hlt : i < e
    · have hkl : k < X.length := by have := HE.out; have := HA.out; omega
      obtain ⟨x, hx⟩ : ∃ x, X[k]? = some x := ⟨_, List.getElem?_eq_getElem hkl⟩
      have hdrop := drop_one hx
      have htake := takeSp_snoc hx
      obtain ⟨S, hS⟩ : ∃ S, S = sortL F (X.take k) := ⟨_, rfl⟩
      have hSs : SortedL F S := by rw [hS]; exact sortL_sorted F _
      have hSl : S.length = k := by rw [hS, sortL_length, List.length_take]; omega
      have hnext : ∀ S1 S2 : Lines, S1 ++ S2 = S → (∀ s ∈ S1, upto F s x) → (∀ s ∈ S2, upto F x s) → S1 ++ x :: S2 = sortL F (X.take (k + 1)) := fun S1 S2 h1 h2 h3 => by
        rw [put_is (by rw [h1]; exact hSs) h2 h3, h1, htake]
        refine sortL_congr ?_
        rw [hS]
        exact ((sortL_perm F _).cons x).trans (List.perm_append_singleton x _).symm
      rw [← hS, hdrop] at HR
      have HNext := Lib.hid hnext
      have HSs := Lib.hid hSs
      have HSl := Lib.hid hSl
      obtain ⟨R, hR⟩ : ∃ R, R = X.drop (k + 1) := ⟨_, rfl⟩
      have HRest := Lib.hid hR
      have hRl : R.length + k + 1 = X.length := by rw [hR, List.length_drop]; omega
      have HRl := Lib.hid hRl
      rw [← hR] at HR
      clear hx hdrop htake hS hSs hSl hnext hR hRl
      have hi1 : a ≤ i := by omega
      go_wp2_with fail
      go_loopw [9] (fun jv wr2 => ∃ (j : Int) (S1 S2 : Lines), jv = .int .i64 j ∧ j = a + S1.length ∧ RowKit.Hid (S1 ++ S2 = S) ∧ RowKit.Hid (∀ s ∈ S2, upto F x s) ∧ RowKit.Hid (RowAt b off sz (P ++ (S1 ++ x :: S2) ++ R ++ Q) wr2) ∧ RowKit.Hid (Frame (· = b) w wr2)) (fun jv _ => (intOf jv - a).toNat)
      case atStart => exact ⟨i, S, [], rfl, by have := HSl.out; omega, Lib.hid (by simp), Lib.hid (fun s hs => by cases hs), (show RowAt _ _ _ _ _ by simpa using HR.out), HF⟩
      case round =>
        clear HR HF
        obtain ⟨j, S1, S2, rfl, hj, HS12, HS2, HR, HF⟩ := hrel
        have hl12 : S1.length + S2.length = k := by have := congrArg List.length HS12.out; rw [List.length_append, HSl.out] at this; exact this
        by_cases hja : j > a
        · -- there is one ahead of it
          have hne : S1 ≠ [] := by intro e2; rw [e2] at hj; simp at hj; omega
          obtain ⟨S0, y, rfl⟩ : ∃ S0 y, S1 = S0 ++ [y] := ⟨S1.dropLast, S1.getLast hne, (List.dropLast_concat_getLast hne).symm⟩
          have hPl := HA.out
          have hlen0 := HLen.out
          have hEE := HE.out
          have hRl := HRl.out
          simp only [List.length_append, List.length_cons, List.length_nil] at hj hl12
          obtain ⟨I, hI⟩ : ∃ I : Nat, I = P.length + S0.length := ⟨_, rfl⟩
          have hy : (P ++ ((S0 ++ [y]) ++ x :: S2) ++ R ++ Q)[I]? = some y := by
            rw [hI, show P ++ ((S0 ++ [y]) ++ x :: S2) ++ R ++ Q = (P ++ S0) ++ y :: (x :: S2 ++ R ++ Q) by simp, show P.length + S0.length = (P ++ S0).length by simp]
            exact get_mid _ _ _
          have hx : (P ++ ((S0 ++ [y]) ++ x :: S2) ++ R ++ Q)[I + 1]? = some x := by
            rw [hI, show P ++ ((S0 ++ [y]) ++ x :: S2) ++ R ++ Q = (P ++ S0 ++ [y]) ++ x :: (S2 ++ R ++ Q) by simp, show P.length + S0.length + 1 = (P ++ S0 ++ [y]).length by simp; omega]
            exact get_mid _ _ _
          have c1 := HR.out.cell hx
          have c2 := HR.out.cell hy
          have f1 := HR.out.froz (off + (I + 1))
          have f2 := HR.out.froz (off + I)
          obtain ⟨A, hA⟩ : ∃ A : ByteArray, strV x = .string A := ⟨_, rfl⟩
          obtain ⟨B, hB⟩ : ∃ B : ByteArray, strV y = .string B := ⟨_, rfl⟩
          have HC := cmp_at F x y A B hA hB
          have hlt2 := cmpI_lt F x y
          rw [← HOv.out] at HC
          obtain ⟨c, hc⟩ : ∃ c, c = cmpI F x y := ⟨_, rfl⟩
          rw [← hc] at HC hlt2
          rw [hA] at c1
          rw [hB] at c2
          have e1 : j.toNat = I + 1 := by omega
          have e2 : (j - 1).toNat = I := by omega
          have p1 : (0 : Int) ≤ j := by omega
          have p2 : (0 : Int) ≤ j - 1 := by omega
          have q1 : j < (N : Int) := by omega
          have q2 : j - 1 < (N : Int) := by omega
          have w1 : IntKind.i64.wrap (j - 1) = j - 1 := by rw [IntKind.wrap_i64]; omega
          have HCh := Lib.hid HC
          have HI2 := Lib.hid hI
          have Hj := Lib.hid hj
          have Hl := Lib.hid hl12
          clear HC hc hI hne hPl hlen0 hEE hRl hj hl12
          have HX := Lib.hid hx
          have HY := Lib.hid hy
          have HSA := Lib.hid hA
          have HSB := Lib.hid hB
          by_cases hah : aheadB F x y = true
          · have hc0 : c < 0 := hlt2.2 hah
            have hd0 : decide (c < 0) = true := decide_eq_true hc0
            have HA2 := Lib.hid hah
            clear hx hy hA hB hlt2 hah f1 f2
            obtain ⟨J, hJ⟩ : ∃ J, J = I + 1 := ⟨_, rfl⟩
            rw [← hJ] at e1 c1
            have HJ := Lib.hid hJ
            clear hJ
            go_wp2_with fail
            go_quiet (first | (go_at_call 59; exact Calls.quiet_of_same (HCh.out _)))
            have HR2 := Lib.hid (show RowAt b off sz (P ++ ((S0 ++ [y]) ++ x :: S2) ++ R ++ Q) (wr.drewN nq) from HR.out)
            have HF2 := Lib.hid (show Frame (· = b) w (wr.drewN nq) from HF.out.drewN nq)
            clear c1 c2 HR HF
            generalize wr.drewN nq = W at HR2 HF2 ⊢
            have hnext : RowAt b off sz (P ++ (S0 ++ x :: (y :: S2)) ++ R ++ Q) ((W.setCell ⟨b, off + J, none⟩ (strV y)).setCell ⟨b, off + I, none⟩ (strV x)).drew := by
              have h1 := HR2.out.swapped HX.out HY.out
              have e3 : swapL (P ++ ((S0 ++ [y]) ++ x :: S2) ++ R ++ Q) (I + 1) I = P ++ (S0 ++ x :: (y :: S2)) ++ R ++ Q := by
                have := swapL_mid' (P ++ S0) [] (S2 ++ R ++ Q) y x I (I + 1) (by rw [HI2.out]; simp) (by rw [HI2.out]; simp)
                simpa using this
              rw [e3, ← HJ.out] at h1
              exact h1
            have hfr := HF2.out.trans (frame_two (w := W) b (off + J) (off + I) (strV y) (strV x))
            obtain ⟨u, c3⟩ : ∃ u, (W.setCell ⟨b, off + J, none⟩ (strV y)).cell? ⟨b, off + I, none⟩ = some u := by
              have hlx := (List.getElem?_eq_some_iff.1 HX.out).1
              obtain ⟨l, hl⟩ : ∃ l, ((P ++ ((S0 ++ [y]) ++ x :: S2) ++ R ++ Q).set (I + 1) y)[I]? = some l := ⟨_, List.getElem?_eq_getElem (by rw [List.length_set]; omega)⟩
              rw [HJ.out]
              exact ⟨_, (HR2.out.set hlx y).cell hl⟩
            have c1 := HR2.out.cell HX.out
            have c2 := HR2.out.cell HY.out
            have f1 := HR2.out.froz (off + J)
            have f2 := HR2.out.froz (off + I)
            rw [HSA.out, HSB.out] at hnext hfr
            rw [HSB.out] at c3 c2
            rw [HSA.out, ← HJ.out] at c1
            have HNx := Lib.hid hnext
            have HFx := Lib.hid hfr
            clear hnext hfr HR2 HF2
            go_wp2_with fail
            have mixed : Tryz.prog.follows .mixedOrders = true := by kernel_rfl
            go_big_region_o
            clear mixed c1 c2 c3 f1 f2
            generalize ((W.setCell ⟨b, off + J, none⟩ (.string B)).setCell ⟨b, off + I, none⟩ (.string A)).drew = W3 at HNx HFx ⊢
            clear e1 e2
            go_wp2_with fail
            go_roundw
            case rel => exact ⟨j - 1, S0, y :: S2, rfl, by have := Hj.out; omega, Lib.hid (by have := HS12.out; simpa using this), Lib.hid (fun s hs => by
              rcases List.mem_cons.1 hs with rfl | hs
              · exact upto_of HA2.out
              · exact HS2.out s hs), HNx, HFx⟩
            case measure => simp [intOf]; omega
          · have hc0 : ¬ c < 0 := fun e => hah (hlt2.1 e)
            have hd0 : decide (c < 0) = false := decide_eq_false hc0
            have HA2 := Lib.hid (show upto F y x from (by simpa using hah : aheadB F x y = false))
            clear hx hy hA hB hlt2 hah f1 f2
            go_wp2_with fail
            go_quiet (first | (go_at_call 59; exact Calls.quiet_of_same (HCh.out _)))
            have HR2 := Lib.hid (show RowAt b off sz (P ++ ((S0 ++ [y]) ++ x :: S2) ++ R ++ Q) (wr.drewN nq) from HR.out)
            have HF2 := Lib.hid (show Frame (· = b) w (wr.drewN nq) from HF.out.drewN nq)
            clear c1 c2 HR HF
            generalize wr.drewN nq = W at HR2 HF2 ⊢
            have hn := HNext.out (S0 ++ [y]) S2 HS12.out (fun s hs => by
              have hsS : SortedL F ((S0 ++ [y]) ++ S2) := by rw [HS12.out]; exact HSs.out
              rcases List.mem_append.1 hs with h1 | h1
              · exact upto_trans (sorted_last (sorted_app.1 hsS).1 s h1) HA2.out
              · rw [List.mem_singleton.1 h1]; exact HA2.out) HS2.out
            have HR3 := Lib.hid (show RowAt b off sz (P ++ sortL F (X.take (k + 1)) ++ X.drop (k + 1) ++ Q) W by rw [← hn, ← HRest.out]; simpa using HR2.out)
            clear hn HR2
            go_wp2_with fail
            go_roundw
            case rel => exact ⟨i + 1, k + 1, by rw [hi], by omega, by omega, .inl (by omega), HR3, HF2⟩
            case measure => simp [intOf]; omega
        · -- it is the first one
          have h0s : S1 = [] := by cases S1 with
            | nil => rfl
            | cons y r => simp at hj; omega
          subst h0s
          have hn := HNext.out [] S2 HS12.out (fun s hs => by cases hs) HS2.out
          have HR3 := Lib.hid (show RowAt b off sz (P ++ sortL F (X.take (k + 1)) ++ X.drop (k + 1) ++ Q) wr by rw [← hn, ← HRest.out]; simpa using HR.out)
          have HR4 := Lib.hid (show RowAt b off sz (P ++ sortL F (X.take (k + 1)) ++ X.drop (k + 1) ++ Q) wr.drew from HR3.out)
          have HF4 := Lib.hid (show Frame (· = b) w wr.drew from HF.out.drew')
          have hja2 : decide (j > a) = false := decide_eq_false hja
          have hja3 : ¬ a < j := hja
          clear hn HR HR3 HF hj
          go_wp2_with fail
          have mixed : Tryz.prog.follows .mixedOrders = true := by kernel_rfl
          go_big_region_o
          clear mixed
          generalize wr.drew = W at HR4 HF4 ⊢
          go_wp2_with fail
          go_roundw
          case rel => exact ⟨i + 1, k + 1, by rw [hi], by omega, by omega, .inl (by omega), HR4, HF4⟩
          case measure => simp [intOf]; omega
    · -- all are in order
      have hlast : P ++ sortL F (X.take k) ++ X.drop k ++ Q = P ++ sortL F X ++ Q := by
        have h1 := HE.out
        have h2 := HA.out
        rw [List.take_of_length_le (by omega), List.drop_of_length_le (by omega)]
        simp
      go_wp2_with fail
      go_end0
      have hr := HR.out
      rw [hlast] at hr
      exact ⟨rfl, by simpa using hr, HF.out⟩
end Go.Proofs.YtpgigpajpcianaaGreatDoor

namespace Go.Proofs.YtpgigpajpcianaaGreatDoor
open Go.Shelf Go.RowKit

theorem mem_take_at {L : Lines} {t : Nat} {s : List UInt8} (h : s ∈ L.take t) : ∃ k, L[k]? = some s ∧ k < t := by
  obtain ⟨k, hk⟩ := List.mem_iff_getElem?.1 h
  rw [List.getElem?_take] at hk
  split at hk
  · rename_i hlt
    exact ⟨k, hk, hlt⟩
  · cases hk
theorem mem_drop_at {L : Lines} {t : Nat} {s : List UInt8} (h : s ∈ L.drop t) : ∃ k, L[t + k]? = some s := by
  obtain ⟨k, hk⟩ := List.mem_iff_getElem?.1 h
  rw [List.getElem?_drop] at hk
  exact ⟨k, hk⟩
section
variable {b off sz : Nat} {w : World}
set_option maxRecDepth 100000 in
set_option maxHeartbeats 8000000 in
theorem symLeft_any (F : Bool) (P : Lines) (x : List UInt8) (Y Q : Lines) (h : RowAt b off sz (P ++ [x] ++ Y ++ Q) w) (hY : SortedL F Y) (N cap : Nat) (hN : N = (P ++ [x] ++ Y ++ Q).length) (hL : N ≤ 1000000) (a m e : Int) (ha : a = P.length) (hm : m = (P.length + 1 : Nat)) (he : e = (P.length + 1 + Y.length : Nat)) :
    Calls Tryz.prog 154 #[.slice (some ⟨b, off, none⟩) N cap, .int .i64 a, .int .i64 m, .int .i64 e, cmpV F] w (Turned b off sz (P ++ sortL F ([x] ++ Y) ++ Q) w) := by
  have h0 := Lib.hid h
  have hlen : N = P.length + 1 + Y.length + Q.length := by rw [hN]; simp; omega
  have b1 : (0 : Int) ≤ a := by omega
  have b2 : e ≤ (N : Int) := by omega
  have b3 : (N : Int) ≤ 1000000 := by omega
  have b4 : m ≤ e := by omega
  have b5 : m - a = 1 := by omega
  have HA := Lib.hid ha
  have HM := Lib.hid hm
  have HE := Lib.hid he
  have HLen := Lib.hid hlen
  have HYs := Lib.hid hY
  have hent := cmp_enters
  clear h hN hL hlen ha hm he hY
  unfold cmpV
  obtain ⟨ov, hov⟩ : ∃ ov, ov = ordV F := ⟨_, rfl⟩
  have HOv := Lib.hid hov
  rw [← hov]
  clear hov
  have r1 : IntKind.i64.wrap (m - a) = 1 := by rw [IntKind.wrap_i64]; omega
  have g1 : ((m - a) == 1) = true := by simpa using b5
  go_enter Tryz.func154, Tryz.ntmps154
  go_wp2_with fail
  go_loopw [10, 11] (fun iv jv wr => ∃ i j : Int, iv = .int .i64 i ∧ jv = .int .i64 j ∧ m ≤ i ∧ i ≤ j ∧ j ≤ e ∧ RowKit.Hid (∀ (k : Nat) y, Y[k]? = some y → m + (k : Int) < i → aheadB F y x = true) ∧ RowKit.Hid (∀ (k : Nat) y, Y[k]? = some y → j ≤ m + (k : Int) → upto F x y) ∧ RowKit.Hid (RowAt b off sz (P ++ [x] ++ Y ++ Q) wr) ∧ RowKit.Hid (Frame (· = b) w wr)) (fun iv jv _ => (intOf jv - intOf iv).toNat)
  case atStart => exact ⟨m, e, rfl, rfl, Int.le_refl _, b4, Int.le_refl _, Lib.hid (fun k y _ hk => by omega), Lib.hid (fun k y hy hk => by have := (List.getElem?_eq_some_iff.1 hy).1; have := HE.out; have := HM.out; omega), h0, Lib.hid (Frame.refl _ _)⟩
  case round =>
    obtain ⟨i, j, rfl, rfl, hi, hij, hj, HLow, HHigh, HR, HF⟩ := hrel
    by_cases hlt : i < j
    · have s1 : IntKind.i64.wrap (i + j) = i + j := by rw [IntKind.wrap_i64]; omega
      go_wp2_with fail
      have hq1 : i ≤ (i + j) / 2 := by omega
      have hq2 : (i + j) / 2 < j := by omega
      generalize (i + j) / 2 = q at hq1 hq2 ⊢
      obtain ⟨k, hk⟩ : ∃ k : Nat, q = m + (k : Int) := ⟨(q - m).toNat, by omega⟩
      have hkY : k < Y.length := by have := HE.out; have := HM.out; omega
      obtain ⟨y, hy⟩ : ∃ y, Y[k]? = some y := ⟨_, List.getElem?_eq_getElem hkY⟩
      obtain ⟨I, hI⟩ : ∃ I : Nat, I = P.length + 1 + k := ⟨_, rfl⟩
      obtain ⟨J, hJ⟩ : ∃ J : Nat, J = P.length := ⟨_, rfl⟩
      have hy2 : (P ++ [x] ++ Y ++ Q)[I]? = some y := by
        rw [show P ++ [x] ++ Y ++ Q = (P ++ [x]) ++ (Y ++ Q) by simp, List.getElem?_append_right (by simp; omega), List.getElem?_append_left (by simp; omega), show I - (P ++ [x]).length = k by simp; omega]
        exact hy
      have hx2 : (P ++ [x] ++ Y ++ Q)[J]? = some x := by
        rw [show P ++ [x] ++ Y ++ Q = P ++ x :: (Y ++ Q) by simp, hJ]
        exact get_mid _ _ _
      have c1 := HR.out.cell hx2
      have c2 := HR.out.cell hy2
      obtain ⟨A, hA⟩ : ∃ A : ByteArray, strV x = .string A := ⟨_, rfl⟩
      obtain ⟨B, hB⟩ : ∃ B : ByteArray, strV y = .string B := ⟨_, rfl⟩
      have HC := cmp_at F y x B A hB hA
      have hlt2 := cmpI_lt F y x
      rw [← HOv.out] at HC
      obtain ⟨c, hc⟩ : ∃ c, c = cmpI F y x := ⟨_, rfl⟩
      rw [← hc] at HC hlt2
      rw [hA] at c1
      rw [hB] at c2
      have e1 : q.toNat = I := by have := HM.out; omega
      have e2 : a.toNat = J := by have := HA.out; omega
      have p1 : (0 : Int) ≤ q := by omega
      have q1 : q < (N : Int) := by omega
      have q2 : a < (N : Int) := by omega
      have HCh := Lib.hid HC
      have HK := Lib.hid hk
      have HY := Lib.hid hy
      clear HC hc hk hkY hy hI hJ hy2 hx2 hA hB
      by_cases hah : aheadB F y x = true
      · have hc0 : c < 0 := hlt2.2 hah
        have hd0 : decide (c < 0) = true := decide_eq_true hc0
        have HA2 := Lib.hid hah
        clear hlt2 hah
        go_quiet (first | (go_at_call 59; exact Calls.quiet_of_same (HCh.out _)))
        have HR2 := Lib.hid (show RowAt b off sz (P ++ [x] ++ Y ++ Q) (wr.drewN nq) from HR.out)
        have HF2 := Lib.hid (show Frame (· = b) w (wr.drewN nq) from HF.out.drewN nq)
        clear c1 c2 HR HF
        generalize wr.drewN nq = W at HR2 HF2 ⊢
        clear e1 e2
        go_wp2_with fail
        go_roundw
        case rel => exact ⟨q + 1, j, rfl, rfl, by omega, by omega, hj, Lib.hid (fun k' y' hy' hk' => by
            have h1 := HY.out
            have h2 := HK.out
            have h3 := sorted_at HYs.out hy' h1 (by omega)
            cases h4 : aheadB F y' x with
            | true => rfl
            | false =>
              have h5 := upto_trans (show upto F x y' from h4) h3
              rw [show aheadB F y x = false from h5] at HA2
              exact absurd HA2.out (by decide)), HHigh, HR2, HF2⟩
        case measure => simp [intOf]; omega
      · have hc0 : ¬ c < 0 := fun e => hah (hlt2.1 e)
        have hd0 : decide (c < 0) = false := decide_eq_false hc0
        have HA2 := Lib.hid (show upto F x y from (by simpa using hah : aheadB F y x = false))
        clear hlt2 hah
        go_quiet (first | (go_at_call 59; exact Calls.quiet_of_same (HCh.out _)))
        have HR2 := Lib.hid (show RowAt b off sz (P ++ [x] ++ Y ++ Q) (wr.drewN nq) from HR.out)
        have HF2 := Lib.hid (show Frame (· = b) w (wr.drewN nq) from HF.out.drewN nq)
        clear c1 c2 HR HF
        generalize wr.drewN nq = W at HR2 HF2 ⊢
        clear e1 e2
        go_wp2_with fail
        go_roundw
        case rel => exact ⟨i, q, rfl, rfl, hi, by omega, by omega, HLow, Lib.hid (fun k' y' hy' hk' => upto_trans HA2.out (sorted_at HYs.out HY.out hy' (by have := HK.out; omega))), HR2, HF2⟩
        case measure => simp [intOf]; omega
    · -- the place is found
      obtain rfl : i = j := by omega
      obtain ⟨t, ht⟩ : ∃ t : Nat, i = m + (t : Int) := ⟨(i - m).toNat, by omega⟩
      have htY : t ≤ Y.length := by have := HE.out; have := HM.out; omega
      have hsort : sortL F ([x] ++ Y) = Y.take t ++ x :: Y.drop t := by
        have h1 : SortedL F (Y.take t ++ Y.drop t) := by rw [List.take_append_drop]; exact HYs.out
        rw [put_is h1 (fun s hs => ?_) (fun s hs => ?_), List.take_append_drop]
        · rfl
        · obtain ⟨k, hk1, hk2⟩ := mem_take_at hs
          exact upto_of (HLow.out k s hk1 (by omega))
        · obtain ⟨k, hk⟩ := mem_drop_at hs
          exact HHigh.out (t + k) s hk (by omega)
      have HS := Lib.hid hsort
      have HT := Lib.hid ht
      have HTY := Lib.hid htY
      clear ht htY hsort HLow HHigh
      have s1 : IntKind.i64.wrap (i - 1) = i - 1 := by rw [IntKind.wrap_i64]; omega
      have HR0 := Lib.hid (show RowAt b off sz (P ++ (Y.take 0 ++ x :: Y.drop 0) ++ Q) wr by simpa using HR.out)
      clear HR
      go_wp2_with fail
      go_loopw [13] (fun kv wr2 => ∃ (k : Int) (u : Nat), kv = .int .i64 k ∧ k = a + u ∧ RowKit.Hid (u ≤ t) ∧ RowKit.Hid (RowAt b off sz (P ++ (Y.take u ++ x :: Y.drop u) ++ Q) wr2) ∧ RowKit.Hid (Frame (· = b) w wr2)) (fun kv _ => (i - intOf kv).toNat)
      case atStart => exact ⟨a, 0, rfl, by simp, Nat.zero_le _, HR0, HF⟩
      case round =>
        clear HR0 HF
        obtain ⟨k, u, rfl, hk, hu, HR, HF⟩ := hrel
        by_cases hlt2 : k < i - 1
        · have hut : u < t := by have := HT.out; omega
          have htY := HTY.out
          obtain ⟨y, hy⟩ : ∃ y, Y[u]? = some y := ⟨_, List.getElem?_eq_getElem (by omega)⟩
          obtain ⟨I, hI⟩ : ∃ I : Nat, I = P.length + u := ⟨_, rfl⟩
          have hlist : P ++ (Y.take u ++ x :: Y.drop u) ++ Q = (P ++ Y.take u) ++ x :: [] ++ y :: (Y.drop (u + 1) ++ Q) := by rw [drop_one hy]; simp
          have hlist2 : (P ++ Y.take u) ++ y :: [] ++ x :: (Y.drop (u + 1) ++ Q) = P ++ (Y.take (u + 1) ++ x :: Y.drop (u + 1)) ++ Q := by rw [takeSp_snoc hy]; simp
          have hx2 : (P ++ (Y.take u ++ x :: Y.drop u) ++ Q)[I]? = some x := by
            rw [hlist, show P ++ Y.take u ++ x :: [] ++ y :: (Y.drop (u + 1) ++ Q) = (P ++ Y.take u) ++ x :: (y :: (Y.drop (u + 1) ++ Q)) by simp, show I = (P ++ Y.take u).length by rw [hI]; simp; omega]
            exact get_mid _ _ _
          have hy2 : (P ++ (Y.take u ++ x :: Y.drop u) ++ Q)[I + 1]? = some y := by
            rw [hlist, show I + 1 = (P ++ Y.take u ++ x :: []).length by rw [hI]; simp; omega]
            exact get_mid _ _ _
          have hnext : RowAt b off sz (P ++ (Y.take (u + 1) ++ x :: Y.drop (u + 1)) ++ Q) ((wr.setCell ⟨b, off + I, none⟩ (strV y)).setCell ⟨b, off + (I + 1), none⟩ (strV x)).drew := by
            have h1 := HR.out.swapped hx2 hy2
            rw [hlist, swapL_mid _ _ _ _ _ _ _ (by rw [hI]; simp; omega) (by rw [hI]; simp; omega), hlist2] at h1
            exact h1
          have hfr := HF.out.trans (frame_two (w := wr) b (off + I) (off + (I + 1)) (strV y) (strV x))
          obtain ⟨v, c3⟩ : ∃ v, (wr.setCell ⟨b, off + I, none⟩ (strV y)).cell? ⟨b, off + (I + 1), none⟩ = some v := by
            have hlx := (List.getElem?_eq_some_iff.1 hx2).1
            have hly := (List.getElem?_eq_some_iff.1 hy2).1
            obtain ⟨l, hl⟩ : ∃ l, ((P ++ (Y.take u ++ x :: Y.drop u) ++ Q).set I y)[I + 1]? = some l := ⟨_, List.getElem?_eq_getElem (by rw [List.length_set]; omega)⟩
            exact ⟨_, (HR.out.set hlx y).cell hl⟩
          have c1 := HR.out.cell hx2
          have c2 := HR.out.cell hy2
          have f1 := HR.out.froz (off + I)
          have f2 := HR.out.froz (off + (I + 1))
          obtain ⟨A, hA⟩ : ∃ A : ByteArray, strV x = .string A := ⟨_, rfl⟩
          obtain ⟨B, hB⟩ : ∃ B : ByteArray, strV y = .string B := ⟨_, rfl⟩
          rw [hA] at c1 hnext hfr
          rw [hB] at c2 c3 hnext hfr
          obtain ⟨J, hJ⟩ : ∃ J, J = I + 1 := ⟨_, rfl⟩
          rw [← hJ] at c2 c3 f2 hnext hfr
          have e1 : k.toNat = I := by have := HA.out; omega
          have e2 : (k + 1).toNat = J := by have := HA.out; omega
          have hPl := HA.out
          have hMl := HM.out
          have hEl := HE.out
          have htt := HT.out
          have p1 : (0 : Int) ≤ k := by omega
          have p2 : (0 : Int) ≤ k + 1 := by omega
          have q1 : k < (N : Int) := by omega
          have q2 : k + 1 < (N : Int) := by omega
          have w1 : IntKind.i64.wrap (k + 1) = k + 1 := by rw [IntKind.wrap_i64]; omega
          have HNx := Lib.hid hnext
          have HFx := Lib.hid hfr
          have HK := Lib.hid hk
          have HU := Lib.hid hut
          clear hnext hfr hA hB hJ hI hlist hlist2 hx2 hy2 hy hut htY hPl hMl hEl htt hk
          go_wp2_with fail
          have mixed : Tryz.prog.follows .mixedOrders = true := by kernel_rfl
          go_big_region_o
          clear mixed c1 c2 c3 f1 f2
          generalize ((wr.setCell ⟨b, off + I, none⟩ (.string B)).setCell ⟨b, off + J, none⟩ (.string A)).drew = W3 at HNx HFx ⊢
          clear e1 e2
          go_wp2_with fail
          go_roundw
          case rel => exact ⟨k + 1, u + 1, rfl, by have := HK.out; omega, Lib.hid (by have := HU.out; omega), HNx, HFx⟩
          case measure => simp [intOf]; omega
        · obtain rfl : u = t := by have := HT.out; have := hu.out; omega
          go_wp2_with fail
          go_end0
          have hs := HS.out
          have hr := HR.out
          rw [← hs] at hr
          exact ⟨rfl, by simpa using hr, HF.out⟩
set_option maxRecDepth 100000 in
set_option maxHeartbeats 8000000 in
theorem symRight_any (F : Bool) (P : Lines) (x : List UInt8) (Y Q : Lines) (h : RowAt b off sz (P ++ Y ++ [x] ++ Q) w) (hY : SortedL F Y) (h2 : 2 ≤ Y.length) (N cap : Nat) (hN : N = (P ++ Y ++ [x] ++ Q).length) (hL : N ≤ 1000000) (a m e : Int) (ha : a = P.length) (hm : m = (P.length + Y.length : Nat)) (he : e = (P.length + Y.length + 1 : Nat)) :
    Calls Tryz.prog 154 #[.slice (some ⟨b, off, none⟩) N cap, .int .i64 a, .int .i64 m, .int .i64 e, cmpV F] w (Turned b off sz (P ++ sortL F (Y ++ [x]) ++ Q) w) := by
  have h0 := Lib.hid h
  have hlen : N = P.length + 1 + Y.length + Q.length := by rw [hN]; simp; omega
  have b1 : (0 : Int) ≤ a := by omega
  have b2 : e ≤ (N : Int) := by omega
  have b3 : (N : Int) ≤ 1000000 := by omega
  have b4 : a ≤ m := by omega
  have b5 : e - m = 1 := by omega
  have b6 : ¬ (m - a = 1) := by omega
  have b7 : m < (N : Int) := by omega
  have HA := Lib.hid ha
  have HM := Lib.hid hm
  have HE := Lib.hid he
  have HLen := Lib.hid hlen
  have HYs := Lib.hid hY
  have hent := cmp_enters
  clear h hN hL hlen ha hm he hY h2
  unfold cmpV
  obtain ⟨ov, hov⟩ : ∃ ov, ov = ordV F := ⟨_, rfl⟩
  have HOv := Lib.hid hov
  rw [← hov]
  clear hov
  have r1 : IntKind.i64.wrap (m - a) = m - a := by rw [IntKind.wrap_i64]; omega
  have r2 : IntKind.i64.wrap (e - m) = 1 := by rw [IntKind.wrap_i64]; omega
  have g1 : ((m - a) == 1) = false := by simpa using b6
  go_enter Tryz.func154, Tryz.ntmps154
  go_wp2_with fail
  go_loopw [14, 15] (fun iv jv wr => ∃ i j : Int, iv = .int .i64 i ∧ jv = .int .i64 j ∧ a ≤ i ∧ i ≤ j ∧ j ≤ m ∧ RowKit.Hid (∀ (k : Nat) y, Y[k]? = some y → a + (k : Int) < i → upto F y x) ∧ RowKit.Hid (∀ (k : Nat) y, Y[k]? = some y → j ≤ a + (k : Int) → aheadB F x y = true) ∧ RowKit.Hid (RowAt b off sz (P ++ Y ++ [x] ++ Q) wr) ∧ RowKit.Hid (Frame (· = b) w wr)) (fun iv jv _ => (intOf jv - intOf iv).toNat)
  case atStart => exact ⟨a, m, rfl, rfl, Int.le_refl _, b4, Int.le_refl _, Lib.hid (fun k y _ hk => by omega), Lib.hid (fun k y hy hk => by have := (List.getElem?_eq_some_iff.1 hy).1; have := HA.out; have := HM.out; omega), h0, Lib.hid (Frame.refl _ _)⟩
  case round =>
    obtain ⟨i, j, rfl, rfl, hi, hij, hj, HLow, HHigh, HR, HF⟩ := hrel
    by_cases hlt : i < j
    · have s1 : IntKind.i64.wrap (i + j) = i + j := by rw [IntKind.wrap_i64]; omega
      go_wp2_with fail
      have hq1 : i ≤ (i + j) / 2 := by omega
      have hq2 : (i + j) / 2 < j := by omega
      generalize (i + j) / 2 = q at hq1 hq2 ⊢
      obtain ⟨k, hk⟩ : ∃ k : Nat, q = a + (k : Int) := ⟨(q - a).toNat, by omega⟩
      have hkY : k < Y.length := by have := HA.out; have := HM.out; omega
      obtain ⟨y, hy⟩ : ∃ y, Y[k]? = some y := ⟨_, List.getElem?_eq_getElem hkY⟩
      obtain ⟨I, hI⟩ : ∃ I : Nat, I = P.length + k := ⟨_, rfl⟩
      obtain ⟨J, hJ⟩ : ∃ J : Nat, J = P.length + Y.length := ⟨_, rfl⟩
      have hy2 : (P ++ Y ++ [x] ++ Q)[I]? = some y := by
        rw [show P ++ Y ++ [x] ++ Q = P ++ (Y ++ ([x] ++ Q)) by simp, List.getElem?_append_right (by omega), List.getElem?_append_left (by omega), show I - P.length = k by omega]
        exact hy
      have hx2 : (P ++ Y ++ [x] ++ Q)[J]? = some x := by
        rw [show P ++ Y ++ [x] ++ Q = (P ++ Y) ++ x :: Q by simp, show J = (P ++ Y).length by rw [hJ]; simp]
        exact get_mid _ _ _
      have c1 := HR.out.cell hx2
      have c2 := HR.out.cell hy2
      obtain ⟨A, hA⟩ : ∃ A : ByteArray, strV x = .string A := ⟨_, rfl⟩
      obtain ⟨B, hB⟩ : ∃ B : ByteArray, strV y = .string B := ⟨_, rfl⟩
      have HC := cmp_at F x y A B hA hB
      have hlt2 := cmpI_lt F x y
      rw [← HOv.out] at HC
      obtain ⟨c, hc⟩ : ∃ c, c = cmpI F x y := ⟨_, rfl⟩
      rw [← hc] at HC hlt2
      rw [hA] at c1
      rw [hB] at c2
      have e1 : q.toNat = I := by have := HA.out; omega
      have e2 : m.toNat = J := by have := HM.out; omega
      have p1 : (0 : Int) ≤ q := by omega
      have q1 : q < (N : Int) := by omega
      have q2 : (0 : Int) ≤ m := by omega
      have HCh := Lib.hid HC
      have HK := Lib.hid hk
      have HY := Lib.hid hy
      clear HC hc hk hkY hy hI hJ hy2 hx2 hA hB
      by_cases hah : aheadB F x y = true
      · have hc0 : c < 0 := hlt2.2 hah
        have hd0 : decide (c < 0) = true := decide_eq_true hc0
        have HA2 := Lib.hid hah
        clear hlt2 hah
        go_quiet (first | (go_at_call 59; exact Calls.quiet_of_same (HCh.out _)))
        have HR2 := Lib.hid (show RowAt b off sz (P ++ Y ++ [x] ++ Q) (wr.drewN nq) from HR.out)
        have HF2 := Lib.hid (show Frame (· = b) w (wr.drewN nq) from HF.out.drewN nq)
        clear c1 c2 HR HF
        generalize wr.drewN nq = W at HR2 HF2 ⊢
        clear e1 e2
        go_wp2_with fail
        go_roundw
        case rel => exact ⟨i, q, rfl, rfl, hi, by omega, by omega, HLow, Lib.hid (fun k' y' hy' hk' => by
            have h3 : upto F y y' := sorted_at HYs.out HY.out hy' (by have := HK.out; omega)
            cases h4 : aheadB F x y' with
            | true => rfl
            | false =>
              have h5 : upto F y x := upto_trans h3 h4
              rw [show aheadB F x y = false from h5] at HA2
              exact absurd HA2.out (by decide)), HR2, HF2⟩
        case measure => simp [intOf]; omega
      · have hc0 : ¬ c < 0 := fun e => hah (hlt2.1 e)
        have hd0 : decide (c < 0) = false := decide_eq_false hc0
        have HA2 := Lib.hid (show upto F y x from (by simpa using hah : aheadB F x y = false))
        clear hlt2 hah
        go_quiet (first | (go_at_call 59; exact Calls.quiet_of_same (HCh.out _)))
        have HR2 := Lib.hid (show RowAt b off sz (P ++ Y ++ [x] ++ Q) (wr.drewN nq) from HR.out)
        have HF2 := Lib.hid (show Frame (· = b) w (wr.drewN nq) from HF.out.drewN nq)
        clear c1 c2 HR HF
        generalize wr.drewN nq = W at HR2 HF2 ⊢
        clear e1 e2
        go_wp2_with fail
        go_roundw
        case rel => exact ⟨q + 1, j, rfl, rfl, by omega, by omega, hj, Lib.hid (fun k' y' hy' hk' => upto_trans (sorted_at HYs.out hy' HY.out (by have := HK.out; omega)) HA2.out), HHigh, HR2, HF2⟩
        case measure => simp [intOf]; omega
    · -- the place is found
      obtain rfl : i = j := by omega
      obtain ⟨t, ht⟩ : ∃ t : Nat, i = a + (t : Int) := ⟨(i - a).toNat, by omega⟩
      have htY : t ≤ Y.length := by have := HA.out; have := HM.out; omega
      have hsort : sortL F (Y ++ [x]) = Y.take t ++ x :: Y.drop t := by
        have h1 : SortedL F (Y.take t ++ Y.drop t) := by rw [List.take_append_drop]; exact HYs.out
        rw [put_is h1 (fun s hs => ?_) (fun s hs => ?_), List.take_append_drop]
        · exact sortL_congr (List.perm_append_singleton x Y)
        · obtain ⟨k, hk1, hk2⟩ := mem_take_at hs
          exact HLow.out k s hk1 (by omega)
        · obtain ⟨k, hk⟩ := mem_drop_at hs
          exact upto_of (HHigh.out (t + k) s hk (by omega))
      have HS := Lib.hid hsort
      have HT := Lib.hid ht
      have HTY := Lib.hid htY
      clear ht htY hsort HLow HHigh
      have HR0 := Lib.hid (show RowAt b off sz (P ++ (Y.take Y.length ++ x :: Y.drop Y.length) ++ Q) wr by simpa using HR.out)
      clear HR
      go_wp2_with fail
      go_loopw [17] (fun kv wr2 => ∃ (k : Int) (u : Nat), kv = .int .i64 k ∧ k = a + u ∧ RowKit.Hid (t ≤ u ∧ u ≤ Y.length) ∧ RowKit.Hid (RowAt b off sz (P ++ (Y.take u ++ x :: Y.drop u) ++ Q) wr2) ∧ RowKit.Hid (Frame (· = b) w wr2)) (fun kv _ => (intOf kv - i).toNat)
      case atStart => exact ⟨m, Y.length, rfl, by have := HA.out; have := HM.out; omega, ⟨HTY.out, Nat.le_refl _⟩, HR0, HF⟩
      case round =>
        clear HR0 HF
        obtain ⟨k, u, rfl, hk, hu, HR, HF⟩ := hrel
        by_cases hlt2 : k > i
        · have hut : t < u := by have := HT.out; omega
          have huY := hu.out.2
          obtain ⟨u, rfl⟩ : ∃ u', u = u' + 1 := ⟨u - 1, by omega⟩
          obtain ⟨y, hy⟩ : ∃ y, Y[u]? = some y := ⟨_, List.getElem?_eq_getElem (by omega)⟩
          obtain ⟨I, hI⟩ : ∃ I : Nat, I = P.length + u := ⟨_, rfl⟩
          have hlist : P ++ (Y.take (u + 1) ++ x :: Y.drop (u + 1)) ++ Q = (P ++ Y.take u) ++ y :: [] ++ x :: (Y.drop (u + 1) ++ Q) := by rw [takeSp_snoc hy]; simp
          have hlist2 : (P ++ Y.take u) ++ x :: [] ++ y :: (Y.drop (u + 1) ++ Q) = P ++ (Y.take u ++ x :: Y.drop u) ++ Q := by rw [drop_one hy]; simp
          have hy2 : (P ++ (Y.take (u + 1) ++ x :: Y.drop (u + 1)) ++ Q)[I]? = some y := by
            rw [hlist, show P ++ Y.take u ++ y :: [] ++ x :: (Y.drop (u + 1) ++ Q) = (P ++ Y.take u) ++ y :: (x :: (Y.drop (u + 1) ++ Q)) by simp, show I = (P ++ Y.take u).length by rw [hI]; simp; omega]
            exact get_mid _ _ _
          have hx2 : (P ++ (Y.take (u + 1) ++ x :: Y.drop (u + 1)) ++ Q)[I + 1]? = some x := by
            rw [hlist, show I + 1 = (P ++ Y.take u ++ y :: []).length by rw [hI]; simp; omega]
            exact get_mid _ _ _
          have hnext : RowAt b off sz (P ++ (Y.take u ++ x :: Y.drop u) ++ Q) ((wr.setCell ⟨b, off + (I + 1), none⟩ (strV y)).setCell ⟨b, off + I, none⟩ (strV x)).drew := by
            have h1 := HR.out.swapped hx2 hy2
            rw [hlist, swapL_mid' _ _ _ _ _ _ _ (by rw [hI]; simp; omega) (by rw [hI]; simp; omega), hlist2] at h1
            exact h1
          have hfr := HF.out.trans (frame_two (w := wr) b (off + (I + 1)) (off + I) (strV y) (strV x))
          obtain ⟨v, c3⟩ : ∃ v, (wr.setCell ⟨b, off + (I + 1), none⟩ (strV y)).cell? ⟨b, off + I, none⟩ = some v := by
            have hlx := (List.getElem?_eq_some_iff.1 hx2).1
            have hly := (List.getElem?_eq_some_iff.1 hy2).1
            obtain ⟨l, hl⟩ : ∃ l, ((P ++ (Y.take (u + 1) ++ x :: Y.drop (u + 1)) ++ Q).set (I + 1) y)[I]? = some l := ⟨_, List.getElem?_eq_getElem (by rw [List.length_set]; omega)⟩
            exact ⟨_, (HR.out.set hlx y).cell hl⟩
          have c1 := HR.out.cell hx2
          have c2 := HR.out.cell hy2
          have f1 := HR.out.froz (off + (I + 1))
          have f2 := HR.out.froz (off + I)
          obtain ⟨A, hA⟩ : ∃ A : ByteArray, strV x = .string A := ⟨_, rfl⟩
          obtain ⟨B, hB⟩ : ∃ B : ByteArray, strV y = .string B := ⟨_, rfl⟩
          rw [hA] at c1 hnext hfr
          rw [hB] at c2 c3 hnext hfr
          obtain ⟨J, hJ⟩ : ∃ J, J = I + 1 := ⟨_, rfl⟩
          rw [← hJ] at c1 c3 f1 hnext hfr
          have hPl := HA.out
          have hMl := HM.out
          have hEl := HE.out
          have e1 : k.toNat = J := by omega
          have e2 : (k - 1).toNat = I := by omega
          have p1 : (0 : Int) ≤ k := by omega
          have p2 : (0 : Int) ≤ k - 1 := by omega
          have q1 : k < (N : Int) := by omega
          have q2 : k - 1 < (N : Int) := by omega
          have w1 : IntKind.i64.wrap (k - 1) = k - 1 := by rw [IntKind.wrap_i64]; omega
          have HNx := Lib.hid hnext
          have HFx := Lib.hid hfr
          have HK := Lib.hid hk
          have HU := Lib.hid hut
          have HU2 := Lib.hid huY
          clear hnext hfr hA hB hJ hI hlist hlist2 hx2 hy2 hy hut huY hPl hMl hEl hk hu
          go_wp2_with fail
          have mixed : Tryz.prog.follows .mixedOrders = true := by kernel_rfl
          go_big_region_o
          clear mixed c1 c2 c3 f1 f2
          generalize ((wr.setCell ⟨b, off + J, none⟩ (.string B)).setCell ⟨b, off + I, none⟩ (.string A)).drew = W3 at HNx HFx ⊢
          clear e1 e2
          go_wp2_with fail
          go_roundw
          case rel => exact ⟨k - 1, u, rfl, by have := HK.out; omega, ⟨by have := HU.out; omega, by have := HU2.out; omega⟩, HNx, HFx⟩
          case measure => simp [intOf]; omega
        · obtain rfl : u = t := by have := HT.out; have := hu.out; omega
          go_wp2_with fail
          go_end0
          have hs := HS.out
          have hr := HR.out
          rw [← hs] at hr
          exact ⟨rfl, by simpa using hr, HF.out⟩
end

end Go.Proofs.YtpgigpajpcianaaGreatDoor
