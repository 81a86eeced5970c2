/- What Cut does, of every splitter that may be and every slice of bytes. -/
import Derived.Test.YteghdepedlaneaaDoorLtake
import Derived.StillTailTactics
namespace Go.Proofs.YteghdepedlaneaaDoor
open Go.RowKit

set_option maxRecDepth 100000 in
set_option maxHeartbeats 400000 in
theorem cut_nil (v : Value) (w : World) : Calls Tryd.prog 98 #[.pointer none, v] w fun e w' => e = .returned (.tuple #[.slice none 0 0, .int .i64 20]) ∧ w' = w := by
  go_enter Tryd.func98, Tryd.ntmps98
  go_wp2
  go_ret2
  exact ⟨rfl, rfl⟩

set_option maxRecDepth 100000 in
set_option maxHeartbeats 400000 in
theorem cut_failed {g o : Nat} {T : TypeId} {pre post : List Value} {b : List UInt8} {w : World} (v : Value) (h : Spl g o T pre post true b w) : Calls Tryd.prog 98 #[.pointer (some ⟨g, o, none⟩), v] w fun e w' => e = .returned (.tuple #[.slice none 0 0, .int .i64 20]) ∧ w' = w := by
  have h0 := h.c0
  clear h
  go_enter Tryd.func98, Tryd.ntmps98
  go_wp2
  go_ret2
  exact ⟨rfl, rfl⟩

/-- The call answers these lines, in memory of its own, and this number; the splitter is as told; nothing else has turned. -/
def CutEnd (g o : Nat) (T : TypeId) (pre post : List Value) (w : World) (L : Lines) (d : Option (List UInt8)) (e : Ending) (w' : World) : Prop :=
  ∃ v, e = .returned (.tuple #[v, .int .i64 (if d = none then 20 else 0)]) ∧ w'.ownsRow w.heap.size 9 1 v L.length (L.map strV) ∧ Spl g o T pre post d.isNone (d.getD []) w' ∧ Frame (· = g) w w'

/-- What holds ahead of each round. -/
structure CutInv (g o : Nat) (T : TypeId) (pre post : List Value) (b0 bs : List UInt8) (w : World) (lv : Value) (k : Nat) (wr : World) : Prop where
  le : k ≤ bs.length
  ex : ∃ b L, cutL b0 bs = (L ++ (cutL b (bs.drop k)).1, (cutL b (bs.drop k)).2) ∧ wr.ownsRow w.heap.size 9 1 lv L.length (L.map strV) ∧ Spl g o T pre post false b wr ∧ L.length ≤ k
  fr : Frame (· = g) w wr

theorem Spl.put {g o : Nat} {T : TypeId} {pre post : List Value} {b : List UInt8} {w : World} (h : Spl g o T pre post false b w) (c : UInt8) (hl : b.length < 64) :
    Spl g o T pre post false (b ++ [c]) ((w.setCell ⟨g, o + 2 + b.length, none⟩ (.int .u8 c.toNat)).setCell ⟨g, o + 1, none⟩ (.int .i64 ((b.length : Int) + 1))) := by
  refine ⟨?_, h.off, by simp; omega, fun h => by cases h⟩
  rw [setCell_row (setCell_row h.heap _ _), ← h.off, rowA_put pre false b post c hl]

set_option maxRecDepth 100000 in
set_option maxHeartbeats 4000000 in
theorem cut_any {g o : Nat} {T : TypeId} {pre post : List Value} {b0 : List UInt8} {w : World} (v : Value) (bs : List UInt8) (h : Spl g o T pre post false b0 w) (hB : IsBytes (· ≠ g) w v bs) (hsz : bs.length ≤ 1000000) :
    Calls Tryd.prog 98 #[.pointer (some ⟨g, o, none⟩), v] w (CutEnd g o T pre post w (cutL b0 bs).1 (cutL b0 bs).2) := by
  have h0 := h.c0
  have hlt := h.lt
  have HB := Lib.hid hB
  obtain ⟨a, cap, rfl, -, -⟩ := hB
  have hI : CutInv g o T pre post b0 bs w (.slice none 0 0) 0 w := ⟨Nat.zero_le _, ⟨b0, [], by simp, World.ownsRow_nil w _ 9 1, h, by simp⟩, Frame.refl _ _⟩
  clear h
  obtain ⟨i0, hi, hz0, hz1, hz2⟩ := info_parts Tryd.info9
  go_enter Tryd.func98, Tryd.ntmps98
  go_wp2
  clear h0
  go_loopw [6, 19] (fun lv i wr => ∃ (k : Nat) (u : Value), u = lv ∧ i = .int .i64 k ∧ CutInv g o T pre post b0 bs w u k wr) (fun _ i _ => bs.length - (intOf i).toNat)
  case atStart => exact ⟨0, _, rfl, rfl, hI⟩
  case round =>
    obtain ⟨k, lv, rfl, rfl, hk, ⟨b, L, hcut, hown, hs, hLk⟩, hfr⟩ := hrel
    by_cases hlt2 : k < bs.length
    · obtain ⟨c, hc⟩ : ∃ c, bs[k]? = some c := ⟨bs[k], by simp⟩
      have hd := drop_at hc
      obtain ⟨_, _, e, _, hcell⟩ := HB.out.frame hfr (fun _ h => h)
      cases e
      obtain ⟨gb, off, rfl, hgb, hx⟩ := hcell k c hc
      rw [hd] at hcut
      have HC := Lib.hid hcut
      have HO := Lib.hid hown
      have HS := Lib.hid hs
      have g1 : (0 : Int) ≤ (k : Int) := by omega
      have g2 : (k : Int) < (bs.length : Int) := by omega
      have c1 := hs.c1
      have hle := hs.le
      clear hcut hown hs hc hd hI hcell
      by_cases hten : c = 10
      · have t1 : ((c.toNat : Int) == 10) = true := by simp [hten]
        go_wp2_with fail
        refine (take_any HS.out).mono ?_
        rintro e w1 ⟨rfl, hs1, hfr1⟩
        have hof : ∀ k, lv.ownBlock = some k → w.heap.size ≤ k := fun k e => (HO.out.lt k e).1
        have hown1 := hfr1.owns HO.out (fun k e hk => by have := hof k e; omega)
        have HO1 := Lib.hid hown1
        have HS1 := Lib.hid hs1
        have hw1 : w.heap.size ≤ w1.heap.size := Nat.le_trans hfr.size hfr1.size
        obtain ⟨S, hS⟩ : ∃ S : ByteArray, strV b = .string S := ⟨_, rfl⟩
        rw [hS]
        have HSS := Lib.hid hS
        clear hown1 hs1 hS c1 hx
        go_wp2_with (at_builtin; refine wpList_append_own _ rfl (.tmp 25) (.tmp 28) 65 rfl w.heap.size 9 i0 (.string ByteArray.empty) 1 16 Tryd.underlying65 hi hz0 hz1 hz2 rfl (by decide) _ _ _ rfl (HO1.out.alloc _) ⟨w1.heap.size, 0, none⟩ 1 1 [.string S] rfl rfl (cell_one_new _ _ _) (by simp [Value.oneCell']) (by unfold maxLen; omega) (by omega) (by simp; omega) ?_; intro v' w2 hown' hgrow _)
        go_roundw
        case rel =>
          refine ⟨k + 1, _, rfl, by go_num, by omega, ⟨[], L ++ [b], ?_, by rw [List.map_append, List.length_append]; simpa [HSS.out] using hown', ?_, by simp; omega⟩, ?_⟩
          · rw [HC.out, hten, cutL_end]
            simp
          · exact HS1.out.frame (((Frame.refl (fun k => w.heap.size ≤ k) w1).alloc _).grown hgrow (fun k _ e => hof k e)) (by omega)
          · exact ((hfr.trans hfr1).alloc _).grown hgrow (fun k hk e => by have := hof k e; omega)
        case measure => simp [intOf]; omega
      · have t1 : ((c.toNat : Int) == 10) = false := by
          simp
          intro e
          exact hten (UInt8.toNat_inj.1 (by simp; omega))
        by_cases h64 : b.length = 64
        · have t2 : ((b.length : Int) == 64) = true := by simp [h64]
          go_wp2_with (first
            | (with_reducible refine wpList_build1 rfl 105 0 (.const (.bool true)) rfl (.bool true) rfl (splA true []) Tryd.built105_fail ?_)
            | with_reducible refine wpList_store_mid rfl 105 (.tmp 37) (.tmp 36) rfl g o (splA true []) rfl rfl (by rw [size_splA (Nat.zero_le _)]; exact HS.out.there) (by rw [Tryd.size105, size_splA (Nat.zero_le _)]) (one_splA _ _) ?_)
          go_ret2
          rw [HC.out, cutL_long b _ c hten h64]
          refine ⟨lv, rfl, ?_, HS.out.cells true [] (by simp) (fun _ => rfl), hfr.trans (Frame.cells g o _)⟩
          simpa using (Frame.cells g o (splA true []).toList).owns HO.out (fun k e hk => by have := (HO.out.lt k e).1; omega)
        · have t2 : ((b.length : Int) == 64) = false := by simp; omega
          have g3 : (0 : Int) ≤ (b.length : Int) := by omega
          have g4 : (b.length : Int) < 64 := by omega
          go_wp2
          go_still_tail 9, (by kernel_rfl)
          have cn := rowA_next pre false b post (by omega)
          have f1 := fun j => frozen_of_row _ g j _ _ HS.out.heap
          have c2 : _ = some (Value.int .u8 0) := (cell_of_row _ g (o + 2 + b.length) _ _ _ HS.out.heap).trans (HS.out.off ▸ cn)
          go_wp2
          have hfr2 : Frame (· = g) _ _ := ((Frame.cell wr ⟨g, o + 2 + b.length, none⟩ (.int .u8 c.toNat)).trans (Frame.cell _ ⟨g, o + 1, none⟩ (.int .i64 ((b.length : Int) + 1)))).drew
          refine ⟨⟨k + 1, _, rfl, by go_num, by omega, ⟨b ++ [c], L, ?_, ?_, ?_, by omega⟩, hfr.trans hfr2⟩, by simp [intOf]; omega⟩
          · rw [HC.out, cutL_put b _ c hten h64]
          · exact hfr2.owns HO.out (fun k e hk => by have := (HO.out.lt k e).1; omega)
          · have := HS.out.put c (by omega)
            exact ⟨this.heap, this.off, this.le, this.fail⟩
    · obtain rfl : k = bs.length := by omega
      have g2 : ¬ (bs.length : Int) < (bs.length : Int) := by omega
      have HC := Lib.hid hcut
      have HO := Lib.hid hown
      have HS := Lib.hid hs
      clear hcut hown hs hI hlt2
      go_wp2
      go_ret2
      rw [HC.out, List.drop_length]
      simp only [cutL]
      exact ⟨lv, rfl, by simpa using HO.out, HS.out, hfr⟩

end Go.Proofs.YteghdepedlaneaaDoor
