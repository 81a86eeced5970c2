/- What FilesKeeps does. -/
import Derived.Test.YtpengkkbmenkpaaFsawake
import Derived.Test.YtpengkkbmenkpaaFsmade
import Derived.Test.YtpengkkbmenkpaaFscalls
namespace Go.Proofs.Ytpengkkbmenkpaa
open Go.RowKit

/-! The law's texts in block B. -/
def textsA (G : Nat → List UInt8) : Array Value := ((List.range 66).map fun j => strV (G j)).toArray
def TextsAt (B : Nat) (G : Nat → List UInt8) (w : World) : Prop := w.heap[B]? = some (.cells (textsA G) 41 (0, 0))
section
variable {B : Nat} {G : Nat → List UInt8} {w : World}
theorem TextsAt.cell (h : TextsAt B G w) {j : Nat} (hj : j < 66) : w.cell? ⟨B, j, none⟩ = some (strV (G j)) := by
  rw [cell_of_row _ _ _ _ _ _ h]
  simp [textsA, hj]
theorem TextsAt.froz (h : TextsAt B G w) (j : Nat) : w.frozen? ⟨B, j, none⟩ = false := by simp [World.frozen?, show w.heap[B]? = _ from h]
theorem TextsAt.lt (h : TextsAt B G w) : B < w.heap.size := (Array.getElem?_eq_some_iff.1 h).1
theorem TextsAt.frame {p : Nat → Prop} {w' : World} (h : TextsAt B G w) (hf : Frame p w w') (hp : ¬ p B) : TextsAt B G w' := hf.heap h hp
theorem TextsAt.put (h : TextsAt B G w) (j : Nat) (t : List UInt8) : TextsAt B (fun i => if i = j then t else G i) (w.setCell ⟨B, j, none⟩ (strV t)) := by
  show (w.setCell ⟨B, j, none⟩ (strV t)).heap[B]? = _
  rw [setCell_row h]
  congr 2
  apply Array.ext_getElem?
  intro i
  simp only [textsA, List.setIfInBounds_toArray, List.getElem?_toArray, List.getElem?_set, List.length_map, List.length_range, List.getElem?_map]
  by_cases hi : j = i
  · subst hi
    by_cases h66 : j < 66
    · simp [h66]
    · simp [h66]
  · have hi' : ¬ i = j := fun e => hi e.symm
    simp only [hi, if_false]
    by_cases h66 : i < 66
    · simp [h66, hi']
    · simp [h66]
end

theorem Try.zeroTexts (w : World) : (zeroValue 41).run Try.prog w = .ok (.agg (textsA fun _ => [])) w := by kernel_rfl

/-- What is known within a round: the disk in block g, the law's texts in block tb, the call in block cb. -/
structure KRound (w : World) (S : Script) (g tb cb : Nat) (c : FCall) (bv : Value) (G : Nat → List UInt8) (s : DSt) (own : Nat → Nat) (W : World) : Prop where
  disk : DiskAt w.heap.size g own S s W
  texts : TextsAt tb G W
  call : W.heap[cb]? = some (.cells (callL c bv).toArray 36 (0, 0))
  byt : IsBytes (· < w.heap.size) W bv c.b
  ot : own tb = 0
  oc : own cb = 0
  lt : w.heap.size ≤ tb
  lc : w.heap.size ≤ cb
  ne : tb ≠ cb
  bel : Below w.heap.size w W
section
variable {w : World} {S : Script} {g tb cb : Nat} {c : FCall} {bv : Value} {G : Nat → List UInt8} {s : DSt} {own : Nat → Nat} {W : World}
theorem KRound.k0 (h : KRound w S g tb cb c bv G s own W) : W.cell? ⟨cb, 0, none⟩ = some (.int .i64 c.op) := by rw [cell_of_row _ _ _ _ _ _ h.call]; rfl
theorem KRound.k1 (h : KRound w S g tb cb c bv G s own W) : W.cell? ⟨cb, 1, none⟩ = some (.int .i64 c.no) := by rw [cell_of_row _ _ _ _ _ _ h.call]; rfl
theorem KRound.k2 (h : KRound w S g tb cb c bv G s own W) : W.cell? ⟨cb, 2, none⟩ = some (.int .i64 c.at') := by rw [cell_of_row _ _ _ _ _ _ h.call]; rfl
theorem KRound.k3 (h : KRound w S g tb cb c bv G s own W) : W.cell? ⟨cb, 3, none⟩ = some (.int .i64 c.most) := by rw [cell_of_row _ _ _ _ _ _ h.call]; rfl
theorem KRound.k4 (h : KRound w S g tb cb c bv G s own W) : W.cell? ⟨cb, 4, none⟩ = some bv := by rw [cell_of_row _ _ _ _ _ _ h.call]; rfl
theorem KRound.lowOwn (h : KRound w S g tb cb c bv G s own W) : ∀ k, k < w.heap.size → own k = 0 := fun k hk => Classical.byContradiction fun h0 => by have := (h.disk.bnd k h0).1; omega
theorem KRound.below {W' : World} (h : KRound w S g tb cb c bv G s own W) (hb : Below W.heap.size W W') : KRound w S g tb cb c bv G s own W' :=
  ⟨h.disk.below hb, h.texts.frame (Below.toFrame hb fun _ => False) (fun h => h), (Below.toFrame hb fun _ => False).heap h.call (fun h => h), h.byt.below hb, h.ot, h.oc, h.lt, h.lc, h.ne, h.bel.trans (hb.mono h.bel.size)⟩
/-- The disk has turned. -/
theorem KRound.left {W' : World} {s' : DSt} (h : KRound w S g tb cb c bv G s own W) (hl : DiskLeft w.heap.size g own S s' W W') : ∃ own', KRound w S g tb cb c bv G s' own' W' := by
  obtain ⟨own', hd, ho, hf⟩ := hl
  refine ⟨own', hd, h.texts.frame hf (fun e => e h.ot), hf.heap h.call (fun e => e h.oc), h.byt.frame hf (fun k hk e => e (h.lowOwn k hk)), ?_, ?_, h.lt, h.lc, h.ne, h.bel.trans (hf.below h.bel.size (fun k hk => (h.disk.bnd k hk).1))⟩
  · rw [ho tb h.texts.lt]
    exact h.ot
  · rw [ho cb (Array.getElem?_eq_some_iff.1 h.call).1]
    exact h.oc
theorem KRound.read {W' : World} {s' : DSt} (h : KRound w S g tb cb c bv G s own W) (hd : DiskAt w.heap.size g own S s' W') (hf : Frame (· = g) W W') : KRound w S g tb cb c bv G s' own W' := by
  have og : own g ≠ 0 := by obtain ⟨bf, mf, F, hx⟩ := h.disk; rw [hx.og]; omega
  refine ⟨hd, h.texts.frame hf (fun e => og (by have e' : tb = g := e; rw [← e']; exact h.ot)), hf.heap h.call (fun e => og (by have e' : cb = g := e; rw [← e']; exact h.oc)), h.byt.frame hf (fun k hk e => og (by have e' : k = g := e; rw [← e']; exact h.lowOwn k hk)), h.ot, h.oc, h.lt, h.lc, h.ne,
    h.bel.trans (hf.below h.bel.size (fun k hk => by have e' : k = g := hk; subst e'; exact (h.disk.bnd k og).1))⟩
/-- A text of the law's is put. -/
theorem KRound.put (h : KRound w S g tb cb c bv G s own W) (j : Nat) (t : List UInt8) : KRound w S g tb cb c bv (fun i => if i = j then t else G i) s own (W.setCell ⟨tb, j, none⟩ (strV t)) := by
  have hf := Frame.cell W ⟨tb, j, none⟩ (strV t)
  exact ⟨h.disk.frame hf (fun k e => by have e' : k = tb := e; rw [e']; exact h.ot), h.texts.put j t, hf.heap h.call (fun e => h.ne (by have e' : cb = tb := e; exact e'.symm)), h.byt.frame hf (fun k hk e => by have e' : k = tb := e; have := h.lt; omega), h.ot, h.oc, h.lt, h.lc, h.ne, h.bel.setCell (by exact h.lt) _⟩
end

/-- What holds ahead of each round. -/
structure KInv (w : World) (S : Script) (L : List FCall) (g tb k : Nat) (s : DSt) (own : Nat → Nat) (W : World) : Prop where
  le : k ≤ L.length
  disk : DiskAt w.heap.size g own S s W
  texts : TextsAt tb (textOf s.T) W
  did : Did (2 * k) (1024 * k) s
  ot : own tb = 0
  lt : w.heap.size ≤ tb
  bel : Below w.heap.size w W
theorem KRound.next {w : World} {S : Script} {L : List FCall} {g tb cb : Nat} {c : FCall} {bv : Value} {s : DSt} {own : Nat → Nat} {W : World} {k : Nat} (h : KRound w S g tb cb c bv (textOf s.T) s own W) (hk : k < L.length) (hd : Did (2 * (k + 1)) (1024 * (k + 1)) s) :
    KInv w S L g tb (k + 1) s own W := ⟨hk, h.disk, h.texts, hd, h.ot, h.lt, h.bel⟩

theorem str_sub {t : List UInt8} {S F : ByteArray} {j m : Nat} (hS : strV t = .string S) (hF : strV ((t.drop j).take m) = .string F) : S.extract j (j + F.size) = F := by
  rw [strV] at hS hF
  cases hS
  cases hF
  have h1 : (⟨((t.drop j).take m).toArray⟩ : ByteArray).size = ((t.drop j).take m).length := by simp [ByteArray.size]
  rw [h1]
  apply ByteArray.ext
  simp only [ByteArray.data_extract, List.extract_toArray]
  congr 1
  simp only [List.extract_eq_take_drop, List.length_take, List.length_drop]
  rw [show j + min m (t.length - j) - j = min m (t.length - j) by omega, ← List.length_drop]
  by_cases h : m ≤ (t.drop j).length
  · rw [Nat.min_eq_left h]
  · rw [Nat.min_eq_right (by omega), List.take_length, List.take_of_length_le (by omega)]

def TrueEnd (w : World) (e : Ending) (w' : World) : Prop := e = .returned (.bool true) ∧ Below w.heap.size w w'

set_option maxRecDepth 100000 in
set_option maxHeartbeats 12000000 in
theorem keeps_any (sv lv : Value) (S : Script) (L : List FCall) (w : World) (hS : IsScript (· < w.heap.size) w sv S) (hL : IsFCalls (· < w.heap.size) w lv L) (hS64 : Script64 S) (hL64 : Calls64 L) :
    Calls Try.prog 4 #[sv, lv] w (TrueEnd w) := by
  have HS := Lib.hid hS
  have HL := Lib.hid hL
  have hz := Try.zeroTexts
  have HS64 := Lib.hid hS64
  have HL64 := Lib.hid hL64
  obtain ⟨sa, sc, rfl, -⟩ := hS
  obtain ⟨la, lc, rfl, -⟩ := hL
  clear hS64 hL64
  go_enter Try.func4, Try.ntmps4
  go_wp2_with fail
  refine (heavy_any sa sc S _ L w HL.out).mono ?_
  rintro e w0 ⟨b, rfl, rfl, hlight⟩
  cases b with
  | true =>
    clear hlight
    go_wp2_with fail
    refine (awake_any _).mono ?_
    rintro e w1 ⟨rfl, hb⟩
    have HB := Lib.hid hb
    clear hb
    go_wp2_with fail
    go_ret
    exact ⟨rfl, HB.out⟩
  | false =>
    have hlt := hlight rfl
    have HLT := Lib.hid hlt
    clear hlight hlt
    go_wp2_with fail
    refine (new_any _ S _ HS.out (by have := HLT.out.few; omega) HS64.out).mono ?_
    rintro e w1 ⟨g, own, rfl, hd, hb⟩
    have HD := Lib.hid hd
    have HB := Lib.hid hb
    clear hd hb
    go_wp2_with fail
    have hi0 : KInv w0 S L g w1.heap.size 0 dst0 own (w1.alloc (.cells (textsA fun _ => []) 41)) := by
      have hb1 : Below w1.heap.size w1 (w1.alloc (.cells (textsA fun _ => []) 41)) := (Below.refl _ _).alloc (Nat.le_refl _) _
      refine ⟨Nat.zero_le _, HD.out.below hb1, ?_, did_0, Classical.byContradiction fun h0 => by have := (HD.out.bnd _ h0).2; omega, HB.out.size, HB.out.trans (hb1.mono HB.out.size)⟩
      have : textOf dst0.T = fun _ => [] := by funext j; cases j <;> simp [textOf, dst0]
      rw [this]
      exact heap_alloc_last _ _
    have HI0 := Lib.hid hi0
    clear hi0 HD HB
    obtain ⟨tb, htb⟩ : ∃ tb, tb = w1.heap.size := ⟨_, rfl⟩
    rw [← htb] at HI0 ⊢
    generalize w1.alloc (.cells (textsA fun _ => []) 41) = W1 at HI0 ⊢
    clear htb hz
    go_wp2_with fail
    go_loopw [7] (fun i wr => ∃ (k : Nat) (s : DSt) (own : Nat → Nat), i = .int .i64 k ∧ KInv w0 S L g tb k s own wr) (fun i _ => L.length - (intOf i).toNat)
    case atStart => exact ⟨0, _, _, rfl, HI0.out⟩
    case round =>
      clear HI0 own
      obtain ⟨k, s, own, rfl, hinv⟩ := hrel
      by_cases hkl : k < L.length
      · have q1 : (0 : Int) ≤ (k : Int) := by omega
        have q2 : (k : Int) < (L.length : Int) := by omega
        obtain ⟨c, hc⟩ : ∃ c, L[k]? = some c := ⟨L[k], by simp⟩
        obtain ⟨a', cap', e, hcs⟩ := HL.out.below hinv.bel
        obtain ⟨gb, off, bv, rfl, -, d0, d1, d2, d3, d4, hby⟩ := hcs k c hc
        cases e
        have hmem := List.mem_of_getElem? hc
        obtain ⟨i0, i1, i2, i3⟩ := HL64.out c hmem
        have hb3 := HLT.out.size c hmem
        have hlen := HLT.out.len
        have q3 : (k : Int) ≤ 300 := by omega
        clear hcs hc hmem
        obtain ⟨ba, bc, rfl, -⟩ := id hby
        have HV := Lib.hid hinv
        have HBY := Lib.hid hby
        have HNO := Lib.hid i1
        have HB3 := Lib.hid hb3
        have HLEN := Lib.hid hlen
        clear hinv hby i0 i1 i2 i3 hb3 hlen
        go_upto_region 9 with fail
        have hr1 : KRound w0 S g tb wr.heap.size c (.slice ba c.b.length bc) (textOf s.T) s own (wr.alloc (.cells #[.int .i64 c.op, .int .i64 c.no, .int .i64 c.at', .int .i64 c.most, .slice ba c.b.length bc] 36)) := by
          have hb1 : Below wr.heap.size wr (wr.alloc (.cells #[.int .i64 c.op, .int .i64 c.no, .int .i64 c.at', .int .i64 c.most, .slice ba c.b.length bc] 36)) := (Below.refl _ _).alloc (Nat.le_refl _) _
          exact ⟨HV.out.disk.below hb1, HV.out.texts.frame (Below.toFrame hb1 fun _ => False) (fun h => h), heap_alloc_last _ _, HBY.out.below hb1, HV.out.ot, Classical.byContradiction fun h0 => by have := (HV.out.disk.bnd _ h0).2; omega, HV.out.lt, HV.out.bel.size,
            fun e => by have := HV.out.texts.lt; omega, HV.out.bel.trans (hb1.mono HV.out.bel.size)⟩
        obtain ⟨cb, hcb⟩ : ∃ cb, cb = wr.heap.size := ⟨_, rfl⟩
        rw [← hcb] at hr1 ⊢
        generalize wr.alloc (.cells #[.int .i64 c.op, .int .i64 c.no, .int .i64 c.at', .int .i64 c.most, .slice ba c.b.length bc] 36) = W1 at hr1 ⊢
        have k0 := hr1.k0
        have k1 := hr1.k1
        have k2 := hr1.k2
        have k3 := hr1.k3
        have k4 := hr1.k4
        have HR1 := Lib.hid hr1
        have HDID := Lib.hid HV.out.did
        have HKL := Lib.hid hkl
        clear hr1 hcb d0 d1 d2 d3 d4 HBY HL HV hkl
        go_wp2_with fail
        refine (what_any c.op c.no c.at' c.most ba c.b.length bc W1).mono ?_
        rintro e W2 ⟨rfl, hb2⟩
        have hr2 := HR1.out.below hb2
        clear hb2 k0 k1 k2 k3 k4
        have hsm : Small s := HDID.out.small (by have := HLEN.out; have := HKL.out; omega) (by have := HLEN.out; have := HKL.out; omega)
        have HSM := Lib.hid hsm
        have hwr := whatOf_range c.op
        have k1 := hr2.k1
        have k2 := hr2.k2
        have k3 := hr2.k3
        have k4 := hr2.k4
        have HR2 := Lib.hid hr2
        clear hr2 hsm HR1
        obtain hw | hw | hw | hw : whatOf c.op = 0 ∨ whatOf c.op = 1 ∨ whatOf c.op = 2 ∨ whatOf c.op = 3 := by omega
        · -- Create
          rw [hw]
          clear hw hwr k1 k2 k3 k4
          go_wp2_with fail
          refine (create_any HR2.out.disk HSM.out).mono ?_
          rintro e W3 ⟨rfl, hl⟩
          obtain ⟨own3, hr3⟩ := HR2.out.left hl
          have hd3 : Did (2 * (k + 1)) (1024 * (k + 1)) (createS S s) := (HDID.out.create S).mono (by omega) (by omega)
          have hn3 : KInv w0 S L g tb (k + 1) (createS S s) own3 W3 := by
            refine KRound.next (cb := cb) (c := c) (bv := .slice ba c.b.length bc) ?_ HKL.out hd3
            rw [text_create]
            exact hr3
          have HN3 := Lib.hid hn3
          by_cases he : createE S s = 0
          · have hm : ¬ 64 ≤ s.T.length := fun h => by unfold createE at he; rw [if_pos h] at he; cases he
            have hn : createN S s = ((s.T.length + 1 : Nat) : Int) := by unfold createN; rw [if_pos he]; rfl
            have ct : W3.cell? ⟨tb, s.T.length + 1, none⟩ = some (.string ⟨#[]⟩) := by
              have := hr3.texts.cell (j := s.T.length + 1) (by omega)
              rw [textOf_new] at this
              exact this
            rw [hn, he]
            obtain ⟨N, hN⟩ : ∃ N, N = s.T.length + 1 := ⟨_, rfl⟩
            rw [← hN] at ct ⊢
            have p1 : (1 : Int) ≤ (N : Int) := by omega
            have p2 : (N : Int) ≤ 64 := by omega
            have p3 : (N : Int) < 66 := by omega
            clear hl hr3 hd3 hn3 he hm hn hN
            go_wp2_with fail
            exact ⟨⟨k + 1, _, _, by go_num, HN3.out⟩, by have := HKL.out; simp [intOf]; omega⟩
          · obtain ⟨E, hE⟩ : ∃ E, E = createE S s := ⟨_, rfl⟩
            rw [← hE] at he ⊢
            have g1 : (E == 0) = false := by simpa using he
            obtain ⟨N, hN⟩ : ∃ N, N = createN S s := ⟨_, rfl⟩
            rw [← hN]
            clear hl hr3 hd3 hn3 hE hN he
            go_wp2_with fail
            exact ⟨⟨k + 1, _, _, by go_num, HN3.out⟩, by have := HKL.out; simp [intOf]; omega⟩
        · -- Write
          rw [hw]
          clear hw hwr k2 k3
          go_wp2_with fail
          refine (write_any HR2.out.disk HSM.out HNO.out _ c.b HR2.out.byt HR2.out.lowOwn).mono ?_
          rintro e W3 ⟨rfl, hl⟩
          obtain ⟨own3, hr3⟩ := HR2.out.left hl
          have hd3 : Did (2 * (k + 1)) (1024 * (k + 1)) (writeS S s c.no c.b) := (HDID.out.write S c.no c.b).mono (by omega) (by omega)
          by_cases he : writeE S s c.no c.b = 0
          · obtain ⟨N0, hN0, hlt, htx⟩ := text_write he
            rw [he]
            have k1 : W3.cell? ⟨cb, 1, none⟩ = some (.int .i64 ((N0 + 1 : Nat) : Int)) := by rw [hr3.k1, hN0]; rfl
            have k4 := hr3.k4
            obtain ⟨N, hN⟩ : ∃ N, N = N0 + 1 := ⟨_, rfl⟩
            rw [← hN] at k1 htx
            have hT := HSM.out.T
            have ct := hr3.texts.cell (j := N) (by omega)
            have zt := hr3.texts.froz N
            have hcv := conv_any (hr3.byt.below (Below.drew (Below.refl _ _)))
            obtain ⟨S1, hS1⟩ : ∃ S1 : ByteArray, strV (textOf s.T N) = .string S1 := ⟨_, rfl⟩
            obtain ⟨S2, hS2⟩ : ∃ S2 : ByteArray, strV c.b = .string S2 := ⟨_, rfl⟩
            rw [hS1] at ct
            rw [hS2] at hcv
            have z1 := strV_size hS1
            have z2 := strV_size hS2
            have z3 := textOf_len HDID.out N
            have hadd := add_fits (S := S1) (T := S2) (by have := HLEN.out; have := HKL.out; omega) (by have := HB3.out; omega)
            have hput := (hr3.put N (textOf s.T N ++ c.b)).below (Below.drew (Below.refl _ _))
            rw [strV_add hS1 hS2, ← htx] at hput
            have HN3 := Lib.hid (hput.next HKL.out hd3)
            have p2 : (0 : Int) ≤ (N : Int) := by omega
            have p3 : (N : Int) < 66 := by omega
            clear hl hr3 hd3 he hN0 hlt htx hN hT hS1 hS2 z1 z2 z3 hput
            go_wp2_with fail
            go_region
            go_wp2_with fail
            exact ⟨⟨k + 1, _, _, by go_num, HN3.out⟩, by have := HKL.out; simp [intOf]; omega⟩
          · have hn3 : KInv w0 S L g tb (k + 1) (writeS S s c.no c.b) own3 W3 := by
              refine KRound.next (cb := cb) (c := c) (bv := .slice ba c.b.length bc) ?_ HKL.out hd3
              rw [text_write_no S s c.no c.b he]
              exact hr3
            have HN3 := Lib.hid hn3
            obtain ⟨E, hE⟩ : ∃ E, E = writeE S s c.no c.b := ⟨_, rfl⟩
            rw [← hE] at he ⊢
            have g1 : (E == 0) = false := by simpa using he
            clear hl hr3 hd3 hn3 hE he
            go_wp2_with fail
            exact ⟨⟨k + 1, _, _, by go_num, HN3.out⟩, by have := HKL.out; simp [intOf]; omega⟩
        · -- Read
          rw [hw]
          clear hw hwr
          go_wp2_with fail
          refine (read_any HR2.out.disk HSM.out HNO.out 0 1000000).mono ?_
          rintro e W3 ⟨v1, rfl, ho1, hd3, hf3⟩
          have hr3 := HR2.out.read hd3 hf3
          have hdid3 : Did (2 * k + 1) (1024 * k) (readS S s c.no 0 1000000) := HDID.out.read S c.no 0 1000000
          have hsm3 := hdid3.small (by have := HLEN.out; have := HKL.out; omega) (by have := HLEN.out; have := HKL.out; omega)
          have htx3 := text_read S s c.no 0 1000000
          have hcv := conv_any (isBytes_of_owns (show (W3.drew).ownsRow W2.heap.size 5 1 v1 _ _ from ho1))
          obtain ⟨va1, vc1, rfl⟩ := owns_slice ho1
          obtain ⟨S1, hS1⟩ : ∃ S1 : ByteArray, strV (readB S s c.no 0 1000000) = .string S1 := ⟨_, rfl⟩
          rw [hS1] at hcv
          have k1 := hr3.k1
          have k2 := hr3.k2
          have k3 := hr3.k3
          obtain ⟨E1, hE1⟩ : ∃ E1, E1 = readE S s c.no 0 1000000 := ⟨_, rfl⟩
          rw [← hE1]
          obtain ⟨s3, hs3⟩ : ∃ s3, s3 = readS S s c.no 0 1000000 := ⟨_, rfl⟩
          rw [← hs3] at hr3 hdid3 hsm3 htx3
          obtain ⟨n1, hn1⟩ : ∃ n1, n1 = (readB S s c.no 0 1000000).length := ⟨_, rfl⟩
          rw [← hn1] at hcv ⊢
          -- the first look, whichever way, goes on to the second one
          have hlook : E1 = 0 → ∃ (N : Nat) (T1 : ByteArray), c.no = (N : Int) ∧ N < 66 ∧ W3.cell? ⟨tb, N, none⟩ = some (.string T1) ∧ T1 = S1 := fun h0 => by
            obtain ⟨N0, j, m, e1, hlt, e2, e3, hj, hB⟩ := read_text (hE1 ▸ h0)
            have hT := HSM.out.T
            have hj0 : j = 0 := by omega
            have hm0 : m = 1000000 := by omega
            have ct := hr3.texts.cell (j := N0 + 1) (by omega)
            have hl := textOf_len HDID.out (N0 + 1)
            rw [hj0, hm0, List.drop_zero, List.take_of_length_le (by have := HLEN.out; have := HKL.out; omega)] at hB
            rw [hB] at hS1
            rw [hS1] at ct
            exact ⟨N0 + 1, S1, by omega, by omega, ct, rfl⟩
          have HR3 := Lib.hid hr3
          have HDID3 := Lib.hid hdid3
          have HSM3 := Lib.hid hsm3
          have HTX3 := Lib.hid htx3
          have HLK := Lib.hid hlook
          clear hr3 hdid3 hsm3 htx3 hlook hd3 hf3 ho1 hS1 hE1 hs3 hn1
          by_cases h1 : E1 = 0
          · obtain ⟨N, T1, hN, hN66, ct, rfl⟩ := HLK.out h1
            rw [hN] at k1 ⊢
            have p2 : (0 : Int) ≤ (N : Int) := by omega
            have p3 : (N : Int) < 66 := by omega
            rw [h1]
            clear HLK h1 hN hN66
            go_wp2_with fail
            go_region
            have hr4 := HR3.out.below (Below.drew (Below.refl W3.heap.size W3))
            have HR4 := Lib.hid hr4
            clear hr4 HR3 ct hcv k1 k2 k3
            generalize W3.drew = X3 at HR4 ⊢
            have k1 := HR4.out.k1
            have k2 := HR4.out.k2
            have k3 := HR4.out.k3
            go_wp2_with fail
            refine (read_any HR4.out.disk HSM3.out HNO.out c.at' c.most).mono ?_
            rintro e W4 ⟨v2, rfl, ho2, hd4, hf4⟩
            have hr5 := HR4.out.read hd4 hf4
            have hd5 : Did (2 * (k + 1)) (1024 * (k + 1)) (readS S s3 c.no c.at' c.most) := (HDID3.out.read S c.no c.at' c.most).mono (by omega) (by omega)
            have hn5 : KInv w0 S L g tb (k + 1) (readS S s3 c.no c.at' c.most) own W4.drew := by
              refine KRound.next (cb := cb) (c := c) (bv := .slice ba c.b.length bc) ?_ HKL.out hd5
              rw [text_read, HTX3.out]
              exact hr5.below (Below.drew (Below.refl _ _))
            have HN5 := Lib.hid hn5
            by_cases h2 : readE S s3 c.no c.at' c.most = 0
            · obtain ⟨N0, j, m, e1, hlt, e2, e3, hj, hB⟩ := read_text h2
              have hT := HSM3.out.T
              have ct := hr5.texts.cell (j := N0 + 1) (by omega)
              have hcv := conv_any (isBytes_of_owns (show (W4.drew).ownsRow X3.heap.size 5 1 v2 _ _ from ho2))
              obtain ⟨va2, vc2, rfl⟩ := owns_slice ho2
              obtain ⟨F, hF⟩ : ∃ F : ByteArray, strV (readB S s3 c.no c.at' c.most) = .string F := ⟨_, rfl⟩
              have hl2 := (strV_size hF).symm
              rw [hF] at hcv
              rw [HTX3.out] at hj hB
              obtain ⟨T2, hT2⟩ : ∃ T2 : ByteArray, strV (textOf s.T (N0 + 1)) = .string T2 := ⟨_, rfl⟩
              have hsz := strV_size hT2
              rw [hT2] at ct
              rw [hB] at hF hl2 hcv ⊢
              have hsub := str_sub hT2 hF
              have k1 : W4.cell? ⟨cb, 1, none⟩ = some (.int .i64 ((N0 + 1 : Nat) : Int)) := by rw [hr5.k1, e1]; rfl
              have k2 : W4.cell? ⟨cb, 2, none⟩ = some (.int .i64 (j : Int)) := by rw [hr5.k2, e2]
              have k3 : W4.cell? ⟨cb, 3, none⟩ = some (.int .i64 (m : Int)) := by rw [hr5.k3, e3]
              have hle : F.size ≤ m := by rw [← hl2]; simp; omega
              have hjf : j + F.size ≤ T2.size := by rw [← hl2, hsz]; simp; omega
              have hbig : T2.size ≤ 1000000 := by rw [hsz]; have := textOf_len HDID.out (N0 + 1); have := HLEN.out; have := HKL.out; omega
              rw [hl2] at hcv ⊢
              obtain ⟨N, hN⟩ : ∃ N, N = N0 + 1 := ⟨_, rfl⟩
              rw [← hN] at ct k1
              have p2 : (0 : Int) ≤ (N : Int) := by omega
              have p3 : (N : Int) < 66 := by omega
              have p4 : (j : Int) ≤ (T2.size : Int) := by omega
              have p5 : ((j + F.size : Nat) : Int) ≤ (T2.size : Int) := by omega
              have p6 : ¬ (m : Int) < (F.size : Int) := by omega
              have p7 : ¬ T2.size < j := by omega
              have p8 : ¬ m < F.size := by omega
              have p9 : (j : Int) + (F.size : Int) ≤ (T2.size : Int) := by omega
              rw [h2]
              clear hr5 hd5 hn5 h2 e1 e2 e3 hlt hB hT hF hl2 hT2 hsz hN ho2 hd4 hf4 hle
              go_wp2_with fail
              go_region
              go_wp2_with fail
              exact ⟨⟨k + 1, _, _, by go_num, HN5.out⟩, by have := HKL.out; simp [intOf]; omega⟩
            · obtain ⟨E2, hE2⟩ : ∃ E2, E2 = readE S s3 c.no c.at' c.most := ⟨_, rfl⟩
              rw [← hE2] at h2 ⊢
              have g2 : (E2 == 0) = false := by simpa using h2
              obtain ⟨va2, vc2, rfl⟩ := owns_slice ho2
              clear hr5 hd5 hn5 hE2 h2 ho2 hd4 hf4 k1 k2 k3
              go_wp2_with fail
              go_region
              go_wp2_with fail
              exact ⟨⟨k + 1, _, _, by go_num, HN5.out⟩, by have := HKL.out; simp [intOf]; omega⟩
          · have g1 : (E1 == 0) = false := by simpa using h1
            clear HLK h1
            go_wp2_with fail
            go_region
            have hr4 := HR3.out.below (Below.drew (Below.refl W3.heap.size W3))
            have HR4 := Lib.hid hr4
            clear hr4 HR3 hcv k1 k2 k3
            generalize W3.drew = X3 at HR4 ⊢
            have k1 := HR4.out.k1
            have k2 := HR4.out.k2
            have k3 := HR4.out.k3
            go_wp2_with fail
            refine (read_any HR4.out.disk HSM3.out HNO.out c.at' c.most).mono ?_
            rintro e W4 ⟨v2, rfl, ho2, hd4, hf4⟩
            have hr5 := HR4.out.read hd4 hf4
            have hd5 : Did (2 * (k + 1)) (1024 * (k + 1)) (readS S s3 c.no c.at' c.most) := (HDID3.out.read S c.no c.at' c.most).mono (by omega) (by omega)
            have hn5 : KInv w0 S L g tb (k + 1) (readS S s3 c.no c.at' c.most) own W4.drew := by
              refine KRound.next (cb := cb) (c := c) (bv := .slice ba c.b.length bc) ?_ HKL.out hd5
              rw [text_read, HTX3.out]
              exact hr5.below (Below.drew (Below.refl _ _))
            have HN5 := Lib.hid hn5
            by_cases h2 : readE S s3 c.no c.at' c.most = 0
            · obtain ⟨N0, j, m, e1, hlt, e2, e3, hj, hB⟩ := read_text h2
              have hT := HSM3.out.T
              have ct := hr5.texts.cell (j := N0 + 1) (by omega)
              have hcv := conv_any (isBytes_of_owns (show (W4.drew).ownsRow X3.heap.size 5 1 v2 _ _ from ho2))
              obtain ⟨va2, vc2, rfl⟩ := owns_slice ho2
              obtain ⟨F, hF⟩ : ∃ F : ByteArray, strV (readB S s3 c.no c.at' c.most) = .string F := ⟨_, rfl⟩
              have hl2 := (strV_size hF).symm
              rw [hF] at hcv
              rw [HTX3.out] at hj hB
              obtain ⟨T2, hT2⟩ : ∃ T2 : ByteArray, strV (textOf s.T (N0 + 1)) = .string T2 := ⟨_, rfl⟩
              have hsz := strV_size hT2
              rw [hT2] at ct
              rw [hB] at hF hl2 hcv ⊢
              have hsub := str_sub hT2 hF
              have k1 : W4.cell? ⟨cb, 1, none⟩ = some (.int .i64 ((N0 + 1 : Nat) : Int)) := by rw [hr5.k1, e1]; rfl
              have k2 : W4.cell? ⟨cb, 2, none⟩ = some (.int .i64 (j : Int)) := by rw [hr5.k2, e2]
              have k3 : W4.cell? ⟨cb, 3, none⟩ = some (.int .i64 (m : Int)) := by rw [hr5.k3, e3]
              have hle : F.size ≤ m := by rw [← hl2]; simp; omega
              have hjf : j + F.size ≤ T2.size := by rw [← hl2, hsz]; simp; omega
              have hbig : T2.size ≤ 1000000 := by rw [hsz]; have := textOf_len HDID.out (N0 + 1); have := HLEN.out; have := HKL.out; omega
              rw [hl2] at hcv ⊢
              obtain ⟨N, hN⟩ : ∃ N, N = N0 + 1 := ⟨_, rfl⟩
              rw [← hN] at ct k1
              have p2 : (0 : Int) ≤ (N : Int) := by omega
              have p3 : (N : Int) < 66 := by omega
              have p4 : (j : Int) ≤ (T2.size : Int) := by omega
              have p5 : ((j + F.size : Nat) : Int) ≤ (T2.size : Int) := by omega
              have p6 : ¬ (m : Int) < (F.size : Int) := by omega
              have p7 : ¬ T2.size < j := by omega
              have p8 : ¬ m < F.size := by omega
              have p9 : (j : Int) + (F.size : Int) ≤ (T2.size : Int) := by omega
              rw [h2]
              clear hr5 hd5 hn5 h2 e1 e2 e3 hlt hB hT hF hl2 hT2 hsz hN ho2 hd4 hf4 hle
              go_wp2_with fail
              go_region
              go_wp2_with fail
              exact ⟨⟨k + 1, _, _, by go_num, HN5.out⟩, by have := HKL.out; simp [intOf]; omega⟩
            · obtain ⟨E2, hE2⟩ : ∃ E2, E2 = readE S s3 c.no c.at' c.most := ⟨_, rfl⟩
              rw [← hE2] at h2 ⊢
              have g2 : (E2 == 0) = false := by simpa using h2
              obtain ⟨va2, vc2, rfl⟩ := owns_slice ho2
              clear hr5 hd5 hn5 hE2 h2 ho2 hd4 hf4 k1 k2 k3
              go_wp2_with fail
              go_region
              go_wp2_with fail
              exact ⟨⟨k + 1, _, _, by go_num, HN5.out⟩, by have := HKL.out; simp [intOf]; omega⟩
        · -- Remove
          rw [hw]
          clear hw hwr k2 k3 k4
          go_wp2_with fail
          refine (remove_any HR2.out.disk HSM.out HNO.out).mono ?_
          rintro e W3 ⟨rfl, hl⟩
          obtain ⟨own3, hr3⟩ := HR2.out.left hl
          have hd3 : Did (2 * (k + 1)) (1024 * (k + 1)) (removeS S s c.no) := (HDID.out.remove S c.no).mono (by omega) (by omega)
          have hn3 : KInv w0 S L g tb (k + 1) (removeS S s c.no) own3 W3 := by
            refine KRound.next (cb := cb) (c := c) (bv := .slice ba c.b.length bc) ?_ HKL.out hd3
            rw [text_remove]
            exact hr3
          have HN3 := Lib.hid hn3
          clear hl hr3 hd3 hn3
          go_wp2_with fail
          exact ⟨⟨k + 1, _, _, by go_num, HN3.out⟩, by have := HKL.out; simp [intOf]; omega⟩
      · have q2 : ¬ (k : Int) < (L.length : Int) := by omega
        have HV := Lib.hid hinv
        clear hinv hkl
        go_wp2_with fail
        refine (awake_any _).mono ?_
        rintro e w2 ⟨rfl, hb⟩
        have HB := Lib.hid hb
        clear hb
        go_wp2_with fail
        go_ret
        exact ⟨rfl, HV.out.bel.trans (HB.out.mono HV.out.bel.size)⟩

end Go.Proofs.Ytpengkkbmenkpaa
