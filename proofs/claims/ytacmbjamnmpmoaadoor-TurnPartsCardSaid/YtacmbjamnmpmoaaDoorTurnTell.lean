/- What turn's own call does: it turns a chunk's bytes. -/
import Derived.Test.YtacmbjamnmpmoaaDoorTellBytes
import Derived.Lib.Bytealg
import Derived.Laws.OwnMore
import Derived.Outline
namespace Go.Proofs.YtacmbjamnmpmoaaDoor
open Go.RowKit

/-- What becomes of a byte. -/
def turnC (A B : List UInt8) (c : UInt8) : List UInt8 := if Lib.indexByte A c < 0 then [c] else (B[(Lib.indexByte A c).toNat]?).toList
def turnL (A B x : List UInt8) : List UInt8 := x.flatMap (turnC A B)

set_option maxRecDepth 100000 in
set_option maxHeartbeats 1000000 in
theorem liteIndexByte_any (A : List UInt8) (c : UInt8) (w : World) : Calls Tryd.prog 43 #[strV A, .int .u8 c.toNat] w (Says w (.int .i64 (Lib.indexByte A c))) := by
  have hrun : ∀ W, (Extern.BytealgIndexByte.indexByte #[strV A, .int .u8 c.toNat]).run Tryd.prog W = .ok (.int .i64 (Lib.indexByte A c)) W := fun W => by
    have := Lib.run_indexByteString (P := Tryd.prog) ⟨A.toArray⟩ c.toNat W
    have e : (c.toNat : Int).toNat.toUInt8 = c := by simp
    rw [e] at this
    exact this
  obtain ⟨S, hS⟩ : ∃ S : ByteArray, strV A = .string S := ⟨_, rfl⟩
  rw [hS] at hrun ⊢
  obtain ⟨r, hr⟩ : ∃ r, r = Lib.indexByte A c := ⟨_, rfl⟩
  rw [← hr] at hrun ⊢
  obtain ⟨cc, hcc⟩ : ∃ cc : Int, cc = c.toNat := ⟨_, rfl⟩
  rw [← hcc] at hrun ⊢
  have HR := Lib.hid hrun
  clear hrun hS hr hcc
  go_enter Tryd.func43, Tryd.ntmps43
  go_wp2
  rw [run_callFunc_extern Tryd.func47 (by kernel_rfl) (by kernel_rfl) (by kernel_rfl) (e := Extern.BytealgIndexByte.indexByte) (by kernel_rfl), HR.out w]
  simp only [Result.andThen]
  rw [Oper.upon_value]
  go_wp2
  go_ret
  exact ⟨rfl, rfl⟩

set_option maxRecDepth 100000 in
set_option maxHeartbeats 1000000 in
theorem strIndexByte_any (A : List UInt8) (c : UInt8) (w : World) : Calls Tryd.prog 39 #[strV A, .int .u8 c.toNat] w (Says w (.int .i64 (Lib.indexByte A c))) := by
  have h := liteIndexByte_any A c w
  obtain ⟨S, hS⟩ : ∃ S : ByteArray, strV A = .string S := ⟨_, rfl⟩
  rw [hS] at h ⊢
  obtain ⟨r, hr⟩ : ∃ r, r = Lib.indexByte A c := ⟨_, rfl⟩
  rw [← hr] at h ⊢
  obtain ⟨cc, hcc⟩ : ∃ cc : Int, cc = c.toNat := ⟨_, rfl⟩
  rw [← hcc] at h ⊢
  have H := Lib.hid h
  clear h hS hr hcc
  go_enter Tryd.func39, Tryd.ntmps39
  go_wp2_with fail
  refine H.out.mono ?_
  rintro e w' ⟨rfl, rfl⟩
  go_wp2
  go_ret
  exact ⟨rfl, rfl⟩

def turnO (A B x : List UInt8) : Outs := bytesO 0 (turnL A B x)
/-! The machine. -/
def turnRow (A B : List UInt8) (nd : Int) (g : Nat) : Array Value := #[.int .i64 nd, .nilFunc, .func (.func 28) #[.pointer (some ⟨g, 0, none⟩)] #[], strV A, strV B]
def TurnAt (A B : List UInt8) (nd : Int) (g : Nat) (w : World) : Prop := w.heap[g]? = some (.cells (turnRow A B nd g) 78 (0, 0))

theorem TurnAt.below {A B : List UInt8} {nd : Int} {g : Nat} {w w' : World} (h : TurnAt A B nd g w) (hb : Below w.heap.size w w') : TurnAt A B nd g w' := (hb.block g (Array.getElem?_eq_some_iff.1 h).1).trans h
theorem byte_new (w : World) (c : UInt8) : IsBytes (fun _ => True) (w.alloc (.cells #[.int .u8 c.toNat] 5)) (.slice (some ⟨w.heap.size, 0, none⟩) 1 1) [c] := by
  refine ⟨_, 1, rfl, Nat.le_refl _, fun j d hj => ⟨_, _, rfl, trivial, ?_⟩⟩
  match j, hj with
  | 0, hj =>
    simp at hj
    subst hj
    rw [Nat.zero_add, cell_of_row _ _ _ _ _ _ (heap_alloc_last w _)]
    rfl
  | j + 1, hj => simp at hj
theorem turnL_snoc {A B x : List UInt8} {k : Nat} {c : UInt8} (h : x[k]? = some c) : turnL A B (x.take (k + 1)) = turnL A B (x.take k) ++ turnC A B c := by
  obtain ⟨hk, rfl⟩ := List.getElem?_eq_some_iff.1 h
  unfold turnL
  rw [List.take_succ_eq_append_getElem hk, List.flatMap_append, List.flatMap_singleton]
theorem turnC_le (A B : List UInt8) (c : UInt8) : (turnC A B c).length ≤ 1 := by
  unfold turnC
  split
  · simp
  · cases B[(Lib.indexByte A c).toNat]? <;> simp
theorem turnL_le (A B x : List UInt8) : (turnL A B x).length ≤ x.length := by
  induction x with
  | nil => simp [turnL]
  | cons c x ih =>
    have := turnC_le A B c
    simp only [turnL, List.flatMap_cons, List.length_append, List.length_cons] at ih ⊢
    omega
structure TurnInv (A B x : List UInt8) (w : World) (tv : Value) (k : Nat) (wr : World) : Prop where
  le : k ≤ x.length
  own : wr.ownsRow w.heap.size 5 1 tv (turnL A B (x.take k)).length (bytesL (turnL A B (x.take k)))
  below : Below w.heap.size w wr

set_option maxRecDepth 100000 in
set_option maxHeartbeats 4000000 in
theorem turn_any (A B : List UInt8) (nd : Int) (g : Nat) (v : Value) (x : List UInt8) {p : Nat → Prop} (w : World) (h : TurnAt A B nd g w) (hX : IsBytes p w v x) (hx : x.length ≤ 32) :
    Calls Tryd.prog 28 #[.pointer (some ⟨g, 0, none⟩), v] w (TellsOut' w (turnO A B x)) := by
  obtain ⟨i0, hi, hz0, hz1, hz2⟩ := info_parts Tryd.info5
  obtain ⟨ax, cx, rfl, -, -⟩ := id hX
  have HX := Lib.hid (show ∀ W, Below w.heap.size w W → IsBytes p W (.slice ax x.length cx) x from fun W hb => hX.below hb)
  have HG := Lib.hid (show ∀ W, Below w.heap.size w W → TurnAt A B nd g W from fun W hb => h.below hb)
  obtain ⟨SA, hSA⟩ : ∃ S : ByteArray, strV A = .string S := ⟨_, rfl⟩
  obtain ⟨SB, hSB⟩ : ∃ S : ByteArray, strV B = .string S := ⟨_, rfl⟩
  have zB := strV_size hSB
  have HSA := Lib.hid hSA
  have HSB := Lib.hid hSB
  clear hX h hSA hSB
  go_enter Tryd.func28, Tryd.ntmps28
  go_wp2_with (at_make; refine wpList_make_own _ rfl _ _ 22 rfl w.heap.size 5 i0 (.int .u8 0) 1 Tryd.underlying22 hi hz0 hz1 .i64 .i64 _ x.length rfl rfl rfl (by rw [hz2]; omega) (by unfold maxLen; omega) (Nat.le_refl _) ?_; intro w0 hown0 hgrow0)
  have hb0 : Below w.heap.size w w0 := (Below.refl _ _).grown hgrow0 (Nat.le_refl _) (fun k hk => by cases hk)
  have hI0 : TurnInv A B x w (.slice (some ⟨w.heap.size, 0, none⟩) 0 x.length) 0 w0 := ⟨Nat.zero_le _, by simpa [turnL, bytesL] using hown0, hb0⟩
  have HI0 := Lib.hid hI0
  clear hown0 hgrow0 hb0 hI0
  go_loopw [5, 14] (fun tv iv wr => ∃ (k : Nat) (u : Value), u = tv ∧ iv = .int .i64 k ∧ TurnInv A B x w u k wr) (fun _ i _ => x.length - (intOf i).toNat)
  case atStart => exact ⟨0, _, rfl, rfl, HI0.out⟩
  case round =>
    obtain ⟨k, tv, rfl, rfl, hI⟩ := hrel
    obtain ⟨ta, tc, rfl⟩ := owns_slice hI.own
    have hat := HG.out _ hI.below
    have c3 : wr.cell? ⟨g, 3, none⟩ = some (.string SA) := by rw [cell_of_row _ _ _ _ _ _ hat, ← HSA.out]; rfl
    have c4 : wr.cell? ⟨g, 4, none⟩ = some (.string SB) := by rw [cell_of_row _ _ _ _ _ _ hat, ← HSB.out]; rfl
    have hle := hI.le
    have hll := turnL_le A B (x.take k)
    rw [List.length_take] at hll
    have hws := hI.below.size
    have HI := Lib.hid hI
    clear hI hat
    by_cases hlt : k < x.length
    · obtain ⟨c, hc⟩ : ∃ c, x[k]? = some c := ⟨x[k]'hlt, List.getElem?_eq_getElem hlt⟩
      obtain ⟨_, _, e, _, hcell⟩ := HX.out _ HI.out.below
      cases e
      obtain ⟨gb, off, rfl, -, hx2⟩ := hcell k c hc
      have hfi := strIndexByte_any A c wr
      rw [HSA.out] at hfi
      have hC : turnC A B c = if Lib.indexByte A c < 0 then [c] else (B[(Lib.indexByte A c).toNat]?).toList := rfl
      obtain ⟨r, hr⟩ : ∃ r, r = Lib.indexByte A c := ⟨_, rfl⟩
      have hge := Lib.indexByte_ge A c
      rw [← hr] at hfi hge hC
      have hsn := turnL_snoc (A := A) (B := B) hc
      have q0 : (0 : Int) ≤ (k : Int) := by omega
      have q1 : (k : Int) < (x.length : Int) := by omega
      have HFi := Lib.hid hfi
      clear hfi hcell hc hr
      by_cases h0 : r < 0
      · rw [if_pos h0] at hC
        rw [hC] at hsn
        have HSn := Lib.hid hsn
        clear hsn hC
        go_wp2_with fail
        refine HFi.out.mono ?_
        rintro e w' ⟨rfl, rfl⟩
        have hn := byte_new wr c
        have hown := HI.out.own.alloc (.cells #[.int .u8 c.toNat] 5)
        have HN := Lib.hid hn
        have HOwn := Lib.hid hown
        clear hn hown
        go_wp2_with (at_builtin; refine wpList_append_bytes rfl (.tmp 27) (.tmp 29) rfl w.heap.size _ _ (turnL A B (x.take k)) [c] rfl HOwn.out rfl HN.out (by simp; omega) (by simp; omega) ?_; intro v' w2 hown' hgrow)
        have hb2 := owns_below_of HOwn.out (HI.out.below.alloc HI.out.below.size _) hgrow
        have HI2 := Lib.hid (show TurnInv A B x w v' (k + 1) w2 from ⟨by omega, by rw [HSn.out]; exact hown', hb2⟩)
        clear hown' hgrow hb2
        go_roundw
        case rel => exact ⟨k + 1, _, rfl, by go_num, HI2.out⟩
        case measure => simp [intOf]; omega
      · rw [if_neg h0] at hC
        obtain ⟨n, rfl⟩ : ∃ n : Nat, r = n := ⟨r.toNat, by omega⟩
        by_cases hn : n < B.length
        · have q2 : (n : Int) < (B.length : Int) := by omega
          have hz : n < SB.size := by omega
          have hd : B[n]? = some (SB[n]'hz) := by
            have e : (⟨B.toArray⟩ : ByteArray) = SB := by
              have h := HSB.out
              unfold strV at h
              injection h
            subst e
            exact List.getElem?_eq_getElem hn
          rw [show (n : Int).toNat = n from rfl, hd, Option.toList_some] at hC
          rw [hC] at hsn
          have HSn := Lib.hid hsn
          clear hsn hC hd
          go_wp2_with fail
          refine HFi.out.mono ?_
          rintro e w' ⟨rfl, rfl⟩
          have hN := byte_new wr (SB[n]'hz)
          have hown := HI.out.own.alloc (.cells #[.int .u8 (SB[n]'hz).toNat] 5)
          have HN := Lib.hid hN
          have HOwn := Lib.hid hown
          clear hN hown
          go_wp2_with (at_builtin; refine wpList_append_bytes rfl (.tmp 39) (.tmp 46) rfl w.heap.size _ _ (turnL A B (x.take k)) [SB[n]'hz] rfl HOwn.out rfl HN.out (by simp; omega) (by simp; omega) ?_; intro v' w2 hown' hgrow)
          have hb2 := owns_below_of HOwn.out (HI.out.below.alloc HI.out.below.size _) hgrow
          have HI2 := Lib.hid (show TurnInv A B x w v' (k + 1) w2 from ⟨by omega, by rw [HSn.out]; exact hown', hb2⟩)
          clear hown' hgrow hb2
          go_roundw
          case rel => exact ⟨k + 1, _, rfl, by go_num, HI2.out⟩
          case measure => simp [intOf]; omega
        · rw [show B[(n : Int).toNat]? = none from List.getElem?_eq_none (by simp; omega)] at hC
          rw [hC, Option.toList_none, List.append_nil] at hsn
          have HSn := Lib.hid hsn
          have q2 : ¬ (n : Int) < (B.length : Int) := by omega
          clear hsn hC
          go_wp2_with fail
          refine HFi.out.mono ?_
          rintro e w' ⟨rfl, rfl⟩
          have HI2 := Lib.hid (show TurnInv A B x w (.slice ta (turnL A B (x.take k)).length tc) (k + 1) wr from ⟨by omega, by rw [HSn.out]; exact HI.out.own, HI.out.below⟩)
          go_wp2_with fail
          go_roundw
          case rel => exact ⟨k + 1, _, rfl, by go_num, HI2.out⟩
          case measure => simp [intOf]; omega
    · obtain rfl : k = x.length := by omega
      have q1 : ¬ (x.length : Int) < (x.length : Int) := by omega
      have hown := HI.out.own
      rw [List.take_length] at hown hll ⊢
      obtain ⟨m, hm⟩ : ∃ m, m = (turnL A B x).length := ⟨_, rfl⟩
      have htb := tellBytes_any 0 (.slice ta m tc) (turnL A B x) wr (by rw [hm]; exact isBytes_of_owns hown) (by omega)
      rw [← hm] at hll ⊢
      have HTb := Lib.hid htb
      clear htb hown hm
      go_wp2_with fail
      refine HTb.out.mono ?_
      rintro e w2 ⟨v2, rfl, ho, hb⟩
      have HO := Lib.hid (show OwnOuts w.heap.size w2 v2 (turnO A B x) from ho.mono hws)
      have HB := Lib.hid (HI.out.below.trans (hb.mono hws))
      clear ho hb
      go_wp2_with fail
      go_ret
      exact ⟨v2, rfl, HO.out, HB.out⟩

end Go.Proofs.YtacmbjamnmpmoaaDoor
