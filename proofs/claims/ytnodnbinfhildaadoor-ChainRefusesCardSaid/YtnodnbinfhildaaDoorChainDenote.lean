/- The document's denotation of chain; what chain comes to is just that. -/
import Derived.Test.YtnodnbinfhildaaDoorMout
import Derived.Test.YtnodnbinfhildaaDoorSame
import Derived.Test.YtnodnbinfhildaaDoorChainFace
import Derived.Outline
import Derived.Deep.MidRow
namespace Go.Proofs.YtnodnbinfhildaaDoor
open Go.RowKit

def chainEnds : Option Strm → List UInt8 → Strm
  | none, s => ⟨s, true, 0, 0, 0⟩
  | some i, s => ⟨s, false, i.code, i.stage, i.id⟩
def chainWant (_ : Nat) (_ _ : List UInt8) (ins : List Strm) : Strm := chainEnds ins[chainK ins]? (chainL ins)
/-- What has been read, ahead of input j. -/
def chainPre (ins : List Strm) (j : Nat) : List UInt8 := (ins.take j).flatMap (·.bytes)
theorem chainPre_snoc {ins : List Strm} {j : Nat} {i : Strm} (h : ins[j]? = some i) : chainPre ins (j + 1) = chainPre ins j ++ i.bytes := by
  obtain ⟨hk, rfl⟩ := List.getElem?_eq_some_iff.1 h
  unfold chainPre
  rw [List.take_succ_eq_append_getElem hk, List.flatMap_append, List.flatMap_singleton]
/-- All inputs ahead of j have ended. -/
structure ChainTo (ins : List Strm) (j : Nat) : Prop where
  le : j ≤ ins.length
  L : chainL ins = chainPre ins j ++ chainL (ins.drop j)
  K : chainK ins = j + chainK (ins.drop j)
theorem chainTo_start (ins : List Strm) : ChainTo ins 0 := ⟨Nat.zero_le _, by simp [chainPre], by simp⟩
theorem ChainTo.next {ins : List Strm} {j : Nat} {i : Strm} (h : ChainTo ins j) (hi : ins[j]? = some i) (he : i.ended = true) : ChainTo ins (j + 1) := by
  have hlt := (List.getElem?_eq_some_iff.1 hi).1
  have hd := drop_strm hi
  refine ⟨hlt, ?_, ?_⟩
  · rw [h.L, chainPre_snoc hi, hd, chainL, if_pos he, List.append_assoc]
  · rw [h.K, hd, chainK, if_pos he]
    omega
theorem ChainTo.here {ins : List Strm} {j : Nat} {i : Strm} (h : ChainTo ins j) (hi : ins[j]? = some i) (he : i.ended = false) (N : Nat) (A B : List UInt8) : chainWant N A B ins = ⟨chainPre ins (j + 1), false, i.code, i.stage, i.id⟩ := by
  have hd := drop_strm hi
  have hk : chainK ins = j := by rw [h.K, hd, chainK, he]; rfl
  have hl : chainL ins = chainPre ins (j + 1) := by rw [h.L, chainPre_snoc hi, hd, chainL, he]; simp
  rw [chainWant, hk, hi, hl]
  rfl
theorem ChainTo.all {ins : List Strm} (h : ChainTo ins ins.length) (N : Nat) (A B : List UInt8) : chainWant N A B ins = ⟨chainPre ins ins.length, true, 0, 0, 0⟩ := by
  have hk : chainK ins = ins.length := by rw [h.K, List.drop_length]; rfl
  have hl : chainL ins = chainPre ins ins.length := by rw [h.L, List.drop_length]; simp [chainL]
  rw [chainWant, hk, hl, List.getElem?_eq_none (Nat.le_refl _)]
  rfl
theorem chainPre_le (ins : List Strm) (h : ∀ t ∈ ins, t.bytes.length ≤ 4000) (j : Nat) : (chainPre ins j).length ≤ 4000 * j := by
  induction j with
  | zero => simp [chainPre]
  | succ j ih =>
    cases hi : ins[j]? with
    | none =>
      have : chainPre ins (j + 1) = chainPre ins j := by
        have := List.getElem?_eq_none_iff.1 hi
        unfold chainPre
        rw [List.take_of_length_le (by omega), List.take_of_length_le (by omega)]
      rw [this]
      omega
    | some i =>
      rw [chainPre_snoc hi, List.length_append]
      have := h i (List.mem_of_getElem? hi)
      omega

set_option maxRecDepth 100000 in
set_option maxHeartbeats 8000000 in
theorem chainMeans_any {p : Nat → Prop} (k : Int) (N : Nat) (va vb : Value) (A B : List UInt8) (iv : Value) (ins : List Strm) (w : World) (_ : Pm.IsBytes w va A) (_ : Pm.IsBytes w vb B) (hI : IsStrms p w iv ins) (hok : chainOk N A B) (hlen : ins.length = chainIns N) (hl : ∀ t ∈ ins, t.bytes.length ≤ 4000) :
    Calls Tryd.prog 19 #[Pm.parV k N va vb, iv] w (OutEnd w (chainWant N A B ins)) := by
  have hN : N = ins.length := hlen.symm
  obtain ⟨h1, h4⟩ := hok
  have hb0 : Below w.heap.size w (w.alloc (.cells #[.int .i64 k, .int .i64 N, va, vb] 24)) := (Below.refl _ _).alloc (Nat.le_refl _) _
  have hr0 := heap_alloc_last w (.cells #[.int .i64 k, .int .i64 N, va, vb] 24)
  have hs0 : (w.alloc (.cells #[.int .i64 k, .int .i64 N, va, vb] 24)).heap.size = w.heap.size + 1 := by simp
  obtain ⟨ai, ci, rfl, -⟩ := id hI
  obtain ⟨T, hT⟩ : ∃ T, T = chainWant N A B ins := ⟨_, rfl⟩
  rw [← hT]
  have HT := Lib.hid hT
  have HLen := Lib.hid hN
  have HPre := Lib.hid (chainPre_le ins hl)
  clear hT hl hlen hN
  unfold Pm.parV
  go_enter Tryd.func19, Tryd.ntmps19
  go_wp2_with fail
  generalize w.alloc (.cells #[.int .i64 k, .int .i64 N, va, vb] 24) = W0 at hb0 hr0 hs0 ⊢
  have HX := Lib.hid (show ∀ W, Below W0.heap.size W0 W → W.cell? ⟨w.heap.size, 1, none⟩ = some (.int .i64 N) ∧ IsStrms p W (.slice ai ins.length ci) ins ∧ Below w.heap.size w W from fun W hb => by
    have h0 := (hb.block w.heap.size (by omega)).trans hr0
    have hw := hb0.trans (hb.mono hb0.size)
    exact ⟨by rw [cell_of_row _ _ _ _ _ _ h0]; rfl, hI.below hw, hw⟩)
  clear hb0 hr0 hs0 hI
  go_loopw [5, 6] (fun sv jv wr => ∃ (j : Nat) (S : ByteArray), sv = .string S ∧ strV (chainPre ins j) = .string S ∧ jv = .int .i64 j ∧ ChainTo ins j ∧ wr = W0) (fun _ j _ => ins.length - (intOf j).toNat)
  case atStart => exact ⟨0, _, rfl, rfl, rfl, chainTo_start ins, rfl⟩
  case round =>
    obtain ⟨j, S, rfl, hS, rfl, hto, rfl⟩ := hrel
    rename World => W0
    obtain ⟨b1, b2, -⟩ := HX.out _ (Below.refl _ _)
    have hN := HLen.out
    have hle := hto.le
    have HTo := Lib.hid hto
    have HS := Lib.hid hS
    have zS := strV_size hS
    have hpl := HPre.out j
    clear hto hS
    by_cases hlt : j < ins.length
    · obtain ⟨i, hi⟩ : ∃ i, ins[j]? = some i := ⟨ins[j]'hlt, List.getElem?_eq_getElem hlt⟩
      obtain ⟨_, _, e, hcs⟩ := b2
      cases e
      obtain ⟨gb, off, bv, rfl, -, c0, c1, c2, c3, c4, hby⟩ := hcs j i hi
      have kc := conv_any hby
      obtain ⟨SI, hSI⟩ : ∃ S : ByteArray, strV i.bytes = .string S := ⟨_, rfl⟩
      rw [hSI] at kc
      have zI := strV_size hSI
      have hil := HPre.out (j + 1)
      rw [chainPre_snoc hi, List.length_append] at hil
      have hadd := strV_add HS.out hSI
      rw [← chainPre_snoc hi] at hadd
      have a1 : (9223372036854775807 < S.size + SI.size) = False := by simp; omega
      have q0 : (0 : Int) ≤ (j : Int) := by omega
      have q1 : (j : Int) < (ins.length : Int) := by omega
      have q2 : (j : Int) < (N : Int) := by omega
      have hmid : W0.rangeAt gb (off + j * 5 + 2) [.int .i64 i.code, .int .i64 i.stage, .int .i64 i.id] := fun j' v hv => by
        rcases j' with _ | _ | _ | j'
        · cases hv; exact c2
        · cases hv; exact c3
        · cases hv; exact c4
        · simp at hv
      have HI := Lib.hid hi
      have HAdd := Lib.hid hadd
      obtain ⟨av, cv, rfl, -, -⟩ := hby
      clear hi hadd hSI hcs c2 c3 c4 hil hpl zI zS
      cases he : i.ended with
      | false =>
        rw [he] at c1
        have hT2 := HTo.out.here HI.out he N A B
        rw [← HT.out] at hT2
        have hout := out_any (chainPre ins (j + 1)) false i.code i.stage i.id W0
        rw [HAdd.out] at hout
        have HOut := Lib.hid hout
        have HT2 := Lib.hid hT2
        clear hout hT2
        go_wp2_with (first | (refine wpList_load_mid rfl 59 _ rfl gb (off + j * 5 + 2) rfl _ _ hmid Tryd.underlying59 rfl (by kernel_rfl) ?_))
        refine HOut.out.mono ?_
        rintro e w5 h5
        have h6 : OutEnd W0 T e w5 := by rw [HT2.out]; exact h5
        obtain ⟨v, rfl, hs, hb⟩ := h6.lower (HX.out _ (Below.refl _ _)).2.2
        have HSS := Lib.hid hs
        have HBB := Lib.hid hb
        clear hs hb h5 h6
        go_wp2_with fail
        go_ret
        exact ⟨v, rfl, HSS.out, HBB.out⟩
      | true =>
        rw [he] at c1
        have HTo2 := Lib.hid (HTo.out.next HI.out he)
        go_wp2_with fail
        go_roundw
        case rel => exact ⟨j + 1, _, rfl, HAdd.out, by go_num, HTo2.out, trivial⟩
        case measure => simp [intOf]; omega
    · obtain rfl : j = ins.length := by omega
      have q2 : ¬ (ins.length : Int) < (N : Int) := by omega
      have hT2 := HTo.out.all N A B
      rw [← HT.out] at hT2
      have hout := out_any (chainPre ins ins.length) true 0 0 0 W0
      rw [HS.out] at hout
      have HOut := Lib.hid hout
      have HT2 := Lib.hid hT2
      clear hout hT2
      go_wp2_with fail
      refine HOut.out.mono ?_
      rintro e w5 h5
      have h6 : OutEnd W0 T e w5 := by rw [HT2.out]; exact h5
      obtain ⟨v, rfl, hs, hb⟩ := h6.lower (HX.out _ (Below.refl _ _)).2.2
      have HSS := Lib.hid hs
      have HBB := Lib.hid hb
      clear hs hb h5 h6
      go_wp2_with fail
      go_ret
      exact ⟨v, rfl, HSS.out, HBB.out⟩

/-! What chain comes to is what the document says. -/
theorem chain_case (N : Nat) (A B : List UInt8) (ins : List Strm) (g : GotL) (hlen : ins.length = chainIns N) (h1 : g.outs = (chainFin N A B ins).outs) (h2 : g.need = (chainFin N A B ins).need) (h3 : g.err = (chainFin N A B ins).err) :
    g.outs 0 = (chainWant N A B ins).bytes ∧ g.outs 1 = [] ∧ g.outs 2 = [] ∧ g.outs 3 = [] ∧ SameCase g ins (chainWant N A B ins) := by
  have hb : (chainWant N A B ins).bytes = chainL ins := by
    unfold chainWant chainEnds
    split <;> rfl
  refine ⟨by rw [h1, hb]; rfl, by rw [h1]; rfl, by rw [h1]; rfl, by rw [h1]; rfl, ?_⟩
  unfold SameCase chainWant chainEnds
  cases hi : ins[chainK ins]? with
  | none =>
    have := List.getElem?_eq_none_iff.1 hi
    exact .inl ⟨rfl, by rw [h2]; exact if_neg (by omega), by rw [h3]; rfl⟩
  | some i =>
    have hlt := (List.getElem?_eq_some_iff.1 hi).1
    exact .inr (.inr ⟨rfl, by rw [h3]; rfl, chainK ins, i, by rw [h2]; exact if_pos hlt, hi, rfl, rfl, rfl⟩)

end Go.Proofs.YtnodnbinfhildaaDoor
