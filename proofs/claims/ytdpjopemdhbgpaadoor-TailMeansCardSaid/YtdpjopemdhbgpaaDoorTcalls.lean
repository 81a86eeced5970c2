/- What tail's calls do: tellFirst, Feed, End, More, Held. -/
import Derived.Test.YtdpjopemdhbgpaaDoorTtell
namespace Go.Proofs.YtdpjopemdhbgpaaDoor
open Go.RowKit

def TailTells (N g : Nat) (nd : Int) (f : Bool) (b : List UInt8) (l : List UInt8) (r : Lines) (X : Nat → Prop) (w : World) (e : Ending) (w' : World) : Prop :=
  ∃ v, e = .returned (.tuple #[v, .int .i64 0]) ∧ OwnOuts w.heap.size w' v [(0, l ++ [10])] ∧ (tailM N).RepN g nd f b r X w' ∧ Frame ((tailM N).own g X) w w'

set_option maxRecDepth 100000 in
set_option maxHeartbeats 4000000 in
theorem tellFirst_any (N g : Nat) (nd : Int) (f : Bool) (b : List UInt8) (l : List UInt8) (r : Lines) (X : Nat → Prop) (w : World) (h : (tailM N).RepN g nd f b (l :: r) X w) (hr : r.length ≤ 2000) (hl : l.length ≤ 64) :
    Calls Tryd.prog 31 #[.pointer (some ⟨g, 0, none⟩)] w (TailTells N g (if r = [] then -1 else nd) f b l r X w) := by
  have H := Lib.hid h
  have HL := Lib.hid hl
  have HR := Lib.hid hr
  have hlt := h.lt
  obtain ⟨nd', hnd⟩ : ∃ nd', nd' = if r = [] then -1 else nd := ⟨_, rfl⟩
  rw [← hnd]
  have HNd := Lib.hid hnd
  clear h hl hr hnd
  go_enter Tryd.func31, Tryd.ntmps31
  go_wp2_with fail
  refine (takeFirst_any N g nd f b l r X w H.out HR.out).mono ?_
  rintro e w1 ⟨rfl, h1, hf1⟩
  obtain ⟨kv, hh, hk, hg, hb, hff⟩ := tail_row h1
  obtain ⟨ka, kc, rfl⟩ := hk.slice
  have k71 := tail_c71 hh hb
  have H1 := Lib.hid h1
  have HF1 := Lib.hid hf1
  have hsz := hf1.size
  obtain ⟨S, hS⟩ : ∃ S : ByteArray, strV l = .string S := ⟨_, rfl⟩
  rw [hS]
  have HS := Lib.hid hS
  clear h1 hf1 hh hk hg hb hff hS
  by_cases h0 : r = []
  · subst h0
    have hnd := HNd.out
    rw [if_pos rfl] at hnd
    subst hnd
    clear HNd
    simp only [List.length_nil] at k71
    go_wp2_with fail
    refine (stop_any H1.out.need (H1.out.froz 0)).mono ?_
    rintro e w2 ⟨rfl, rfl⟩
    have H2 := Lib.hid (H1.out.setNeed (-1))
    have HF2 := Lib.hid (HF1.out.trans ((Frame.cell w1 ⟨g, 0, none⟩ (.int .i64 (-1))).mono (fun _ _ h => .inl h)))
    have hsz2 := HF2.out.size
    clear k71
    generalize w1.setCell ⟨g, 0, none⟩ (.int .i64 (-1)) = W2 at H2 HF2 hsz2 ⊢
    go_wp2_with fail
    refine (tellOut_any 0 _ l _ (text_new W2 l S HS.out (0, 0)) HL.out).mono ?_
    rintro e w3 ⟨v, rfl, ho, hb⟩
    have HO := Lib.hid ho
    have HB := Lib.hid hb
    clear ho hb
    go_wp2_with fail
    go_ret2
    have hb3 : Below W2.heap.size W2 w3 := ((Below.refl W2.heap.size W2).alloc (Nat.le_refl _) _).trans (HB.out.mono (by simp))
    exact ⟨v, rfl, HO.out.mono (by simp; omega), H2.out.frame (Below.toFrame hb3 fun _ => False) (fun _ _ h => h), HF2.out.trans (Below.toFrame hb3 _)⟩
  · have hnd := HNd.out
    rw [if_neg h0] at hnd
    subst hnd
    clear HNd
    have hpos : 0 < r.length := List.length_pos_iff.2 h0
    have q1 : ((r.length : Int) == 0) = false := by simp; omega
    clear h0
    go_wp2_with fail
    refine (tellOut_any 0 _ l _ (text_new w1 l S HS.out (0, 0)) HL.out).mono ?_
    rintro e w3 ⟨v, rfl, ho, hb⟩
    have HO := Lib.hid ho
    have HB := Lib.hid hb
    clear ho hb
    go_wp2_with fail
    go_ret2
    have hb3 : Below w1.heap.size w1 w3 := ((Below.refl w1.heap.size w1).alloc (Nat.le_refl _) _).trans (HB.out.mono (by simp))
    exact ⟨v, rfl, HO.out.mono (by simp; omega), H1.out.frame (Below.toFrame hb3 fun _ => False) (fun _ _ h => h), HF1.out.trans (Below.toFrame hb3 _)⟩

def TailMores (N g : Nat) (nd : Int) (f : Bool) (b : List UInt8) (l : List UInt8) (r : Lines) (X : Nat → Prop) (w : World) (e : Ending) (w' : World) : Prop :=
  ∃ v, e = .returned (.tuple #[v, .int .i64 0]) ∧ OwnOuts w.heap.size w' v [(0, l ++ [10])] ∧ (tailM N).RepN g nd f b r X w' ∧ Frame ((tailM N).own g X) w w'
theorem tellFirst_enters : Enters 31 := enters_of Tryd.func31 (by kernel_rfl) (by kernel_rfl)

set_option maxRecDepth 100000 in
set_option maxHeartbeats 4000000 in
theorem tailMore_any (N g : Nat) (f : Bool) (b : List UInt8) (l : List UInt8) (r : Lines) (X : Nat → Prop) (w : World) (h : (tailM N).RepN g (-2) f b (l :: r) X w) (hr : r.length ≤ 2000) (hl : l.length ≤ 64) :
    Calls Tryd.prog 75 #[.pointer (some ⟨g, 0, none⟩)] w (TailMores N g (if r = [] then -1 else -2) f b l r X w) := by
  have H := Lib.hid h
  have HL := Lib.hid hl
  have HR := Lib.hid hr
  have c0 := h.need
  have c1 := h.pieceC
  simp only [tailM] at c1
  have hent := tellFirst_enters
  unfold Enters at hent
  obtain ⟨nd', hnd⟩ : ∃ nd' : Int, nd' = if r = [] then -1 else -2 := ⟨_, rfl⟩
  rw [← hnd]
  have HNd := Lib.hid hnd
  clear h hl hr hnd
  go_enter Tryd.func75, Tryd.ntmps75
  go_wp2_with fail
  clear hent
  refine (tellFirst_any N g (-2) f b l r X w H.out HR.out HL.out).mono ?_
  rintro e w1 ⟨v, rfl, ho, h1, hf1⟩
  rw [← HNd.out] at h1
  have HO := Lib.hid ho
  have H1 := Lib.hid h1
  have HF1 := Lib.hid hf1
  clear ho h1 hf1 c0 c1
  go_wp2_with fail
  go_ret2
  exact ⟨v, rfl, HO.out, H1.out, HF1.out⟩

/-! Held. -/
set_option maxRecDepth 100000 in
set_option maxHeartbeats 4000000 in
theorem tailHeld_any (N g : Nat) (nd : Int) (f : Bool) (b : List UInt8) (u : Lines) (X : Nat → Prop) (w : World) (h : (tailM N).RepN g nd f b u X w) (hu : u.length ≤ 2000) (hs : ∀ l ∈ u, l.length ≤ 64) :
    Calls Tryd.prog 74 #[.pointer (some ⟨g, 0, none⟩)] w (Says w (.int .i64 ((b.length + keptSum u : Nat) : Int))) := by
  obtain ⟨kv, hh, hk, hg, hb, hf⟩ := tail_row h
  obtain ⟨ka, kc, rfl, hat⟩ := hk.at
  have k71 := tail_c71 hh hb
  obtain ⟨post, hspl⟩ := h.spl
  have HS := Lib.hid hspl
  have HAt := Lib.hid hat
  have hsum := keptSum_le hs
  have HLen := Lib.hid hs
  clear h hh hk hg hf hat hspl hs
  go_enter Tryd.func74, Tryd.ntmps74
  go_wp2_with fail
  refine (held_any (o := 0) HS.out).mono ?_
  rintro e w' ⟨rfl, rfl⟩
  go_wp2_with fail
  go_loopw [3, 15] (fun hv i wr => ∃ k : Nat, hv = .int .i64 ((b.length + keptSum (u.take k) : Nat) : Int) ∧ i = .int .i64 k ∧ k ≤ u.length ∧ wr = w) (fun _ i _ => u.length - (intOf i).toNat)
  case atStart => exact ⟨0, by simp [keptSum], rfl, Nat.zero_le _, rfl⟩
  case round =>
    obtain ⟨k, rfl, rfl, hk, rfl⟩ := hrel
    have ht := keptSum_take_le u k
    obtain ⟨sm, hsm⟩ : ∃ sm, sm = keptSum (u.take k) := ⟨_, rfl⟩
    rw [← hsm] at ht ⊢
    have HSm := Lib.hid hsm
    clear hsm
    by_cases hlt : k < u.length
    · obtain ⟨l, hl⟩ : ∃ l, u[k]? = some l := ⟨u[k], by simp⟩
      obtain ⟨kb, off, rfl, hx⟩ := HAt.out k l hl
      have hl64 := HLen.out l (List.mem_of_getElem? hl)
      have hst := keptSum_take hl
      have HSt := Lib.hid hst
      obtain ⟨S, hS⟩ : ∃ S : ByteArray, strV l = .string S := ⟨_, rfl⟩
      have hsz : S.size = l.length := strV_size hS
      rw [hS] at hx
      have q0 : (0 : Int) ≤ (k : Int) := by omega
      have q1 : (k : Int) < (u.length : Int) := by omega
      have HSz := Lib.hid hsz
      have q3 : S.size ≤ 64 := by omega
      clear hst hS hsz hl
      go_wp2_with fail
      refine ⟨⟨k + 1, ?_, by go_num, by omega, trivial⟩, by simp [intOf]; omega⟩
      rw [HSt.out, ← HSm.out, ← HSz.out]
      go_num
    · obtain rfl : k = u.length := by omega
      have q1 : ¬ ((u.length : Int) < (u.length : Int)) := by omega
      have HSm2 := Lib.hid (show sm = keptSum u by rw [HSm.out, List.take_length])
      clear hlt
      go_wp2_with fail
      go_ret
      exact ⟨by rw [HSm2.out]; rfl, rfl⟩

end Go.Proofs.YtdpjopemdhbgpaaDoor
