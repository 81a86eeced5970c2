/- What count's own calls do: it counts a chunk's bytes; at the end it tells. -/
import Derived.Test.YtlflhjgfegflfaaDoorCountPlain
import Derived.Test.YtlflhjgfegflfaaDoorDput
import Derived.Test.YtlflhjgfegflfaaDoorItell
import Derived.Test.YtlflhjgfegflfaaDoorRA
import Derived.Shelf.Bytes.SlCountOne
import Derived.Lib.SlBytesConst
import Derived.Deep.RegionHeld3
import Derived.Outline
namespace Go.Proofs.YtlflhjgfegflfaaDoor
open Go.RowKit

/-! The machine. -/
def countRow (s : CS) (g : Nat) : Array Value := #[.int .i64 (if s.live then 0 else -1), .nilFunc, .func (.func 29) #[.pointer (some ⟨g, 0, none⟩)] #[], .int .i64 (wrap64 s.lines), .int .i64 (wrap64 s.all)]
def CountAt (s : CS) (g : Nat) (w : World) : Prop := w.heap[g]? = some (.cells (countRow s g) 80 (0, 0))
section
variable {s : CS} {g : Nat} {w : World}
theorem CountAt.need (h : CountAt s g w) : w.cell? ⟨g, 0, none⟩ = some (.int .i64 (if s.live then 0 else -1)) := by rw [cell_of_row _ _ _ _ _ _ h]; rfl
theorem CountAt.each (h : CountAt s g w) : w.cell? ⟨g, 2, none⟩ = some (.func (.func 29) #[.pointer (some ⟨g, 0, none⟩)] #[]) := by rw [cell_of_row _ _ _ _ _ _ h]; rfl
theorem CountAt.lines (h : CountAt s g w) : w.cell? ⟨g, 3, none⟩ = some (.int .i64 (wrap64 s.lines)) := by rw [cell_of_row _ _ _ _ _ _ h]; rfl
theorem CountAt.all (h : CountAt s g w) : w.cell? ⟨g, 4, none⟩ = some (.int .i64 (wrap64 s.all)) := by rw [cell_of_row _ _ _ _ _ _ h]; rfl
theorem CountAt.froz (h : CountAt s g w) (o : Nat) : w.frozen? ⟨g, o, none⟩ = false := by simp [World.frozen?, show w.heap[g]? = _ from h]
theorem CountAt.lt (h : CountAt s g w) : g < w.heap.size := (Array.getElem?_eq_some_iff.1 h).1
theorem CountAt.below {w' : World} (h : CountAt s g w) (hb : Below w.heap.size w w') : CountAt s g w' := (hb.block g h.lt).trans h
theorem CountAt.stop (h : CountAt s g w) : CountAt ⟨false, s.lines, s.all⟩ g (w.setCell ⟨g, 0, none⟩ (.int .i64 (-1))) := by
  unfold CountAt
  rw [setCell_row h]
  rfl
theorem CountAt.put1 (h : CountAt s g w) (n : Nat) : CountAt ⟨s.live, n, s.all⟩ g (w.setCell ⟨g, 3, none⟩ (.int .i64 (wrap64 n))) := by
  unfold CountAt
  rw [setCell_row h]
  rfl
theorem CountAt.put2 (h : CountAt s g w) (n : Nat) : CountAt ⟨s.live, s.lines, n⟩ g (w.setCell ⟨g, 4, none⟩ (.int .i64 (wrap64 n))) := by
  unfold CountAt
  rw [setCell_row h]
  rfl
end

/-! bytes.Count at one byte. -/
theorem bytesOf_ints (x : List UInt8) : Lib.bytesOf (x.map fun c => (c.toNat : Int)) = x := by
  induction x with
  | nil => rfl
  | cons c x ih =>
    simp only [Lib.bytesOf, List.map_cons] at ih ⊢
    rw [ih]
    simp
set_option maxRecDepth 100000 in
set_option maxHeartbeats 2000000 in
theorem bytesCount_any {p : Nat → Prop} (v : Value) (x : List UInt8) (b2 o2 d : Nat) (w : World) (hX : IsBytes p w v x) (h1 : 1 ≤ x.length) (hc2 : w.cell? ⟨b2, o2, none⟩ = some (.int .u8 10)) :
    Calls Tryd.prog 41 #[v, .slice (some ⟨b2, o2, none⟩) 1 d] w (Says w (.int .i64 (ends x))) := by
  obtain ⟨a, c, rfl, -, hc⟩ := hX
  obtain ⟨c0, r, hx⟩ := List.exists_cons_of_ne_nil (List.length_pos_iff.1 h1)
  obtain ⟨gb, off, rfl, -, -⟩ := hc 0 c0 (by rw [hx]; rfl)
  have hrun := fun W (hW : ∀ i, i < x.length → W.cell? ⟨gb, off + i, none⟩ = some (.int .u8 ((x.map fun c => (c.toNat : Int)).getD i 0))) => Lib.run_countSlice (P := Tryd.prog) W gb off x.length c (x.map fun c => (c.toNat : Int)) (by simp) hW 10
  rw [bytesOf_ints] at hrun
  have hr := hrun w (fun i hi => by
    obtain ⟨_, _, e, _, h⟩ := hc i (x[i]'hi) (List.getElem?_eq_getElem hi)
    cases e
    rw [h]
    simp [hi])
  have hr' : (Extern.BytealgCount.count #[.slice (some ⟨gb, off, none⟩) x.length c, .int .u8 10]).run Tryd.prog w = .ok (.int .i64 (ends x)) w := hr
  obtain ⟨n, hn⟩ : ∃ n, n = ends x := ⟨_, rfl⟩
  obtain ⟨l, hl⟩ : ∃ l, l = x.length := ⟨_, rfl⟩
  rw [← hn, ← hl] at hr'
  rw [← hn, ← hl]
  have HR := Lib.hid hr'
  clear hr' hr hrun hc hx hn hl h1
  go_enter Tryd.func41, Tryd.ntmps41
  go_wp2
  rw [run_callFunc_extern Tryd.func45 (by kernel_rfl) (by kernel_rfl) (by kernel_rfl) (e := Extern.BytealgCount.count) (by kernel_rfl), HR.out]
  simp only [Result.andThen]
  rw [Oper.upon_value]
  go_wp2
  go_ret
  exact ⟨rfl, rfl⟩

/-- The chunk is counted. -/
def countPut (s : CS) (x : List UInt8) : CS := ⟨s.live, s.lines + ends x, s.all + x.length⟩

set_option maxRecDepth 100000 in
set_option maxHeartbeats 4000000 in
theorem count_any {p : Nat → Prop} (s : CS) (g : Nat) (v : Value) (x : List UInt8) (w : World) (h : CountAt s g w) (hX : IsBytes p w v x) (h1 : 1 ≤ x.length) :
    Calls Tryd.prog 29 #[.pointer (some ⟨g, 0, none⟩), v] w fun e w' => e = .returned (.slice none 0 0) ∧ CountAt (countPut s x) g w' ∧ Frame (· = g) w w' := by
  obtain ⟨a, c, rfl, -, hc⟩ := id hX
  obtain ⟨c0, r, hx⟩ := List.exists_cons_of_ne_nil (List.length_pos_iff.1 h1)
  obtain ⟨gb, off, rfl, -, -⟩ := hc 0 c0 (by rw [hx]; rfl)
  generalize ha : (⟨gb, off, none⟩ : Addr) = a at *
  have kc := fun (W : World) => Lib.run_convert_bytes_const (P := Tryd.prog) W 22 5 #[.int .u8 10] 1 1 Tryd.underlying22 Tryd.underlying5
  have hb0 : Below w.heap.size w w.drew := (Below.refl _ _).drew
  have hb1 : Below w.heap.size w (w.drew.alloc (.cells #[.int .u8 10] 5)) := hb0.alloc hb0.size _
  have hb2 : Below w.heap.size w (w.drew.alloc (.cells #[.int .u8 10] 5 (1, 2))) := hb0.alloc hb0.size _
  have hct := bytesCount_any (.slice (some a) x.length c) x w.drew.heap.size 0 1 (w.drew.alloc (.cells #[.int .u8 10] 5 (1, 2))) (hX.below hb2) h1 (by rw [cell_of_row _ _ _ _ _ _ (heap_alloc_last w.drew _)]; rfl)
  have hat0 := h.below hb0
  have hat1 := h.below hb1
  have hat2 := h.below hb2
  have hwr : ∀ z : Int, wrap64 z = IntKind.i64.wrap z := fun z => by rw [IntKind.wrap_i64]; unfold wrap64; omega
  have hfr : Frame (· = g) w ((w.drew.alloc (.cells #[.int .u8 10] 5 (1, 2))).setCell ⟨g, 3, none⟩ (.int .i64 (IntKind.i64.wrap (wrap64 s.lines + ends x)))) := (Below.toFrame hb2 _).trans (Frame.cell _ ⟨g, 3, none⟩ _)
  have hp1 := hat2.put1 (s.lines + ends x)
  rw [show wrap64 ((s.lines + ends x : Nat) : Int) = IntKind.i64.wrap (wrap64 s.lines + ends x) by rw [← hwr, count_wrap, Int.natCast_add]] at hp1
  have hp2 : ∀ W, CountAt ⟨s.live, s.lines + ends x, s.all⟩ g W → CountAt (countPut s x) g (W.setCell ⟨g, 4, none⟩ (.int .i64 (wrap64 (wrap64 s.all + (x.length : Int))))) := fun W hW => by
    have := hW.put2 (s.all + x.length)
    rw [show wrap64 ((s.all + x.length : Nat) : Int) = wrap64 (wrap64 s.all + (x.length : Int)) by rw [count_wrap, Int.natCast_add]] at this
    exact this
  have l0 := hat0.lines
  have l1 := hat1.lines
  have l2 := hat2.lines
  have z2 := hat2.froz 3
  obtain ⟨L, hL⟩ : ∃ L, L = wrap64 s.lines := ⟨_, rfl⟩
  obtain ⟨M, hM⟩ : ∃ M, M = wrap64 s.all := ⟨_, rfl⟩
  obtain ⟨n, hn⟩ : ∃ n, n = ((ends x : Nat) : Int) := ⟨_, rfl⟩
  rw [← hL] at l0 l1 l2 hp1 hfr
  rw [← hn] at hct hp1 hfr
  rw [← hM] at hp2
  have HM := Lib.hid hM
  obtain ⟨l, hl⟩ : ∃ l, l = x.length := ⟨_, rfl⟩
  rw [← hl] at hct hp2 ⊢
  have HC := Lib.hid hct
  have HP1 := Lib.hid hp1
  have HP2 := Lib.hid hp2
  have HF1 := Lib.hid hfr
  clear hX hc hx h1 ha hb0 hb1 hb2 hct hat0 hat1 hat2 hfr hp1 hp2 hL hM hn hl h hwr
  go_enter Tryd.func29, Tryd.ntmps29
  go_upto_region 1 with fail
  refine anyG_start (S := fun _ => True) (by kernel_rfl) ?_
  generalize w.drew = W0 at *
  refine anyG_take (i := 0) 5 (.pointer (some ⟨g, 0, none⟩)) rfl rfl (by kernel_rfl) (by kernel_rfl) (by kernel_rfl) rfl (fun _ _ => by go_simp) trivial ?_
  try simp only [Act.put, List.setIfInBounds_toArray, List.set_cons_succ, List.set_cons_zero]
  refine anyG_take (i := 1) 6 (.pointer (some ⟨g, 0, none⟩)) rfl rfl (by kernel_rfl) (by kernel_rfl) (by kernel_rfl) rfl (fun _ _ => by go_simp) trivial ?_
  try simp only [Act.put, List.setIfInBounds_toArray, List.set_cons_succ, List.set_cons_zero]
  refine anyG_take (i := 2) 7 (.pointer (some ⟨g, 3, none⟩)) rfl rfl (by kernel_rfl) (by kernel_rfl) (by kernel_rfl) rfl (fun _ _ => by go_simp) trivial ?_
  try simp only [Act.put, List.setIfInBounds_toArray, List.set_cons_succ, List.set_cons_zero]
  refine anyG_take (i := 4) 9 (.slice (some a) l c) rfl rfl (by kernel_rfl) (by kernel_rfl) (by kernel_rfl) rfl (fun _ _ => by go_simp) trivial ?_
  try simp only [Act.put, List.setIfInBounds_toArray, List.set_cons_succ, List.set_cons_zero]
  refine anyG_two (i := 3) (j := 5) rfl rfl (by kernel_rfl) rfl rfl (fun K hK => ?_) (fun K hK => ?_)
  · go_simp
    refine hK.out _ _ trivial ?_
    clear hK K
    try simp only [Act.put, List.setIfInBounds_toArray, List.set_cons_succ, List.set_cons_zero]
    refine anyG_step (i := 5) rfl (by kernel_rfl) rfl (fun K hK => ?_)
    go_simp
    refine hK.out _ _ trivial ?_
    clear hK K
    try simp only [Act.put, List.setIfInBounds_toArray, List.set_cons_succ, List.set_cons_zero]
    refine anyG_step (i := 6) rfl (by kernel_rfl) rfl (fun K hK => ?_)
    go_simp
    refine hK.out _ _ trivial ?_
    clear hK K
    try simp only [Act.put, List.setIfInBounds_toArray, List.set_cons_succ, List.set_cons_zero]
    refine anyG_step (i := 7) rfl (by kernel_rfl) rfl (fun K hK => ?_)
    go_simp
    refine HC.out.mono ?_
    rintro e w1 ⟨rfl, rfl⟩
    refine hK.out _ _ trivial ?_
    clear hK K
    try simp only [Act.put, List.setIfInBounds_toArray, List.set_cons_succ, List.set_cons_zero]
    refine anyG_take (i := 8) 13 (.int .i64 (IntKind.i64.wrap (L + n))) rfl rfl (by kernel_rfl) (by kernel_rfl) (by kernel_rfl) rfl (fun _ _ => by go_simp) trivial ?_
    try simp only [Act.put, List.setIfInBounds_toArray, List.set_cons_succ, List.set_cons_zero]
    refine anyG_take (i := 9) 14 (.pointer (some ⟨g, 0, none⟩)) rfl rfl (by kernel_rfl) (by kernel_rfl) (by kernel_rfl) rfl (fun _ _ => by go_simp) trivial ?_
    try simp only [Act.put, List.setIfInBounds_toArray, List.set_cons_succ, List.set_cons_zero]
    refine anyG_take (i := 10) 15 (.pointer (some ⟨g, 3, none⟩)) rfl rfl (by kernel_rfl) (by kernel_rfl) (by kernel_rfl) rfl (fun _ _ => by go_simp) trivial ?_
    try simp only [Act.put, List.setIfInBounds_toArray, List.set_cons_succ, List.set_cons_zero]
    refine anyG_step (i := 11) rfl (by kernel_rfl) rfl (fun K hK => ?_)
    go_simp
    refine hK.out _ _ trivial ?_
    clear hK K
    try simp only [Act.put, List.setIfInBounds_toArray, List.set_cons_succ, List.set_cons_zero]
    refine anyG_done (by kernel_rfl) ?_
    have hat := HP1.out
    have hfr := HF1.out
    generalize (W0.alloc (.cells #[.int .u8 10] 5 (1, 2))).setCell ⟨g, 3, none⟩ (.int .i64 (IntKind.i64.wrap (L + n))) = W2 at hat hfr ⊢
    have c4 := hat.all
    rw [← HM.out] at c4
    have z4 := hat.froz 4
    have HP := Lib.hid (HP2.out W2 hat)
    have HF := Lib.hid (hfr.trans (Frame.cell W2 ⟨g, 4, none⟩ (.int .i64 (wrap64 (M + (l : Int))))))
    clear hat hfr l0 l1 l2 z2
    go_wp2_with fail
    go_ret
    exact ⟨rfl, HP.out, HF.out⟩
  · go_simp
    refine hK.out _ _ trivial ?_
    clear hK K
    try simp only [Act.put, List.setIfInBounds_toArray, List.set_cons_succ, List.set_cons_zero]
    refine anyG_two (i := 3) (j := 6) rfl rfl (by kernel_rfl) rfl rfl (fun K hK => ?_) (fun K hK => ?_)
    · go_simp
      refine hK.out _ _ trivial ?_
      clear hK K
      try simp only [Act.put, List.setIfInBounds_toArray, List.set_cons_succ, List.set_cons_zero]
      refine anyG_step (i := 6) rfl (by kernel_rfl) rfl (fun K hK => ?_)
      go_simp
      refine hK.out _ _ trivial ?_
      clear hK K
      try simp only [Act.put, List.setIfInBounds_toArray, List.set_cons_succ, List.set_cons_zero]
      refine anyG_step (i := 7) rfl (by kernel_rfl) rfl (fun K hK => ?_)
      go_simp
      refine HC.out.mono ?_
      rintro e w1 ⟨rfl, rfl⟩
      refine hK.out _ _ trivial ?_
      clear hK K
      try simp only [Act.put, List.setIfInBounds_toArray, List.set_cons_succ, List.set_cons_zero]
      refine anyG_take (i := 8) 13 (.int .i64 (IntKind.i64.wrap (L + n))) rfl rfl (by kernel_rfl) (by kernel_rfl) (by kernel_rfl) rfl (fun _ _ => by go_simp) trivial ?_
      try simp only [Act.put, List.setIfInBounds_toArray, List.set_cons_succ, List.set_cons_zero]
      refine anyG_take (i := 9) 14 (.pointer (some ⟨g, 0, none⟩)) rfl rfl (by kernel_rfl) (by kernel_rfl) (by kernel_rfl) rfl (fun _ _ => by go_simp) trivial ?_
      try simp only [Act.put, List.setIfInBounds_toArray, List.set_cons_succ, List.set_cons_zero]
      refine anyG_take (i := 10) 15 (.pointer (some ⟨g, 3, none⟩)) rfl rfl (by kernel_rfl) (by kernel_rfl) (by kernel_rfl) rfl (fun _ _ => by go_simp) trivial ?_
      try simp only [Act.put, List.setIfInBounds_toArray, List.set_cons_succ, List.set_cons_zero]
      refine anyG_step (i := 11) rfl (by kernel_rfl) rfl (fun K hK => ?_)
      go_simp
      refine hK.out _ _ trivial ?_
      clear hK K
      try simp only [Act.put, List.setIfInBounds_toArray, List.set_cons_succ, List.set_cons_zero]
      refine anyG_done (by kernel_rfl) ?_
      have hat := HP1.out
      have hfr := HF1.out
      generalize (W0.alloc (.cells #[.int .u8 10] 5 (1, 2))).setCell ⟨g, 3, none⟩ (.int .i64 (IntKind.i64.wrap (L + n))) = W2 at hat hfr ⊢
      have c4 := hat.all
      rw [← HM.out] at c4
      have z4 := hat.froz 4
      have HP := Lib.hid (HP2.out W2 hat)
      have HF := Lib.hid (hfr.trans (Frame.cell W2 ⟨g, 4, none⟩ (.int .i64 (wrap64 (M + (l : Int))))))
      clear hat hfr l0 l1 l2 z2
      go_wp2_with fail
      go_ret
      exact ⟨rfl, HP.out, HF.out⟩
    · go_simp
      refine hK.out _ _ trivial ?_
      clear hK K
      try simp only [Act.put, List.setIfInBounds_toArray, List.set_cons_succ, List.set_cons_zero]
      refine anyG_two (i := 3) (j := 7) rfl rfl (by kernel_rfl) rfl rfl (fun K hK => ?_) (fun K hK => ?_)
      · go_simp
        refine hK.out _ _ trivial ?_
        clear hK K
        try simp only [Act.put, List.setIfInBounds_toArray, List.set_cons_succ, List.set_cons_zero]
        refine anyG_step (i := 7) rfl (by kernel_rfl) rfl (fun K hK => ?_)
        go_simp
        refine HC.out.mono ?_
        rintro e w1 ⟨rfl, rfl⟩
        refine hK.out _ _ trivial ?_
        clear hK K
        try simp only [Act.put, List.setIfInBounds_toArray, List.set_cons_succ, List.set_cons_zero]
        refine anyG_take (i := 8) 13 (.int .i64 (IntKind.i64.wrap (L + n))) rfl rfl (by kernel_rfl) (by kernel_rfl) (by kernel_rfl) rfl (fun _ _ => by go_simp) trivial ?_
        try simp only [Act.put, List.setIfInBounds_toArray, List.set_cons_succ, List.set_cons_zero]
        refine anyG_take (i := 9) 14 (.pointer (some ⟨g, 0, none⟩)) rfl rfl (by kernel_rfl) (by kernel_rfl) (by kernel_rfl) rfl (fun _ _ => by go_simp) trivial ?_
        try simp only [Act.put, List.setIfInBounds_toArray, List.set_cons_succ, List.set_cons_zero]
        refine anyG_take (i := 10) 15 (.pointer (some ⟨g, 3, none⟩)) rfl rfl (by kernel_rfl) (by kernel_rfl) (by kernel_rfl) rfl (fun _ _ => by go_simp) trivial ?_
        try simp only [Act.put, List.setIfInBounds_toArray, List.set_cons_succ, List.set_cons_zero]
        refine anyG_step (i := 11) rfl (by kernel_rfl) rfl (fun K hK => ?_)
        go_simp
        refine hK.out _ _ trivial ?_
        clear hK K
        try simp only [Act.put, List.setIfInBounds_toArray, List.set_cons_succ, List.set_cons_zero]
        refine anyG_done (by kernel_rfl) ?_
        have hat := HP1.out
        have hfr := HF1.out
        generalize (W0.alloc (.cells #[.int .u8 10] 5 (1, 2))).setCell ⟨g, 3, none⟩ (.int .i64 (IntKind.i64.wrap (L + n))) = W2 at hat hfr ⊢
        have c4 := hat.all
        rw [← HM.out] at c4
        have z4 := hat.froz 4
        have HP := Lib.hid (HP2.out W2 hat)
        have HF := Lib.hid (hfr.trans (Frame.cell W2 ⟨g, 4, none⟩ (.int .i64 (wrap64 (M + (l : Int))))))
        clear hat hfr l0 l1 l2 z2
        go_wp2_with fail
        go_ret
        exact ⟨rfl, HP.out, HF.out⟩
      · go_simp
        refine HC.out.mono ?_
        rintro e w1 ⟨rfl, rfl⟩
        refine hK.out _ _ trivial ?_
        clear hK K
        try simp only [Act.put, List.setIfInBounds_toArray, List.set_cons_succ, List.set_cons_zero]
        refine anyG_step (i := 3) rfl (by kernel_rfl) rfl (fun K hK => ?_)
        go_simp
        refine hK.out _ _ trivial ?_
        clear hK K
        try simp only [Act.put, List.setIfInBounds_toArray, List.set_cons_succ, List.set_cons_zero]
        refine anyG_take (i := 8) 13 (.int .i64 (IntKind.i64.wrap (L + n))) rfl rfl (by kernel_rfl) (by kernel_rfl) (by kernel_rfl) rfl (fun _ _ => by go_simp) trivial ?_
        try simp only [Act.put, List.setIfInBounds_toArray, List.set_cons_succ, List.set_cons_zero]
        refine anyG_take (i := 9) 14 (.pointer (some ⟨g, 0, none⟩)) rfl rfl (by kernel_rfl) (by kernel_rfl) (by kernel_rfl) rfl (fun _ _ => by go_simp) trivial ?_
        try simp only [Act.put, List.setIfInBounds_toArray, List.set_cons_succ, List.set_cons_zero]
        refine anyG_take (i := 10) 15 (.pointer (some ⟨g, 3, none⟩)) rfl rfl (by kernel_rfl) (by kernel_rfl) (by kernel_rfl) rfl (fun _ _ => by go_simp) trivial ?_
        try simp only [Act.put, List.setIfInBounds_toArray, List.set_cons_succ, List.set_cons_zero]
        refine anyG_step (i := 11) rfl (by kernel_rfl) rfl (fun K hK => ?_)
        go_simp
        refine hK.out _ _ trivial ?_
        clear hK K
        try simp only [Act.put, List.setIfInBounds_toArray, List.set_cons_succ, List.set_cons_zero]
        refine anyG_done (by kernel_rfl) ?_
        have hat := HP1.out
        have hfr := HF1.out
        generalize (W0.alloc (.cells #[.int .u8 10] 5 (1, 2))).setCell ⟨g, 3, none⟩ (.int .i64 (IntKind.i64.wrap (L + n))) = W2 at hat hfr ⊢
        have c4 := hat.all
        rw [← HM.out] at c4
        have z4 := hat.froz 4
        have HP := Lib.hid (HP2.out W2 hat)
        have HF := Lib.hid (hfr.trans (Frame.cell W2 ⟨g, 4, none⟩ (.int .i64 (wrap64 (M + (l : Int))))))
        clear hat hfr l0 l1 l2 z2
        go_wp2_with fail
        go_ret
        exact ⟨rfl, HP.out, HF.out⟩

end Go.Proofs.YtlflhjgfegflfaaDoor
