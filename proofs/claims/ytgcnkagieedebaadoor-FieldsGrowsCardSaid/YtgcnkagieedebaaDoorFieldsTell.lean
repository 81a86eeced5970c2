/- What fields' own calls do: told, tellFields. -/
import Derived.Test.YtgcnkagieedebaaDoorItell
import Derived.Test.YtgcnkagieedebaaDoorIfeedb
import Derived.Test.YtgcnkagieedebaaDoorRA
import Derived.Test.YtgcnkagieedebaaDoorFieldsPlain
import Derived.StillTactics
namespace Go.Proofs.YtgcnkagieedebaaDoor
open Go.RowKit

/-- What comes of a line: some of its fields, and its end. -/
def fieldsT (N : Nat) (A : List UInt8) : Teller Unit := fun _ x => ((), [(0, lineF N A x ++ [10])], false)
def fieldsBase : Nat := 1 + 1
def fieldsM (N : Nat) (a : UInt8) : LM Unit where
  T := 87
  F := 30
  piece _ := .nilFunc
  ext g _ X rest w := rest = [strV [a], .int .i64 N] ∧ (∀ k, ¬ X k) ∧ MaxAt w ∧ fieldsBase ≤ g
  tell := fieldsT N [a]
  good _ := True
  quiet := false
  base := fieldsBase
  extKeep _ _ _ _ _ _ _ h hf hp := ⟨h.1, h.2.1, h.2.2.1.frame hf (hp _ (.inr (by decide))), h.2.2.2⟩
  extBase _ _ _ _ _ h := h.2.2.2
  extOld _ _ _ _ _ h k hk := absurd hk (h.2.1 k)
def fieldsRow (N : Nat) (a : UInt8) (nd : Int) (f : Bool) (b : List UInt8) (g : Nat) : Array Value := rowA [.int .i64 nd, .nilFunc] f b [.func (.func 30) #[.pointer (some ⟨g, 0, none⟩)] #[], .nilFunc, strV [a], .int .i64 N]
theorem fields_heap {N : Nat} {a : UInt8} {g : Nat} {nd : Int} {f : Bool} {b : List UInt8} {u : Unit} {X : Nat → Prop} {w : World} (h : (fieldsM N a).RepN g nd f b u X w) : w.heap[g]? = some (.cells (fieldsRow N a nd f b g) 87 (0, 0)) ∧ (∀ k, ¬ X k) ∧ MaxAt w := by
  obtain ⟨rest, h, rfl, hX, hm, -⟩ := h
  exact ⟨h.heap, hX, hm⟩
theorem fields_of {N : Nat} {a : UInt8} {g : Nat} {nd : Int} {f : Bool} {b : List UInt8} {w : World} (h : w.heap[g]? = some (.cells (fieldsRow N a nd f b g) 87 (0, 0))) (hb : b.length ≤ 64) (hf : f = true → b = []) (hm : MaxAt w) (hg : fieldsBase ≤ g) : (fieldsM N a).RepN g nd f b () (fun _ => False) w :=
  ⟨_, ⟨h, rfl, hb, hf⟩, rfl, fun _ h => h, hm, hg⟩
theorem fields_enters (N : Nat) (a : UInt8) : Enters (fieldsM N a).F := fun args w => by
  show (callFunc 30 args).run Tryd.prog w = _
  simp [callFunc, go_sem, Tryd.func30]
  rfl

/-- The call answers texts of its own; what lay before it lies as it lay. -/
def OwnTexts (w : World) (L : Lines) (e : Ending) (w' : World) : Prop :=
  ∃ v, e = .returned v ∧ w'.ownsRow w.heap.size 9 1 v L.length (L.map strV) ∧ Below w.heap.size w w'

set_option maxRecDepth 100000 in
set_option maxHeartbeats 2000000 in
theorem toldF_any (N : Nat) (g B : Nat) (ps : Lines) (w : World) (hps : ∀ j l, ps[j]? = some l → w.cell? ⟨B, j, none⟩ = some (strV l)) (hn : ps.length ≤ 65) (hN : N ≤ 65535) (hc : w.cell? ⟨g, 71, none⟩ = some (.int .i64 N)) :
    Calls Tryd.prog 45 #[.pointer (some ⟨g, 0, none⟩), .slice (some ⟨B, 0, none⟩) ps.length ps.length] w (OwnTexts w (pickF N 0 ps)) := by
  have HP := Lib.hid (show ∀ W, Below w.heap.size w W → ∀ j l, ps[j]? = some l → W.cell? ⟨B, j, none⟩ = some (strV l) from fun W hb j l h => Pm.Below.cell hb (hps j l h))
  have HC := Lib.hid (show ∀ W, Below w.heap.size w W → W.cell? ⟨g, 71, none⟩ = some (.int .i64 N) from fun W hb => Pm.Below.cell hb hc)
  clear hps hc
  go_enter Tryd.func45, Tryd.ntmps45
  go_wp2_with fail
  go_loopw [5, 10] (fun v iv wr => ∃ j : Nat, iv = .int .i64 j ∧ j ≤ ps.length ∧ wr.ownsRow w.heap.size 9 1 v (pickF N 0 (ps.take j)).length ((pickF N 0 (ps.take j)).map strV) ∧ Below w.heap.size w wr) (fun _ i _ => ps.length - (intOf i).toNat)
  case atStart => exact ⟨0, rfl, Nat.zero_le _, by simpa [pickF] using World.ownsRow_nil w w.heap.size 9 1, Below.refl _ _⟩
  case round =>
    obtain ⟨j, rfl, hj, hown, hbr⟩ := hrel
    obtain ⟨la, lc, hv⟩ := owns_slice hown
    rw [hv] at hown ⊢
    have HO := Lib.hid hown
    have HB := Lib.hid hbr
    have hpl := Nat.le_trans (pickF_len N (ps.take j) 0) (by rw [List.length_take]; exact Nat.min_le_right _ _)
    clear hown hbr hv
    by_cases hlt : j < ps.length
    · obtain ⟨l, hl⟩ : ∃ l, ps[j]? = some l := ⟨ps[j]'hlt, List.getElem?_eq_getElem hlt⟩
      have q0 : (0 : Int) ≤ (j : Int) := by omega
      have q1 : (j : Int) < (ps.length : Int) := by omega
      have hx := HP.out wr HB.out j l hl
      obtain ⟨S, hS⟩ : ∃ S : ByteArray, strV l = .string S := ⟨_, rfl⟩
      rw [hS] at hx
      have HS := Lib.hid hS
      have htk := pickF_take (N := N) hl
      have HTk := Lib.hid htk
      have hbit := bit_and (N := N) (j := j) hN (by omega)
      have hsh : IntKind.i64.wrap (2 ^ j) = shlV j := by
        rw [shlV, Nat.min_eq_left (by omega), Int.one_mul]
      obtain ⟨sv, hsv⟩ : ∃ sv, sv = shlV j := ⟨_, rfl⟩
      rw [← hsv] at hbit hsh
      have HSh := Lib.hid hsh
      obtain ⟨bv, hbv⟩ : ∃ bv, bv = bits .and .i64 (N : Int) sv := ⟨_, rfl⟩
      rw [← hbv] at hbit
      have HBv := Lib.hid hbv
      clear hl hS htk hsh hsv hbv
      go_wp2_with fail
      refine region_stillG (by kernel_rfl) (by kernel_rfl) ?_
      have hbd := HB.out.drew
      have HOd := Lib.hid (show wr.drew.ownsRow w.heap.size 9 1 (.slice la (pickF N 0 (ps.take j)).length lc) (pickF N 0 (ps.take j)).length ((pickF N 0 (ps.take j)).map strV) from HO.out)
      clear HB hx HO
      generalize wr.drew = wd at hbd HOd ⊢
      have hc := HC.out wd hbd
      have HBd := Lib.hid hbd
      clear hbd
      iterate 5 (refine stillG_step (fun K hK => ?_); go_simp; refine hK.out _ ?_; clear hK K)
      refine stillG_step (fun K hK => ?_)
      go_simp
      rw [HSh.out]
      refine hK.out _ ?_
      clear hK K
      refine stillG_step (fun K hK => ?_)
      go_simp
      rw [← HBv.out]
      refine hK.out _ ?_
      clear hK K
      refine stillG_step (fun K hK => ?_)
      go_simp
      refine hK.out _ ?_
      clear hK K
      refine stillG_nil ?_
      have hsz := HBd.out.size
      cases hb : N.testBit j with
      | true =>
        have htk := HTk.out
        rw [if_pos hb] at htk
        have HTk2 := Lib.hid htk
        clear htk hbit hc
        obtain ⟨i0, hi, hz0, hz1, hz2⟩ := info_parts Tryd.info9
        go_wp2_with (at_builtin; refine wpList_append_own _ rfl (.tmp 23) (.tmp 25) 64 rfl w.heap.size 9 i0 (.string ByteArray.empty) 1 16 Tryd.underlying64 hi hz0 hz1 hz2 rfl (by decide) _ _ _ rfl (HOd.out.alloc _) ⟨wd.heap.size, 0, none⟩ 1 1 [.string S] rfl rfl (cell_one_new _ _ _) (by simp [Value.oneCell']) (by unfold maxLen; omega) (by omega) (by simp; omega) ?_; intro v' w1 hown' hgrow hnil)
        refine ⟨⟨j + 1, by go_num, by omega, ?_, ?_⟩, by simp [intOf]; omega⟩
        · rw [HTk2.out, List.map_append, List.length_append]
          simpa [HS.out] using hown'
        · exact (HBd.out.alloc hsz _).grown hgrow (by simp; omega) (fun k e => (HOd.out.lt k e).1)
      | false =>
        have htk := HTk.out
        rw [if_neg (by simp [hb])] at htk
        have HTk2 := Lib.hid htk
        clear htk hbit hc
        go_wp2_with fail
        refine ⟨⟨j + 1, by go_num, by omega, ?_, HBd.out⟩, by simp [intOf]; omega⟩
        rw [HTk2.out]
        exact HOd.out
    · have q1 : ¬ (j : Int) < (ps.length : Int) := by omega
      obtain rfl : j = ps.length := by omega
      go_wp2_with fail
      go_ret
      have hown := HO.out
      rw [List.take_length] at hown
      exact ⟨_, rfl, hown, HB.out⟩

theorem owns_room {w : World} {base : Nat} {e : TypeId} {size : Nat} {v : Value} {n : Nat} {xs : List Value} (h : w.ownsRow base e size v n xs) : ∃ b c, v = .slice b n c ∧ n ≤ c := by
  rcases h.2 with ⟨rfl, rfl⟩ | ⟨g, cap, cur, rfl, _, _, hle, _⟩
  · exact ⟨_, _, rfl, Nat.le_refl _⟩
  · exact ⟨_, _, rfl, by omega⟩

def FieldsTold (N : Nat) (a : UInt8) (g : Nat) (X : Nat → Prop) (w : World) (o : Outs) (e : Ending) (w' : World) : Prop :=
  ∃ v, e = .returned v ∧ OwnOuts w.heap.size w' v o ∧ (fieldsM N a).Rep g ⟨true, false, [], ()⟩ X w' ∧ Frame ((fieldsM N a).own g X) w w'
set_option maxRecDepth 100000 in
set_option maxHeartbeats 2000000 in
theorem fields_told (N : Nat) (a : UInt8) (g : Nat) (X : Nat → Prop) (x : List UInt8) (w : World) (h : (fieldsM N a).Rep g ⟨true, false, [], ()⟩ X w) (hx : x.length ≤ 64) (hN : N ≤ 65535) :
    Calls Tryd.prog 30 #[.pointer (some ⟨g, 0, none⟩), strV x] w (FieldsTold N a g X w (fieldsT N [a] () x).2.1) := by
  obtain ⟨hheap, -, hm⟩ := fields_heap h.repN
  have HR := Lib.hid h
  have HB0 := Lib.hid (Below.refl w.heap.size w)
  have hcell : w.cell? ⟨g, 70, none⟩ = some (strV [a]) ∧ w.cell? ⟨g, 71, none⟩ = some (.int .i64 N) := by
    constructor <;> rw [cell_of_row _ _ _ _ _ _ hheap] <;> rfl
  have HCell := Lib.hid (show ∀ W, Below w.heap.size w W → W.cell? ⟨g, 70, none⟩ = some (strV [a]) ∧ W.cell? ⟨g, 71, none⟩ = some (.int .i64 N) from fun W hb => ⟨Pm.Below.cell hb hcell.1, Pm.Below.cell hb hcell.2⟩)
  have HC := Lib.hid ((contains_any x [a] w (by omega) hm).mono fun e w' h => (⟨h.1, h.2.symm⟩ : e = .returned (.bool (hasB x [a])) ∧ w' = w))
  have HSp := Lib.hid (split_any x a w (by omega) hm)
  obtain ⟨k70, k71⟩ := hcell
  obtain ⟨S, hS⟩ : ∃ S : ByteArray, strV x = .string S := ⟨_, rfl⟩
  obtain ⟨SA, hSA⟩ : ∃ S : ByteArray, strV [a] = .string S := ⟨_, rfl⟩
  rw [hSA] at k70
  rw [hS, hSA] at HC HSp
  rw [hSA] at HCell
  rw [hS]
  have HS := Lib.hid hS
  have HSA := Lib.hid hSA
  have HX := Lib.hid hx
  obtain ⟨y, hy⟩ : ∃ y, y = lineF N [a] x := ⟨_, rfl⟩
  have hyl : y.length ≤ 64 := by rw [hy]; exact Nat.le_trans (lineF_le N a x) hx
  have HY := Lib.hid hy
  have hT : (fieldsT N [a] () x).2.1 = [(0, y ++ [10])] := by rw [hy]; rfl
  rw [hT]
  have hpl := partsL_len a x
  have hcl := List.count_le_length (a := a) (l := x)
  have HPl := Lib.hid (show (partsL a x).length ≤ 65 by omega)
  clear hS hSA hx h hheap hm hy hT hpl hcl k71
  have hfin : ∀ (W w3 : World) (v : Value), Below w.heap.size w W → OwnOuts W.heap.size w3 v [(0, y ++ [10])] → Below W.heap.size W w3 → FieldsTold N a g X w [(0, y ++ [10])] (.returned v) w3 := fun W w3 v hb ho hb3 => by
    have hall := hb.trans (hb3.mono hb.size)
    exact ⟨v, rfl, ho.mono hb.size, HR.out.frame (Below.toFrame hall fun _ => False) (fun _ _ h => h), Below.toFrame hall _⟩
  have HFin := Lib.hid hfin
  clear hfin
  go_enter Tryd.func30, Tryd.ntmps30
  go_wp2_with fail
  refine HC.out.mono ?_
  rintro e w1 ⟨rfl, rfl⟩
  cases hH : hasB x [a] with
  | false =>
    have hyx : y = x := by rw [HY.out, lineF, hH]; rfl
    go_wp2_with fail
    refine (tellOut_any 0 _ x _ (text_new _ x S HS.out (0, 0)) HX.out).mono ?_
    rintro e w3 ⟨v, rfl, ho, hb⟩
    rw [← hyx] at ho
    have HO := Lib.hid ho
    have HB := Lib.hid hb
    clear ho hb hyx hH
    go_wp2_with fail
    go_ret
    exact HFin.out _ _ _ ((Below.refl _ _).alloc (Nat.le_refl _) _) HO.out HB.out
  | true =>
    have hyx : y = Lib.join (pickF N 0 (partsL a x)) [a] := by rw [HY.out, lineF, hH]; rfl
    have HYX := Lib.hid hyx
    clear hyx hH
    go_wp2_with fail
    refine HSp.out.mono ?_
    rintro e w2 ⟨rfl, rfl⟩
    have hb2 : Below w1.heap.size w1 (w1.alloc (.cells ((partsL a x).map strV).toArray 9)) := (Below.refl _ _).alloc (Nat.le_refl _) _
    have hrow := heap_alloc_last w1 (.cells ((partsL a x).map strV).toArray 9)
    have htold := toldF_any N g w1.heap.size (partsL a x) (w1.alloc (.cells ((partsL a x).map strV).toArray 9)) (fun j l hl => by
      rw [cell_of_row _ _ _ _ _ _ hrow, List.getElem?_toArray, List.getElem?_map, hl]
      rfl) HPl.out hN (HCell.out _ hb2).2
    generalize w1.alloc (.cells ((partsL a x).map strV).toArray 9) = W2 at hb2 htold ⊢
    have HB2 := Lib.hid hb2
    have HTold := Lib.hid htold
    clear hb2 hrow htold k70
    go_wp2_with fail
    refine HTold.out.mono ?_
    rintro e w3 ⟨tv, rfl, hown, hb3⟩
    have hb13 := HB2.out.trans (hb3.mono HB2.out.size)
    have k70 := (HCell.out w3 hb13).1
    have hjoin := joinBy_any tv (pickF N 0 (partsL a x)) a w3 (isTexts_of_owns hown) (owns_room hown) (by rw [← HYX.out]; omega) (Nat.le_trans (pickF_len N _ 0) (by have := HPl.out; omega))
    rw [← HYX.out, HSA.out] at hjoin
    obtain ⟨Sy, hSy⟩ : ∃ S : ByteArray, strV y = .string S := ⟨_, rfl⟩
    rw [hSy] at hjoin
    have HSy := Lib.hid hSy
    have HJ := Lib.hid hjoin
    have HB13 := Lib.hid hb13
    clear hown hb3 hb13 hjoin hSy
    go_wp2_with fail
    refine HJ.out.mono ?_
    rintro e w4 ⟨rfl, hb4⟩
    have hb14 := HB13.out.trans (hb4.mono HB13.out.size)
    have HB14 := Lib.hid hb14
    clear hb4 hb14 k70
    go_wp2_with fail
    refine (tellOut_any 0 _ y _ (text_new _ y Sy HSy.out (0, 0)) hyl).mono ?_
    rintro e w5 ⟨v, rfl, ho, hb⟩
    have HO := Lib.hid ho
    have HB := Lib.hid hb
    clear ho hb
    go_wp2_with fail
    go_ret
    exact HFin.out _ _ _ (HB14.out.alloc HB14.out.size _) HO.out HB.out

theorem fields_tells (N : Nat) (a : UInt8) (g : Nat) (hN : N ≤ 65535) : (fieldsM N a).Tells g := by
  intro s X x w h hl hb hx
  obtain ⟨hf, -⟩ := h.live hl
  obtain ⟨live, fail, b, u⟩ := s
  simp only at hl hb hf
  subst hl hb hf
  exact (fields_told N a g X x w h hx hN).mono fun e w' ⟨v, he, ho, hr, hf⟩ => ⟨v, X, he, ho, hr, fun k hk => hk, fun k hk => .inl hk, hf⟩

end Go.Proofs.YtgcnkagieedebaaDoor
