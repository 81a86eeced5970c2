/- What the document's Copy does, of any streams: the same, in memory of its own. -/
import Derived.Test.YteghdepedlaneaaDoorStrs
import Derived.Outline
import Derived.Deep.Onto
import Derived.Deep.MidRow
namespace Go.Proofs.YteghdepedlaneaaDoor
open Go.RowKit

def CopyXEnds (w : World) (ins : List Strm) (e : Ending) (w' : World) : Prop := ∃ v X, e = .returned v ∧ X.map (·.1) = ins ∧ OwnX w.heap.size X v w' ∧ Below w.heap.size w w'
structure CopyInv (ins : List Strm) (w : World) (v : Value) (j : Nat) (wr : World) : Prop where
  le : j ≤ ins.length
  ex : ∃ X, X.map (·.1) = ins.take j ∧ OwnX w.heap.size X v wr
  below : Below w.heap.size w wr

set_option maxRecDepth 100000 in
set_option maxHeartbeats 4000000 in
theorem copyX_any {p : Nat → Prop} (iv : Value) (ins : List Strm) (w : World) (hI : IsStrms p w iv ins) (hl : ∀ t ∈ ins, t.bytes.length ≤ 4000) (h8 : ins.length ≤ 8) :
    Calls Tryd.prog 22 #[iv] w (CopyXEnds w ins) := by
  have HIn := Lib.hid (show ∀ W, Below w.heap.size w W → IsStrms p W iv ins from fun W hb => hI.below hb)
  have HL := Lib.hid hl
  obtain ⟨ai, ci, rfl, -⟩ := hI
  clear hl
  go_enter Tryd.func22, Tryd.ntmps22
  go_wp2_with fail
  go_loopw [3, 4] (fun ov jv wr => ∃ (j : Nat) (v : Value), v = ov ∧ jv = .int .i64 j ∧ CopyInv ins w v j wr) (fun _ j _ => ins.length - (intOf j).toNat)
  case atStart => exact ⟨0, _, rfl, rfl, ⟨Nat.zero_le _, ⟨[], rfl, OwnX.nil _ _⟩, Below.refl _ _⟩⟩
  case round =>
    obtain ⟨j, v, rfl, rfl, hinv⟩ := hrel
    obtain ⟨X, hX, hown⟩ := hinv.ex
    have hbw := hinv.below
    have hle := hinv.le
    have hXl : X.length = j := by have := congrArg List.length hX; rw [List.length_map, List.length_take] at this; omega
    obtain ⟨av, cv, e⟩ := hown.slice
    rw [hXl] at e
    subst e
    have HXl := Lib.hid hXl
    clear hXl
    by_cases hlt : j < ins.length
    · obtain ⟨i, hi⟩ : ∃ i, ins[j]? = some i := ⟨ins[j]'hlt, List.getElem?_eq_getElem hlt⟩
      obtain ⟨_, _, e, hcs⟩ := HIn.out _ hbw
      cases e
      obtain ⟨gb, off, bv, rfl, -, c0, c1, c2, c3, c4, hbytes⟩ := hcs j i hi
      have hmid : wr.rangeAt gb (off + j * 5) [bv, .bool i.ended, .int .i64 i.code, .int .i64 i.stage, .int .i64 i.id] := fun j' v hv => by
        rcases j' with _ | _ | _ | _ | _ | j'
        · cases hv; exact c0
        · cases hv; exact c1
        · cases hv; exact c2
        · cases hv; exact c3
        · cases hv; exact c4
        · simp at hv
      have hil := HL.out i (List.mem_of_getElem? hi)
      have HBy := Lib.hid (show ∀ W, Below wr.heap.size wr W → IsBytes p W bv i.bytes from fun W hb => hbytes.below hb)
      obtain ⟨ab, cb, rfl, -, -⟩ := hbytes
      have q0 : (0 : Int) ≤ (j : Int) := by omega
      have q1 : (j : Int) < (ins.length : Int) := by omega
      have HI := Lib.hid hi
      have HX := Lib.hid hX
      have HOw := Lib.hid hown
      have HBw := Lib.hid hbw
      have hsw := hbw.size
      clear c0 c1 c2 c3 c4 hcs hi hX hown hbw hinv
      go_upto_region 6 with (first | (refine wpList_load_mid rfl 61 (.tmp 14) rfl gb (off + j * 5) rfl _ _ hmid Tryd.underlying61 rfl (by kernel_rfl) ?_))
      have hb1 : Below wr.heap.size wr (wr.alloc (.cells #[.slice ab i.bytes.length cb, .bool i.ended, .int .i64 i.code, .int .i64 i.stage, .int .i64 i.id] 61)) := (Below.refl _ _).alloc (Nat.le_refl _) _
      have hr1 := heap_alloc_last wr (.cells #[.slice ab i.bytes.length cb, .bool i.ended, .int .i64 i.code, .int .i64 i.stage, .int .i64 i.id] 61)
      have hsz1 : (wr.alloc (.cells #[.slice ab i.bytes.length cb, .bool i.ended, .int .i64 i.code, .int .i64 i.stage, .int .i64 i.id] 61)).heap.size = wr.heap.size + 1 := by simp
      generalize wr.alloc (.cells #[.slice ab i.bytes.length cb, .bool i.ended, .int .i64 i.code, .int .i64 i.stage, .int .i64 i.id] 61) = W1 at hb1 hr1 hsz1 ⊢
      have d0 : (W1.alloc (.cells #[] 5)).cell? ⟨wr.heap.size, 0, none⟩ = some (.slice ab i.bytes.length cb) := by
        rw [((Below.refl W1.heap.size W1).alloc (Nat.le_refl _) _).cell (by show wr.heap.size < W1.heap.size; omega), cell_of_row _ _ _ _ _ _ hr1]; rfl
      have hown := World.ownsRow_made W1 (e := 5) (base := W1.heap.size) (size := 1) #[] 0 (Nat.le_refl _) (by decide) rfl
      have HOwn := Lib.hid hown
      have HR1 := Lib.hid hr1
      have HB1 := Lib.hid hb1
      have hbA : Below wr.heap.size wr (W1.alloc (.cells #[] 5)) := hb1.alloc (by omega) _
      have HBA := Lib.hid hbA
      have HSz := Lib.hid hsz1
      have h5 : wr.heap.size < W1.heap.size := by omega
      have H5 := Lib.hid h5
      clear hown hr1 hb1 hbA hmid hsz1 h5
      have hold : ∀ w2 : World, (W1.alloc (.cells #[] 5)).grownBy w2 (Value.slice (some ⟨W1.heap.size, 0, none⟩) 0 0).ownBlock → Below W1.heap.size W1 w2 ∧ w2.frozen? ⟨wr.heap.size, 0, none⟩ = false ∧ w2.cell? ⟨wr.heap.size, 0, none⟩ = some (.slice ab i.bytes.length cb) := by
        intro w2 hg2
        have hb2 : Below W1.heap.size W1 w2 := ((Below.refl W1.heap.size W1).alloc (Nat.le_refl _) (.cells #[] 5)).grown hg2 (by simp) (fun j ej => (HOwn.out.lt j ej).1)
        have hr2 := (hb2.block wr.heap.size H5.out).trans HR1.out
        exact ⟨hb2, by simp [World.frozen?, hr2], by rw [cell_of_row _ _ _ _ _ _ hr2]; rfl⟩
      have HOld := Lib.hid hold
      clear hold
      go_upto_region 7 with (at_builtin; refine wpList_append_bytes rfl (.tmp 16) (.tmp 18) rfl W1.heap.size (.slice (some ⟨W1.heap.size, 0, none⟩) 0 0) (.slice ab i.bytes.length cb) [] i.bytes rfl HOwn.out rfl (HBy.out _ HBA.out) (by simp; omega) (by simp) ?_; intro v2 w2 ho2 hg2; obtain ⟨hb2, z2, k2⟩ := HOld.out w2 hg2; obtain ⟨a2, l2, rfl⟩ := owns_slice ho2; have HO2 := Lib.hid ho2; have HB2 := Lib.hid hb2; clear ho2 hg2 hb2)
      have hr2 := (HB2.out.block wr.heap.size H5.out).trans HR1.out
      have hr3 := setCell_row (o := 0) (v := .slice a2 i.bytes.length l2) hr2
      have hf3 := Frame.cell w2 ⟨wr.heap.size, 0, none⟩ (.slice a2 i.bytes.length l2)
      have ho3 := hf3.owns HO2.out (fun k hk e => by have := (HO2.out.lt k hk).1; have := H5.out; have e' : k = wr.heap.size := e; omega)
      have hb3 : Below wr.heap.size wr (w2.setCell ⟨wr.heap.size, 0, none⟩ (.slice a2 i.bytes.length l2)) := (HB1.out.trans (HB2.out.mono (by have := H5.out; omega))).setCell (Nat.le_refl _) _
      have hlt3 : wr.heap.size < (w2.setCell ⟨wr.heap.size, 0, none⟩ (.slice a2 i.bytes.length l2)).heap.size := (Array.getElem?_eq_some_iff.1 hr3).1
      change Code.wp _ _ _ _ (w2.setCell ⟨wr.heap.size, 0, none⟩ (.slice a2 i.bytes.length l2))
      generalize w2.setCell ⟨wr.heap.size, 0, none⟩ (.slice a2 i.bytes.length l2) = W3 at hr3 ho3 hb3 hlt3 ⊢
      have hr3' : W3.heap[wr.heap.size]? = some (.cells #[.slice a2 i.bytes.length l2, .bool i.ended, .int .i64 i.code, .int .i64 i.stage, .int .i64 i.id] 61 (0, 0)) := hr3
      have hX3 := HOw.out.below hb3
      have hbw3 := HBw.out.trans (hb3.mono hsw)
      have hrow4 : ∀ o : Obj, (W3.alloc o).heap[W3.heap.size]? = some o := fun o => heap_alloc_last W3 o
      have hal : ∀ o : Obj, Below W3.heap.size W3 (W3.alloc o) := fun o => (Below.refl _ _).alloc (Nat.le_refl _) _
      have hsrcb : ∀ o : Obj, (W3.alloc o).ownsRow w.heap.size 5 1 (.slice a2 i.bytes.length l2) i.bytes.length (bytesL i.bytes) := fun o => ((ho3.mono (by have := H5.out; omega)) : W3.ownsRow w.heap.size 5 1 (.slice a2 i.bytes.length l2) i.bytes.length (bytesL i.bytes)).alloc o
      have hltb : ∀ g, (Value.slice a2 i.bytes.length l2).ownBlock = some g → wr.heap.size < g := fun g hg => by have := (HO2.out.lt g hg).1; have := H5.out; omega
      have hnv : ∀ g, (Value.slice a2 i.bytes.length l2).ownBlock = some g → (Value.slice av j cv).ownBlock ≠ some g := fun g hg e => by have := hltb g hg; have := (HOw.out.row.lt g e).2; omega
      have hnew : ∀ u ∈ X, ∀ g, (Value.slice a2 i.bytes.length l2).ownBlock = some g → u.2.ownBlock ≠ some g := fun u hu g hg e => by
        obtain ⟨k, hk⟩ := List.mem_iff_getElem?.1 hu
        have := hltb g hg
        have := ((HOw.out.bytes k u hk).lt g e).2
        omega
      have HX3 := Lib.hid (fun o : Obj => hX3.below (hal o))
      have HBW3 := Lib.hid (fun o : Obj => hbw3.trans ((hal o).mono hbw3.size))
      have HRow4 := Lib.hid hrow4
      have HSrc := Lib.hid hsrcb
      have HNv := Lib.hid hnv
      have HNew := Lib.hid hnew
      clear hr2 hr3 hf3 ho3 hb3 z2 k2 d0 hX3 hbw3 hrow4 hal hsrcb hltb hnv hnew hlt3
      go_wp2_with (first | (refine wpList_load_row rfl 61 (.tmp 5) rfl wr.heap.size rfl _ _ _ _ hr3' Tryd.underlying61 rfl (by kernel_rfl) ?_) | (at_builtin; refine wpList_append_strm rfl (.tmp 21) (.tmp 23) rfl (i, .slice a2 i.bytes.length l2) W3.heap.size rfl (HX3.out _) rfl (HRow4.out _) (HSrc.out _) HNv.out HNew.out (by have := HXl.out; omega) (HBW3.out _).size ?_; intro v' w' ho' hg'; have hb' := owns_below_of (HX3.out _).row (HBW3.out _) hg'; have HO' := Lib.hid ho'; have HB' := Lib.hid hb'; clear ho' hg' hb'))
      go_roundw
      case rel =>
        refine ⟨j + 1, _, rfl, by go_num, ⟨by omega, ⟨X ++ [(i, .slice a2 i.bytes.length l2)], ?_, HO'.out⟩, HB'.out⟩⟩
        rw [List.map_append, HX.out, take_snoc HI.out]
        rfl
      case measure => simp [intOf]; omega
    · obtain rfl : j = ins.length := by omega
      have q1 : ¬ (ins.length : Int) < (ins.length : Int) := by omega
      rw [List.take_length] at hX
      have HX := Lib.hid hX
      have HOw := Lib.hid hown
      have HBw := Lib.hid hbw
      clear hX hown hbw hinv
      go_wp2_with fail
      go_ret
      exact ⟨_, X, rfl, HX.out, HOw.out, HBw.out⟩

end Go.Proofs.YteghdepedlaneaaDoor
