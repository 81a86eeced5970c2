/- The chapter's first example holds: awake answers true. -/
import Derived.Test.YteghdepedlaneaaDoorPsD
import Derived.Test.YteghdepedlaneaaDoorPasteHeavy
import Derived.Test.YteghdepedlaneaaDoorGmany
import Derived.Outline
namespace Go.Proofs.YteghdepedlaneaaDoor
open Go.RowKit

/-- Drive, of this filter. -/
theorem drivePaste_any (N : Nat) (A B : List UInt8) (g : Nat) (s : PS) (own : Nat → Prop) (iv cv : Value) (ins : List Strm) (cuts : List Int) (w : World) (hok : pasteOk N A B) (hlen : ins.length = pasteIns N) (hR : pasteR N A B g s own w) (hI : IsStrms (fun k => ¬ own k) w iv ins) (hC : IsInts (fun k => ¬ own k) w cv cuts) (hcl : cuts.length ≤ 1000000) (hl : ∀ t ∈ ins, t.bytes.length ≤ 1000000) :
    Calls Tryd.prog 17 #[.iface 74 (.pointer (some ⟨g, 0, none⟩)), iv, cv] w (DriveEnd own (pasteR N A B g) w (drive (pasteF N A B) ins cuts 100000 0 (start (pasteF N A B) s))) := by
  obtain ⟨_, _, _, _, _, _, _, _, _, _, hD⟩ := paste_drives N A B g hok
  exact drive_any (pasteF N A B) pasteBase own (pasteR N A B g) 74 (.pointer (some ⟨g, 0, none⟩)) _ _ _ _ _ _ _ _ _ _ hD s iv cv ins cuts w (paste_baseR hR) hR hI hC hcl
    (fun s _ _ hs => by rw [hlen]; exact paste_needs N A B s hok hs) hl
theorem paste_keep {N : Nat} {A B : List UInt8} {g : Nat} {s : PS} {own p : Nat → Prop} {w w' : World} (hok : pasteOk N A B) (h : pasteR N A B g s own w) (hf : Frame p w w') (hp : ∀ k, own k ∨ k < pasteBase → ¬ p k) : pasteR N A B g s own w' := by
  obtain ⟨_, _, _, _, _, _, _, _, _, _, hD⟩ := paste_drives N A B g hok
  exact hD.keep _ _ _ _ _ h hf hp
theorem paste_below {N : Nat} {A B : List UInt8} {g : Nat} {s : PS} {own : Nat → Prop} {w w' : World} (hok : pasteOk N A B) (h : pasteR N A B g s own w) (hb : Below w.heap.size w w') : pasteR N A B g s own w' := paste_keep hok h (Below.toFrame hb fun _ => False) (fun _ _ h => h)
theorem paste_old {N : Nat} {A B : List UInt8} {g : Nat} {s : PS} {own : Nat → Prop} {w : World} (hok : pasteOk N A B) (h : pasteR N A B g s own w) : ∀ k, own k → k < w.heap.size := by
  obtain ⟨_, _, _, _, _, _, _, _, _, _, hD⟩ := paste_drives N A B g hok
  exact hD.old _ _ _ h

set_option maxRecDepth 100000 in
set_option maxHeartbeats 8000000 in
theorem awake_true (w : World) (hT : Pm.Tab w) : Calls Tryd.prog 11 #[] w (Pm.Gives w (.bool true)) := by
  have HT := Lib.hid hT
  clear hT
  have kc0 := Lib.run_convert_bytes_const (P := Tryd.prog) w 22 5 #[.int .u8 44] 1 1 Tryd.underlying22 Tryd.underlying5
  go_enter Tryd.func11, Tryd.ntmps11
  go_wp2_with fail
  have ha0 : Below w.heap.size w (w.alloc (.cells #[.int .u8 44] 5 (1, 1 + 1))) := (Below.refl _ _).alloc (Nat.le_refl _) _
  have hnew := paste_yes 13 2 (.slice (some ⟨w.heap.size, 0, none⟩) 1 1) (.slice none 0 0) [44] [] _ (HT.out.below ha0) (IsBytes.toPm (bytes_new w [44] (1, 1 + 1))) (pm_nil _) (by decide) (by decide)
  unfold Pm.parV at hnew
  refine hnew.mono ?_
  clear hnew
  rintro e w1 ⟨g, own, rfl, hR, hg, hb⟩
  have hg := fun k hk => Nat.le_trans ha0.size (hg k hk)
  have hb := ha0.trans (hb.mono ha0.size)
  have hok : pasteOk 2 [44] [] := by decide
  have hold := paste_old hok hR
  have HOk := Lib.hid hok
  have HR := Lib.hid hR
  have HB := Lib.hid hb
  have HG := Lib.hid hg
  have HOld := Lib.hid hold
  have hw1 := hb.size
  have kc1 := Lib.run_convert_bytes_const (P := Tryd.prog) w1 22 5 #[.int .u8 97, .int .u8 10, .int .u8 98] 3 3 Tryd.underlying22 Tryd.underlying5
  have kc2 := Lib.run_convert_bytes_const (P := Tryd.prog) (w1.alloc (.cells #[.int .u8 97, .int .u8 10, .int .u8 98] 5 (3, 4))) 22 5 #[.int .u8 120] 1 1 Tryd.underlying22 Tryd.underlying5
  rw [World.size_alloc] at kc2
  clear hR hb hg hold hok
  go_wp2_with fail
  obtain ⟨Wb, hWb⟩ : ∃ Wb : World, Wb = (w1.alloc (.cells #[.int .u8 97, .int .u8 10, .int .u8 98] 5 (3, 4))).alloc (.cells #[.int .u8 120] 5 (1, 2)) := ⟨_, rfl⟩
  have hsb : Wb.heap.size = w1.heap.size + 1 + 1 := by rw [hWb]; simp
  have hb2 : Below w1.heap.size w1 Wb := by rw [hWb]; exact ((Below.refl _ _).alloc (Nat.le_refl _) _).alloc (by simp) _
  have hx1 : IsBytes (fun k => w1.heap.size ≤ k) Wb (.slice (some ⟨w1.heap.size, 0, none⟩) 3 3) [97, 10, 98] := by
    rw [hWb]
    exact (bytes_new w1 [97, 10, 98] (3, 4)).below ((Below.refl _ _).alloc (Nat.le_refl _) _)
  have hx2 : IsBytes (fun k => w1.heap.size ≤ k) Wb (.slice (some ⟨w1.heap.size + 1, 0, none⟩) 1 1) [120] := by
    have := bytes_new (w1.alloc (.cells #[.int .u8 97, .int .u8 10, .int .u8 98] 5 (3, 4))) [120] (1, 2)
    rw [World.size_alloc] at this
    rw [hWb]
    exact this.mono (fun k _ h => by omega)
  rw [← hWb]
  clear hWb
  have hst := strms_new2 Wb (.slice (some ⟨w1.heap.size, 0, none⟩) 3 3) (.slice (some ⟨w1.heap.size + 1, 0, none⟩) 1 1) ⟨[97, 10, 98], true, 0, 0, 0⟩ ⟨[120], true, 0, 0, 0⟩ (fun k => w1.heap.size ≤ k) (by omega) hx1 hx2 (0, 0)
  have hb3 : ∀ o1 o2, Below w1.heap.size w1 ((Wb.alloc o1).alloc o2) := fun o1 o2 => (hb2.alloc hb2.size _).alloc (by simp; omega) _
  have hRd := paste_below HOk.out HR.out (hb3 (.cells #[.slice (some ⟨w1.heap.size, 0, none⟩) 3 3, .bool true, .int .i64 0, .int .i64 0, .int .i64 0, .slice (some ⟨w1.heap.size + 1, 0, none⟩) 1 1, .bool true, .int .i64 0, .int .i64 0, .int .i64 0] 61) (.cells #[.int .i64 2] 3))
  have hst2 := (hst.below (((Below.refl _ _).alloc (Nat.le_refl _) (.cells #[.int .i64 2] 3)))).mono (q := fun k => ¬ own k) (fun k _ h e => by have := HOld.out _ e; omega)
  have hin := ints_new (Wb.alloc (.cells #[.slice (some ⟨w1.heap.size, 0, none⟩) 3 3, .bool true, .int .i64 0, .int .i64 0, .int .i64 0, .slice (some ⟨w1.heap.size + 1, 0, none⟩) 1 1, .bool true, .int .i64 0, .int .i64 0, .int .i64 0] 61)) 2 (fun k => ¬ own k) (fun h => by have := HOld.out _ h; simp at this; omega) (0, 0)
  rw [World.size_alloc, hsb] at hin
  rw [hsb] at hst2
  refine (drivePaste_any 2 [44] [] g (pasteI 2 [44] []) own _ _ exPa [2] _ HOk.out rfl hRd hst2 hin (by simp) (by simp [exPa])).mono ?_
  rintro e w2 ⟨rfl, -, hf2⟩
  have hb2' : Below w.heap.size w w2 := Frame.belowO (HB.out.trans ((hb3 _ _).mono HB.out.size)) HG.out (by simp; omega) hf2
  obtain ⟨d2, d3, d4⟩ := paste_drive 2 [44] [] exPa [2] HOk.out rfl (by simp [exPa])
  obtain ⟨x0, x1, x2, x3, x4, x5⟩ := paste_ex
  generalize drive (pasteF 2 [44] []) exPa [2] 100000 0 (start (pasteF 2 [44] []) (pasteI 2 [44] [])) = D at d2 d3 d4 ⊢
  have hg : gotA D.got = #[.string ⟨#[97, 44, 120, 10, 98, 44, 10]⟩, .string ByteArray.empty, .string ByteArray.empty, .string ByteArray.empty, .int .i64 (-1), .int .i64 0, .int .i64 D.got.held, .int .i64 (D.got.taken 0), .int .i64 (D.got.taken 1), .int .i64 (D.got.taken 2), .int .i64 (D.got.taken 3), .bool false] := by
    rw [gotA, gotL, d2, d3, d4, x0, x1, x2, x3, x4, x5]
    rfl
  rw [hg]
  have HB2 := Lib.hid hb2'
  have hsz := hb2'.size
  clear hRd hst hst2 hin hb3 hf2 hb2' hb2 hx1 hx2 d2 d3 d4 hg kc1 kc2 x0 x1 x2 x3 x4 x5
  go_wp2_with fail
  go_ret
  exact ⟨rfl, HB2.out.alloc hsz _⟩

end Go.Proofs.YteghdepedlaneaaDoor
