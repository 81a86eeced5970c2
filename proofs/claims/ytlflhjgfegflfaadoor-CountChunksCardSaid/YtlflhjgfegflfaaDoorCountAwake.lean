/- The chapter's first example holds: awake answers true. -/
import Derived.Test.YtlflhjgfegflfaaDoorCountFace
import Derived.Test.YtlflhjgfegflfaaDoorCountHeavy
import Derived.Outline
namespace Go.Proofs.YtlflhjgfegflfaaDoor
open Go.RowKit
variable [Inhabited TabBox]

/-- Drive, of this filter. -/
theorem driveCount_any (N : Nat) (A B : List UInt8) (g : Nat) (s : CS) (own : Nat → Prop) (iv cv : Value) (i : Strm) (cuts : List Int) (w : World) (hR : countR N A B g s own w) (hI : IsStrms (fun k => ¬ own k) w iv [i]) (hC : IsInts (fun k => ¬ own k) w cv cuts) (hcl : cuts.length ≤ 1000000) (hl : i.bytes.length ≤ 1000000) :
    Calls Tryd.prog 17 #[.iface 72 (.pointer (some ⟨g, 0, none⟩)), iv, cv] w (DriveEnd own (countR N A B g) w (drive (countF N A B) [i] cuts 100000 0 (start (countF N A B) s))) := by
  obtain ⟨_, _, _, _, _, _, _, _, _, _, hD⟩ := count_drives N A B g
  exact drive_any (countF N A B) countBase own (countR N A B g) 72 (.pointer (some ⟨g, 0, none⟩)) _ _ _ _ _ _ _ _ _ _ hD s iv cv [i] cuts w (count_baseR hR) hR hI hC hcl
    (fun s _ _ _ => by rcases count_needs N A B s with h | h | h <;> simp [h]) (fun t ht => by rw [List.mem_singleton.1 ht]; exact hl)
theorem count_keep {N : Nat} {A B : List UInt8} {g : Nat} {s : CS} {own p : Nat → Prop} {w w' : World} (h : countR N A B g s own w) (hf : Frame p w w') (hp : ∀ k, own k ∨ k < countBase → ¬ p k) : countR N A B g s own w' := by
  obtain ⟨_, _, _, _, _, _, _, _, _, _, hD⟩ := count_drives N A B g
  exact hD.keep _ _ _ _ _ h hf hp
theorem count_below {N : Nat} {A B : List UInt8} {g : Nat} {s : CS} {own : Nat → Prop} {w w' : World} (h : countR N A B g s own w) (hb : Below w.heap.size w w') : countR N A B g s own w' := count_keep h (Below.toFrame hb fun _ => False) (fun _ _ h => h)
theorem count_old {N : Nat} {A B : List UInt8} {g : Nat} {s : CS} {own : Nat → Prop} {w : World} (h : countR N A B g s own w) : ∀ k, own k → k < w.heap.size := by
  obtain ⟨_, _, _, _, _, _, _, _, _, _, hD⟩ := count_drives N A B g
  exact hD.old _ _ _ h

set_option maxRecDepth 100000 in
set_option maxHeartbeats 8000000 in
theorem awake_true (w : World) (hT : TabP w) : Calls Tryd.prog 11 #[] w (Pm.Gives w (.bool true)) := by
  have HT := Lib.hid hT
  clear hT
  go_enter Tryd.func11, Tryd.ntmps11
  go_wp2_with fail
  have hnew := count_yes 9 0 (.slice none 0 0) (.slice none 0 0) [] [] w HT.out (pm_nil w) (pm_nil w) (by decide) (by decide)
  unfold Pm.parV at hnew
  refine hnew.mono ?_
  clear hnew
  rintro e w1 ⟨g, own, rfl, hR, hg, hb⟩
  have hold := count_old hR
  have HR := Lib.hid hR
  have HB := Lib.hid hb
  have HG := Lib.hid hg
  have HOld := Lib.hid hold
  have hw1 := hb.size
  have kc1 := Lib.run_convert_bytes_const (P := Tryd.prog) w1 22 5 #[.int .u8 97, .int .u8 10, .int .u8 98, .int .u8 99] 4 4 Tryd.underlying22 Tryd.underlying5
  clear hR hb hg hold
  go_wp2_with fail
  have hb3 : ∀ o1 o2 o3, Below w1.heap.size w1 (((w1.alloc o1).alloc o2).alloc o3) := fun o1 o2 o3 => (((Below.refl _ _).alloc (Nat.le_refl _) _).alloc (by simp) _).alloc (by simp; omega) _
  have hRd := count_below HR.out (hb3 (.cells #[.int .u8 97, .int .u8 10, .int .u8 98, .int .u8 99] 5 (4, 5)) (.cells #[.slice (some ⟨w1.heap.size, 0, none⟩) 4 4, .bool true, .int .i64 0, .int .i64 0, .int .i64 0] 61) (.cells #[.int .i64 2] 3))
  have hst := strms_new (w1.alloc (.cells #[.int .u8 97, .int .u8 10, .int .u8 98, .int .u8 99] 5 (4, 5))) (.slice (some ⟨w1.heap.size, 0, none⟩) 4 4) exC (fun k => ¬ own k) (fun h => by have := HOld.out _ h; simp at this; omega) ((bytes_new w1 [97, 10, 98, 99] (4, 5)).mono (fun k _ h e => by have := HOld.out _ e; omega)) (0, 0)
  have hst2 := hst.below (((Below.refl _ _).alloc (Nat.le_refl _) (.cells #[.int .i64 2] 3)))
  have hin := ints_new ((w1.alloc (.cells #[.int .u8 97, .int .u8 10, .int .u8 98, .int .u8 99] 5 (4, 5))).alloc (.cells #[.slice (some ⟨w1.heap.size, 0, none⟩) 4 4, .bool true, .int .i64 0, .int .i64 0, .int .i64 0] 61)) 2 (fun k => ¬ own k) (fun h => by have := HOld.out _ h; simp at this; omega) (0, 0)
  rw [World.size_alloc] at hst2
  rw [World.size_alloc, World.size_alloc] at hin
  refine (driveCount_any 0 [] [] g (countI 0 [] []) own _ _ exC [2] _ hRd hst2 hin (by simp) (by simp [exC])).mono ?_
  rintro e w2 ⟨rfl, -, hf2⟩
  have hb2 : Below w.heap.size w w2 := Frame.belowO (HB.out.trans ((hb3 _ _ _).mono HB.out.size)) HG.out (by simp; omega) hf2
  obtain ⟨d2, d3, d4⟩ := count_drive 0 [] [] exC [2] (by decide) (by simp [exC])
  obtain ⟨x0, x1, x2, x3, x4, x5⟩ := count_ex
  generalize drive (countF 0 [] []) [exC] [2] 100000 0 (start (countF 0 [] []) (countI 0 [] [])) = D at d2 d3 d4 ⊢
  have hg : gotA D.got = #[.string ⟨#[49, 32, 52, 10]⟩, .string ByteArray.empty, .string ByteArray.empty, .string ByteArray.empty, .int .i64 (-1), .int .i64 0, .int .i64 D.got.held, .int .i64 (D.got.taken 0), .int .i64 (D.got.taken 1), .int .i64 (D.got.taken 2), .int .i64 (D.got.taken 3), .bool false] := by
    rw [gotA, gotL, d2, d3, d4, x0, x1, x2, x3, x4, x5]
    rfl
  rw [hg]
  have HB2 := Lib.hid hb2
  have hsz := hb2.size
  clear hRd hst hst2 hin hb3 hf2 hb2 d2 d3 d4 hg kc1 x0 x1 x2 x3 x4 x5
  go_wp2_with fail
  go_ret
  exact ⟨rfl, HB2.out.alloc hsz _⟩

end Go.Proofs.YtlflhjgfegflfaaDoor
