/- The chapter's first example holds: awake answers true. -/
import Derived.Test.YtoppjlifaafjiaaDoorMatchFace
import Derived.Test.YtoppjlifaafjiaaDoorMatchHeavy
import Derived.Outline
namespace Go.Proofs.YtoppjlifaafjiaaDoor
open Go.RowKit

/-- Drive, of this filter. -/
theorem driveMatch_any (N : Nat) (A B : List UInt8) (g : Nat) (s : LS Unit) (own : Nat → Prop) (iv cv : Value) (i : Strm) (cuts : List Int) (w : World) (hR : matchR N A B g s own w) (hI : IsStrms (fun k => ¬ own k) w iv [i]) (hC : IsInts (fun k => ¬ own k) w cv cuts) (hcl : cuts.length ≤ 1000000) (hl : i.bytes.length ≤ 1000000) :
    Calls Tryd.prog 17 #[.iface 73 (.pointer (some ⟨g, 0, none⟩)), iv, cv] w (DriveEnd own (matchR N A B g) w (drive (matchF N A B) [i] cuts 100000 0 (start (matchF N A B) s))) := by
  obtain ⟨_, _, _, _, _, _, _, _, _, _, hD⟩ := match_drives N A B g
  exact drive_any (matchF N A B) matchBase own (matchR N A B g) 73 (.pointer (some ⟨g, 0, none⟩)) _ _ _ _ _ _ _ _ _ _ hD s iv cv [i] cuts w (match_baseR hR) hR hI hC hcl
    (fun s _ _ _ => by rcases match_needs N A B s with h | h | h <;> simp [h]) (fun t ht => by rw [List.mem_singleton.1 ht]; exact hl)
theorem match_keep {N : Nat} {A B : List UInt8} {g : Nat} {s : LS Unit} {own p : Nat → Prop} {w w' : World} (h : matchR N A B g s own w) (hf : Frame p w w') (hp : ∀ k, own k ∨ k < matchBase → ¬ p k) : matchR N A B g s own w' := by
  obtain ⟨_, _, _, _, _, _, _, _, _, _, hD⟩ := match_drives N A B g
  exact hD.keep _ _ _ _ _ h hf hp
theorem match_below {N : Nat} {A B : List UInt8} {g : Nat} {s : LS Unit} {own : Nat → Prop} {w w' : World} (h : matchR N A B g s own w) (hb : Below w.heap.size w w') : matchR N A B g s own w' := match_keep h (Below.toFrame hb fun _ => False) (fun _ _ h => h)
theorem match_old {N : Nat} {A B : List UInt8} {g : Nat} {s : LS Unit} {own : Nat → Prop} {w : World} (h : matchR N A B g s own w) : ∀ k, own k → k < w.heap.size := by
  obtain ⟨_, _, _, _, _, _, _, _, _, _, hD⟩ := match_drives N A B g
  exact hD.old _ _ _ h

set_option maxRecDepth 100000 in
set_option maxHeartbeats 8000000 in
theorem awake_true (w : World) (hT : MaxTab w) : Calls Tryd.prog 11 #[] w (Pm.Gives w (.bool true)) := by
  have HT := Lib.hid hT
  clear hT
  have kc0 := Lib.run_convert_bytes_const (P := Tryd.prog) w 22 5 #[.int .u8 98] 1 1 Tryd.underlying22 Tryd.underlying5
  go_enter Tryd.func11, Tryd.ntmps11
  go_wp2_with fail
  have ha0 : Below w.heap.size w (w.alloc (.cells #[.int .u8 98] 5 (1, 1 + 1))) := (Below.refl _ _).alloc (Nat.le_refl _) _
  have hnew := match_yes 5 0 (.slice (some ⟨w.heap.size, 0, none⟩) 1 1) (.slice none 0 0) [98] [] _ (HT.out.below ha0) (IsBytes.toPm (bytes_new w [98] (1, 1 + 1))) (pm_nil _) (by decide) (by decide)
  unfold Pm.parV at hnew
  refine hnew.mono ?_
  clear hnew
  rintro e w1 ⟨g, own, rfl, hR, hg, hb⟩
  have hg := fun k hk => Nat.le_trans ha0.size (hg k hk)
  have hb := ha0.trans (hb.mono ha0.size)
  have hold := match_old hR
  have HR := Lib.hid hR
  have HB := Lib.hid hb
  have HG := Lib.hid hg
  have HOld := Lib.hid hold
  have hw1 := hb.size
  have kc1 := Lib.run_convert_bytes_const (P := Tryd.prog) w1 22 5 #[.int .u8 97, .int .u8 98, .int .u8 99, .int .u8 10, .int .u8 120, .int .u8 121, .int .u8 122, .int .u8 10, .int .u8 98] 9 9 Tryd.underlying22 Tryd.underlying5
  clear hR hb hg hold
  go_wp2_with fail
  have hb3 : ∀ o1 o2 o3, Below w1.heap.size w1 (((w1.alloc o1).alloc o2).alloc o3) := fun o1 o2 o3 => (((Below.refl _ _).alloc (Nat.le_refl _) _).alloc (by simp) _).alloc (by simp; omega) _
  have hRd := match_below HR.out (hb3 (.cells #[.int .u8 97, .int .u8 98, .int .u8 99, .int .u8 10, .int .u8 120, .int .u8 121, .int .u8 122, .int .u8 10, .int .u8 98] 5 (9, 10)) (.cells #[.slice (some ⟨w1.heap.size, 0, none⟩) 9 9, .bool true, .int .i64 0, .int .i64 0, .int .i64 0] 61) (.cells #[.int .i64 2] 3))
  have hst := strms_new (w1.alloc (.cells #[.int .u8 97, .int .u8 98, .int .u8 99, .int .u8 10, .int .u8 120, .int .u8 121, .int .u8 122, .int .u8 10, .int .u8 98] 5 (9, 10))) (.slice (some ⟨w1.heap.size, 0, none⟩) 9 9) exM (fun k => ¬ own k) (fun h => by have := HOld.out _ h; simp at this; omega) ((bytes_new w1 [97, 98, 99, 10, 120, 121, 122, 10, 98] (9, 10)).mono (fun k _ h e => by have := HOld.out _ e; omega)) (0, 0)
  have hst2 := hst.below (((Below.refl _ _).alloc (Nat.le_refl _) (.cells #[.int .i64 2] 3)))
  have hin := ints_new ((w1.alloc (.cells #[.int .u8 97, .int .u8 98, .int .u8 99, .int .u8 10, .int .u8 120, .int .u8 121, .int .u8 122, .int .u8 10, .int .u8 98] 5 (9, 10))).alloc (.cells #[.slice (some ⟨w1.heap.size, 0, none⟩) 9 9, .bool true, .int .i64 0, .int .i64 0, .int .i64 0] 61)) 2 (fun k => ¬ own k) (fun h => by have := HOld.out _ h; simp at this; omega) (0, 0)
  rw [World.size_alloc] at hst2
  rw [World.size_alloc, World.size_alloc] at hin
  refine (driveMatch_any 0 [98] [] g (matchI 0 [98] []) own _ _ exM [2] _ hRd hst2 hin (by simp) (by simp [exM])).mono ?_
  rintro e w2 ⟨rfl, -, hf2⟩
  have hb2 : Below w.heap.size w w2 := Frame.belowO (HB.out.trans ((hb3 _ _ _).mono HB.out.size)) HG.out (by simp; omega) hf2
  obtain ⟨d2, d3, d4⟩ := match_drive 0 [98] [] exM [2] (by decide) (by simp [exM])
  obtain ⟨x0, x1, x2, x3, x4, x5⟩ := match_ex
  generalize drive (matchF 0 [98] []) [exM] [2] 100000 0 (start (matchF 0 [98] []) (matchI 0 [98] [])) = D at d2 d3 d4 ⊢
  have hg : gotA D.got = #[.string ⟨#[97, 98, 99, 10, 98, 10]⟩, .string ByteArray.empty, .string ByteArray.empty, .string ByteArray.empty, .int .i64 (-1), .int .i64 0, .int .i64 D.got.held, .int .i64 (D.got.taken 0), .int .i64 (D.got.taken 1), .int .i64 (D.got.taken 2), .int .i64 (D.got.taken 3), .bool false] := by
    rw [gotA, gotL, d2, d3, d4, x0, x1, x2, x3, x4, x5]
    rfl
  rw [hg]
  have HB2 := Lib.hid hb2
  have hsz := hb2.size
  clear hRd hst hst2 hin hb3 hf2 hb2 d2 d3 d4 hg kc1 x0 x1 x2 x3 x4 x5
  go_wp2_with fail
  go_ret
  exact ⟨rfl, HB2.out.alloc hsz _⟩

end Go.Proofs.YtoppjlifaafjiaaDoor
