/- The chapter's first example holds: awake answers true. -/
import Derived.Test.YtfdgkjmdbcehiaaDoorHead
import Derived.Test.YtfdgkjmdbcehiaaDoorDrive
import Derived.Test.YtfdgkjmdbcehiaaDoorFheavy
import Derived.Outline
namespace Go.Proofs.YtfdgkjmdbcehiaaDoor
open Go.RowKit

theorem head_drive (N : Nat) (i : Strm) (cuts : List Int) (hl : i.bytes.length ≤ 2000) :
    (drive headMach [i] cuts 100000 0 (start headMach (headS N))).s = (finalB headT (headS N) i.bytes i.ended).1 ∧ (drive headMach [i] cuts 100000 0 (start headMach (headS N))).got.outs = putOuts (fun _ => []) (finalB headT (headS N) i.bytes i.ended).2.1 ∧
    (drive headMach [i] cuts 100000 0 (start headMach (headS N))).got.err = (finalB headT (headS N) i.bytes i.ended).2.2 ∧ (drive headMach [i] cuts 100000 0 (start headMach (headS N))).got.need = needOf (finalB headT (headS N) i.bytes i.ended).1 := by
  exact drive_lines headT i cuts 100000 0 (start headMach (headS N)) rfl rfl (Nat.zero_le _) rfl (by show i.bytes.length - 0 + 2 ≤ 100000; omega)
theorem head_needs (s : LS Nat) : headMach.need s = -1 ∨ headMach.need s = 0 := by
  show needOf s = -1 ∨ needOf s = 0
  unfold needOf
  split
  · exact .inr rfl
  · exact .inl rfl

/-- Drive, of a head. -/
theorem driveHead_any (g : Nat) (s : LS Nat) (iv cv : Value) (i : Strm) (cuts : List Int) (w : World) (hR : headM.Rep g s w) (hI : IsStrms (· ≠ g) w iv [i]) (hC : IsInts (· ≠ g) w cv cuts) (hcl : cuts.length ≤ 1000000) (hl : i.bytes.length ≤ 1000000) :
    Calls Tryd.prog 16 #[.iface 67 (.pointer (some ⟨g, 0, none⟩)), iv, cv] w (DriveEnd (· = g) (headM.Rep g) w (drive headMach [i] cuts 100000 0 (start headMach s))) :=
  drive_any headMach (· = g) (headM.Rep g) 67 (.pointer (some ⟨g, 0, none⟩)) _ _ _ _ _ _ _ _ _ _ (head_driven g) s iv cv [i] cuts w hR hI hC hcl
    (fun s _ _ => by rcases head_needs s with h | h <;> simp [h]) (fun t ht => by rw [List.mem_singleton.1 ht]; exact hl)

theorem strms_new (w : World) (bv : Value) (t : Strm) (q : Nat → Prop) (hq : q w.heap.size) (hb : IsBytes q w bv t.bytes) (m : Nat × Nat) :
    IsStrms q (w.alloc (.cells #[bv, .bool t.ended, .int .i64 t.code, .int .i64 t.stage, .int .i64 t.id] 61 m)) (.slice (some ⟨w.heap.size, 0, none⟩) 1 1) [t] := by
  refine ⟨_, 1, rfl, fun j t' hj => ?_⟩
  match j, hj with
  | 0, hj =>
    simp at hj
    subst hj
    have hh := heap_alloc_last w (.cells #[bv, .bool t.ended, .int .i64 t.code, .int .i64 t.stage, .int .i64 t.id] 61 m)
    refine ⟨_, 0, bv, rfl, hq, ?_, ?_, ?_, ?_, ?_, hb.frame (Below.toFrame ((Below.refl _ _).alloc (Nat.le_refl _) _) fun _ => False) (fun _ _ h => h)⟩
    all_goals
      rw [cell_of_row _ _ _ _ _ _ hh]
      rfl
  | j + 1, hj => simp at hj
theorem ints_new (w : World) (c : Int) (q : Nat → Prop) (hq : q w.heap.size) (m : Nat × Nat) : IsInts q (w.alloc (.cells #[.int .i64 c] 3 m)) (.slice (some ⟨w.heap.size, 0, none⟩) 1 1) [c] := by
  refine ⟨_, 1, rfl, fun j t' hj => ?_⟩
  match j, hj with
  | 0, hj =>
    simp at hj
    subst hj
    refine ⟨_, 0, rfl, hq, ?_⟩
    rw [Nat.zero_add, cell_of_row _ _ _ _ _ _ (heap_alloc_last w _)]
    rfl
  | j + 1, hj => simp at hj
theorem bytes_new (w : World) (bs : List UInt8) (m : Nat × Nat) : IsBytes (w.heap.size ≤ ·) (w.alloc (.cells (bytesL bs).toArray 5 m)) (.slice (some ⟨w.heap.size, 0, none⟩) bs.length bs.length) bs := by
  refine ⟨_, bs.length, rfl, Nat.le_refl _, fun j c hj => ⟨_, _, rfl, Nat.le_refl _, ?_⟩⟩
  rw [Nat.zero_add, cell_of_row _ _ _ _ _ _ (heap_alloc_last w _)]
  simp [bytesL, hj]
theorem Frame.belowG {g : Nat} {w W W' : World} (hb : Below w.heap.size w W) (hg : w.heap.size ≤ g) (hf : Frame (fun k => k = g ∨ W.heap.size ≤ k) W W') : Below w.heap.size w W' := by
  have hs := hb.size
  exact hb.trans (hf.below (p := fun k => k = g ∨ W.heap.size ≤ k) hs (fun k h => by rcases h with h | h <;> omega))

def exS : Strm := ⟨[97, 10, 98, 10, 99], true, 0, 0, 0⟩
theorem pm_nil (w : World) : Pm.IsBytes w (.slice none 0 0) [] := ⟨none, 0, rfl, Nat.le_refl _, fun j c hj => by simp at hj⟩

set_option maxRecDepth 100000 in
set_option maxHeartbeats 8000000 in
theorem awake_true (w : World) (hT : Pm.Tab w) : Calls Tryd.prog 10 #[] w (Pm.Gives w (.bool true)) := by
  have HT := Lib.hid hT
  clear hT
  go_enter Tryd.func10, Tryd.ntmps10
  go_wp2_with fail
  have hnew := new_yes 3 2 (.slice none 0 0) (.slice none 0 0) [] [] w HT.out (pm_nil w) (pm_nil w) (by decide) (by omega)
  unfold Pm.parV at hnew
  refine hnew.mono ?_
  clear hnew
  rintro e w1 ⟨g, rfl, hg, hR, hb⟩
  have HR := Lib.hid hR
  have HB := Lib.hid hb
  have HG := Lib.hid hg
  have hw1 := hb.size
  have hlt := hR.spl.lt
  have kc1 := Lib.run_convert_bytes_const (P := Tryd.prog) w1 22 5 #[.int .u8 97, .int .u8 10, .int .u8 98, .int .u8 10, .int .u8 99] 5 5 Tryd.underlying22 Tryd.underlying5
  clear hR hb hg
  go_wp2_with fail
  have hq : g < w1.heap.size := hlt
  have hb3 : ∀ o1 o2 o3, Below w1.heap.size w1 (((w1.alloc o1).alloc o2).alloc o3) := fun o1 o2 o3 => (((Below.refl _ _).alloc (Nat.le_refl _) _).alloc (by simp) _).alloc (by simp; omega) _
  have hRd := HR.out.frame (Below.toFrame (hb3 (.cells #[.int .u8 97, .int .u8 10, .int .u8 98, .int .u8 10, .int .u8 99] 5 (5, 6)) (.cells #[.slice (some ⟨w1.heap.size, 0, none⟩) 5 5, .bool true, .int .i64 0, .int .i64 0, .int .i64 0] 61) (.cells #[.int .i64 2] 3)) fun _ => False) (fun h => h)
  have hst := strms_new (w1.alloc (.cells #[.int .u8 97, .int .u8 10, .int .u8 98, .int .u8 10, .int .u8 99] 5 (5, 6))) (.slice (some ⟨w1.heap.size, 0, none⟩) 5 5) exS (· ≠ g) (by simp; omega) ((bytes_new w1 [97, 10, 98, 10, 99] (5, 6)).mono (fun k _ h => by omega)) (0, 0)
  have hst2 := hst.below (((Below.refl _ _).alloc (Nat.le_refl _) (.cells #[.int .i64 2] 3)))
  have hin := ints_new ((w1.alloc (.cells #[.int .u8 97, .int .u8 10, .int .u8 98, .int .u8 10, .int .u8 99] 5 (5, 6))).alloc (.cells #[.slice (some ⟨w1.heap.size, 0, none⟩) 5 5, .bool true, .int .i64 0, .int .i64 0, .int .i64 0] 61)) 2 (· ≠ g) (by simp; omega) (0, 0)
  rw [World.size_alloc] at hst2
  rw [World.size_alloc, World.size_alloc] at hin
  refine (driveHead_any g (headS 2) _ _ exS [2] _ hRd hst2 hin (by simp) (by simp [exS])).mono ?_
  rintro e w2 ⟨rfl, -, hf2⟩
  have hb2 : Below w.heap.size w w2 := Frame.belowG (HB.out.trans ((hb3 _ _ _).mono HB.out.size)) HG.out hf2
  obtain ⟨-, d2, d3, d4⟩ := head_drive 2 exS [2] (by simp [exS])
  have hfin : finalB headT (headS 2) exS.bytes exS.ended = (⟨false, false, [], 0⟩, [(0, [97, 10]), (0, [98, 10])], 0) := by rfl
  rw [hfin] at d2 d3 d4
  generalize drive headMach [exS] [2] 100000 0 (start headMach (headS 2)) = D at d2 d3 d4 ⊢
  have hg : gotA D.got = #[.string ⟨#[97, 10, 98, 10]⟩, .string ByteArray.empty, .string ByteArray.empty, .string ByteArray.empty, .int .i64 (-1), .int .i64 0, .int .i64 D.got.held, .int .i64 (D.got.taken 0), .int .i64 (D.got.taken 1), .int .i64 (D.got.taken 2), .int .i64 (D.got.taken 3), .bool false] := by
    rw [gotA, gotL, d2, d3, d4]
    rfl
  rw [hg]
  have HB2 := Lib.hid hb2
  have hsz := hb2.size
  clear hRd hst hst2 hin hb3 hf2 hb2 d2 d3 d4 hfin hg kc1
  go_wp2_with fail
  go_ret
  exact ⟨rfl, HB2.out.alloc hsz _⟩

end Go.Proofs.YtfdgkjmdbcehiaaDoor
