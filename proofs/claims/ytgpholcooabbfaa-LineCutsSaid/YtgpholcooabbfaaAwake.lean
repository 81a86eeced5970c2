/- The chapter's first example holds: awake answers true. -/
import Derived.Test.YtgpholcooabbfaaJoin
import Derived.Deep.Cut
import Derived.Deep.DeepCutAuto
namespace Go.Proofs.Ytgpholcooabbfaa
open Go.RowKit

/-- A slice of bytes, made a text, an empty one too. -/
theorem conv_any {p : Nat → Prop} {W : World} {v : Value} {bs : List UInt8} (h : IsBytes p W v bs) : (convert 31 9 v).run Try.prog W = .ok (strV bs) W := by
  obtain ⟨a, cap, rfl, -, hc⟩ := h
  cases a with
  | none =>
    have hb : bs = [] := by
      cases bs with
      | nil => rfl
      | cons x r =>
        obtain ⟨_, _, e, _⟩ := hc 0 x rfl
        cases e
    subst hb
    exact run_convert_bytes_nil (P := Try.prog) (w := W) 31 5 Try.underlying31 Try.underlying5 0 cap 9 Try.underlying9
  | some ad =>
    exact run_convert_bytes_back (P := Try.prog) W 31 9 5 ad cap bs Try.underlying31 Try.underlying5 Try.underlying9 (fun j hj => by
      obtain ⟨gb, off, e, _, h⟩ := hc j bs[j] (by simp [hj])
      cases e
      rw [Addr.add_mid]
      exact h)

/-- A slice of bytes that was just made. -/
theorem bytes_new (w : World) (bs : List UInt8) (m : Nat × Nat) : IsBytes (w.heap.size ≤ ·) (w.alloc (.cells (bytesL bs).toArray 5 m)) (.slice (some ⟨w.heap.size, 0, none⟩) bs.length bs.length) bs := by
  refine ⟨_, bs.length, rfl, Nat.le_refl _, fun j c hj => ⟨_, _, rfl, Nat.le_refl _, ?_⟩⟩
  rw [Nat.zero_add, cell_of_row _ _ _ _ _ _ (heap_alloc_last w _)]
  simp [bytesL, hj]
/-- A list of texts that was just made. -/
theorem texts_new (w : World) (L : Lines) (m : Nat × Nat) : IsTexts (fun _ => True) (w.alloc (.cells (L.map strV).toArray 9 m)) (.slice (some ⟨w.heap.size, 0, none⟩) L.length L.length) L := by
  refine ⟨_, L.length, rfl, fun j c hj => ⟨_, _, rfl, trivial, ?_⟩⟩
  rw [Nat.zero_add, cell_of_row _ _ _ _ _ _ (heap_alloc_last w _)]
  simp [hj]

theorem cut_is (g : Nat) (b0 : List UInt8) (v : Value) (bs : List UInt8) (w : World) (L : Lines) (d : List UInt8) (hc : cutL b0 bs = (L, some d)) (h : Spl g false b0 w) (hB : IsBytes (· ≠ g) w v bs) (hsz : bs.length ≤ 1000000) :
    Calls Try.prog 12 #[.pointer (some ⟨g, 0, none⟩), v] w fun e w' => ∃ x, e = .returned (.tuple #[x, .int .i64 0]) ∧ w'.ownsRow w.heap.size 9 1 x L.length (L.map strV) ∧ Spl g false d w' ∧ Frame (· = g) w w' := by
  refine (cut_any g b0 v bs w h hB hsz).mono ?_
  rw [hc]
  rintro e w' ⟨x, rfl, h1, h2, h3⟩
  exact ⟨x, rfl, h1, h2, h3⟩

theorem owns_text {base : Nat} {W : World} {v : Value} {L : Lines} (h : W.ownsRow base 9 1 v L.length (L.map strV)) (h1 : 1 ≤ L.length) : ∃ g cap, v = .slice (some ⟨g, 0, none⟩) L.length cap ∧ ∀ j b, L[j]? = some b → W.cell? ⟨g, j, none⟩ = some (strV b) := by
  have h' := h
  rcases h.2 with ⟨_, h0⟩ | ⟨g, cap, cur, rfl, _⟩
  · omega
  · refine ⟨g, cap, rfl, fun j b hj => ?_⟩
    have := World.ownsRow.cells h' (g := g) rfl j (strV b) (by simp [hj])
    rwa [Addr.add_mid, Nat.zero_add] at this

theorem spl_new (w : World) : Spl w.heap.size false [] (w.alloc (.cells (splA false []) 29)) := ⟨heap_alloc_last w _, by simp, fun h => by cases h⟩
def TrueBelow (w : World) (e : Ending) (w' : World) : Prop := e = .returned (.bool true) ∧ Below w.heap.size w w'

set_option maxRecDepth 100000 in
set_option maxHeartbeats 4000000 in
theorem awake_true (w : World) : Calls Try.prog 9 #[] w (TrueBelow w) := by
  have hs1 := spl_new w
  have hb1 : Below w.heap.size w (w.alloc (.cells (splA false []) 29)) := (Below.refl _ _).alloc (Nat.le_refl _) _
  have HS1 := Lib.hid hs1
  have HB1 := Lib.hid hb1
  clear hs1 hb1
  go_enter Try.func9, Try.ntmps9
  go_upto_region 2 with (with_reducible refine wpList_build0 rfl 29 rfl (splA false []) Try.built29_zero ?_)
  have hs1 := HS1.out
  have hb1 := HB1.out
  clear HS1 HB1
  generalize w.alloc (.cells (splA false []) 29) = W1 at hs1 hb1 ⊢
  have HS1 := Lib.hid hs1
  have hl1 := hs1.lt
  clear hs1
  have kc1 := Lib.run_convert_bytes_const (P := Try.prog) W1 31 5 #[.int .u8 97, .int .u8 98, .int .u8 10, .int .u8 99, .int .u8 100] 5 5 Try.underlying31 Try.underlying5
  go_wp2_with fail
  refine (cut_is w.heap.size [] _ [97, 98, 10, 99, 100] _ [[97, 98]] [99, 100] (by decide) (HS1.out.frame ((Frame.refl (fun _ => False) _).alloc _) (fun h => h)) ((bytes_new W1 [97, 98, 10, 99, 100] _).mono (fun k _ h => by omega)) (by simp)).mono ?_
  rintro e W2 ⟨va, rfl, hoa, hs2, hf2⟩
  have hb2 : Below w.heap.size w W2 := hb1.trans ((((Frame.refl _ W1).alloc _).trans hf2).below (by omega) (fun k e => by omega))
  have ha : ∀ k, va.ownBlock = some k → w.heap.size < k := fun k e => by have := (hoa.lt k e).1; simp at this; omega
  have HS2 := Lib.hid hs2
  have HOA := Lib.hid hoa
  have hl2 := hs2.lt
  clear hs2 hoa kc1 hf2 HS1 hb1
  go_upto_region 3 with fail
  go_wp2_with fail
  refine (begun_any w.heap.size false [99, 100] W2 HS2.out).mono ?_
  rintro e w' ⟨rfl, rfl⟩
  go_upto_region 4 with fail
  have kc2 := Lib.run_convert_bytes_const (P := Try.prog) w' 31 5 #[.int .u8 10, .int .u8 10, .int .u8 101] 3 3 Try.underlying31 Try.underlying5
  go_wp2_with fail
  refine (cut_is w.heap.size [99, 100] _ [10, 10, 101] _ [[99, 100], []] [101] (by decide) (HS2.out.frame ((Frame.refl (fun _ => False) _).alloc _) (fun h => h)) ((bytes_new w' [10, 10, 101] _).mono (fun k _ h => by omega)) (by simp)).mono ?_
  rintro e W3 ⟨vb, rfl, hob, hs3, hf3⟩
  have hf3' := ((Frame.refl (· = w.heap.size) w').alloc _).trans hf3
  have hb3 : Below w.heap.size w W3 := hb2.trans (hf3'.below (by omega) (fun k e => by omega))
  have hoa3 := hf3'.owns HOA.out (fun k e h => by have := ha k e; omega)
  have hb : ∀ k, vb.ownBlock = some k → w.heap.size < k := fun k e => by have := (hob.lt k e).1; simp at this; omega
  have HS3 := Lib.hid hs3
  have HOA3 := Lib.hid hoa3
  have HOB := Lib.hid hob
  clear hs3 hob hoa3 kc2 hf3 hf3' HS2 HOA hb2
  go_upto_region 5 with fail
  go_wp2_with fail
  refine (rest_any w.heap.size false [101] W3 HS3.out).mono ?_
  rintro e W4 ⟨rfl, hs4, hf4⟩
  have hb4 : Below w.heap.size w W4 := hb3.trans (hf4.below hb3.size (fun k e => by omega))
  have hoa4 := hf4.owns HOA3.out (fun k e h => by have := ha k e; omega)
  have hob4 := hf4.owns HOB.out (fun k e h => by have := hb k e; omega)
  have HS4 := Lib.hid hs4
  have HOA4 := Lib.hid hoa4
  have HOB4 := Lib.hid hob4
  clear hs4 hoa4 hob4 hf4 HS3 HOA3 HOB hb3
  go_upto_region 6 with fail
  go_wp2_with fail
  refine (rest_any w.heap.size false [] W4 HS4.out).mono ?_
  rintro e W5 ⟨rfl, hs5, hf5⟩
  have hb5 : Below w.heap.size w W5 := hb4.trans (hf5.below hb4.size (fun k e => by omega))
  have hoa5 := hf5.owns HOA4.out (fun k e h => by have := ha k e; omega)
  have hob5 := hf5.owns HOB4.out (fun k e h => by have := hb k e; omega)
  clear hs5 hf5 HS4 HOA4 HOB4 hb4
  go_upto_region 7 with fail
  obtain ⟨ga, capa, rfl, hca⟩ := owns_text hoa5 (by simp)
  obtain ⟨gb, capb, rfl, hcb⟩ := owns_text hob5 (by simp)
  have ca := hca 0 _ rfl
  have cb0 := hcb 0 _ rfl
  have cb1 := hcb 1 _ rfl
  clear hca hcb hoa5 hob5 ha hb
  simp only [strV, List.length_cons, List.length_nil, Nat.zero_add] at ca cb0 cb1 ⊢
  go_wp2_with fail
  refine (join_any _ [[97], [], [98]] _ (texts_new W5 [[97], [], [98]] _) (by simp) (by simp [joinL])).mono ?_
  rintro e W6 ⟨jv, rfl, hoj, hbj⟩
  have hconv := conv_any (isBytes_of_owns hoj)
  have hst : strV (joinL [[97], [], [98]]) = .string ⟨#[97, 10, 10, 98, 10]⟩ := by simp [strV, joinL]
  rw [hst] at hconv
  have hb6 : Below w.heap.size w W6 := (hb5.alloc hb5.size _).trans (hbj.mono (by have := hb5.size; simp; omega))
  clear hst hoj hbj hb5 ca cb0 cb1
  go_wp2_with fail
  go_ret
  exact ⟨rfl, hb6⟩

end Go.Proofs.Ytgpholcooabbfaa
