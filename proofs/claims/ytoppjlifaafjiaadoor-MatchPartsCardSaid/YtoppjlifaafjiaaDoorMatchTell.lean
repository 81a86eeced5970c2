/- What match's own call does: tellOrLeave. -/
import Derived.Test.YtoppjlifaafjiaaDoorItell
import Derived.Test.YtoppjlifaafjiaaDoorIfeedb
import Derived.Test.YtoppjlifaafjiaaDoorContains
import Derived.StillTactics
namespace Go.Proofs.YtoppjlifaafjiaaDoor
open Go.RowKit

/-- What comes of a line: itself, if A stands in it (or does not). -/
def matchT (A : List UInt8) (hv : Bool) : Teller Unit := fun _ x => ((), if hasB x A = hv then [(0, x ++ [10])] else [], false)
def matchBase : Nat := 1 + 1
def matchM (A : List UInt8) (hv : Bool) : LM Unit where
  T := 85
  F := 29
  piece _ := .nilFunc
  ext g _ X rest w := rest = [strV A, .bool hv] ∧ (∀ k, ¬ X k) ∧ MaxAt w ∧ matchBase ≤ g
  tell := matchT A hv
  good _ := True
  quiet := false
  base := matchBase
  extKeep _ _ _ _ _ _ _ h hf hp := ⟨h.1, h.2.1, h.2.2.1.frame hf (hp _ (.inr (by decide))), h.2.2.2⟩
  extBase _ _ _ _ _ h := h.2.2.2
  extOld _ _ _ _ _ h k hk := absurd hk (h.2.1 k)
def matchRow (A : List UInt8) (hv : Bool) (nd : Int) (f : Bool) (b : List UInt8) (g : Nat) : Array Value := rowA [.int .i64 nd, .nilFunc] f b [.func (.func 29) #[.pointer (some ⟨g, 0, none⟩)] #[], .nilFunc, strV A, .bool hv]
theorem match_heap {A : List UInt8} {hv : Bool} {g : Nat} {nd : Int} {f : Bool} {b : List UInt8} {u : Unit} {X : Nat → Prop} {w : World} (h : (matchM A hv).RepN g nd f b u X w) : w.heap[g]? = some (.cells (matchRow A hv nd f b g) 85 (0, 0)) ∧ (∀ k, ¬ X k) ∧ MaxAt w := by
  obtain ⟨rest, h, rfl, hX, hm, -⟩ := h
  exact ⟨h.heap, hX, hm⟩
theorem match_of {A : List UInt8} {hv : Bool} {g : Nat} {nd : Int} {f : Bool} {b : List UInt8} {w : World} (h : w.heap[g]? = some (.cells (matchRow A hv nd f b g) 85 (0, 0))) (hb : b.length ≤ 64) (hf : f = true → b = []) (hm : MaxAt w) (hg : matchBase ≤ g) : (matchM A hv).RepN g nd f b () (fun _ => False) w :=
  ⟨_, ⟨h, rfl, hb, hf⟩, rfl, fun _ h => h, hm, hg⟩
theorem match_enters (A : List UInt8) (hv : Bool) : Enters (matchM A hv).F := fun args w => by
  show (callFunc 29 args).run Tryd.prog w = _
  simp [callFunc, go_sem, Tryd.func29]
  rfl

def MatchTold (A : List UInt8) (hv : Bool) (g : Nat) (X : Nat → Prop) (w : World) (o : Outs) (e : Ending) (w' : World) : Prop :=
  ∃ v, e = .returned v ∧ OwnOuts w.heap.size w' v o ∧ (matchM A hv).Rep g ⟨true, false, [], ()⟩ X w' ∧ Frame ((matchM A hv).own g X) w w'
set_option maxRecDepth 100000 in
set_option maxHeartbeats 2000000 in
theorem match_told (A : List UInt8) (hv : Bool) (g : Nat) (X : Nat → Prop) (x : List UInt8) (w : World) (h : (matchM A hv).Rep g ⟨true, false, [], ()⟩ X w) (hx : x.length ≤ 64) :
    Calls Tryd.prog 29 #[.pointer (some ⟨g, 0, none⟩), strV x] w (MatchTold A hv g X w (matchT A hv () x).2.1) := by
  obtain ⟨hheap, -, hm⟩ := match_heap h.repN
  have HR := Lib.hid h
  have hl := h.repN.lt
  have hal : Frame (fun _ => False) w w.drew := (Frame.refl _ w).drew
  have HRd := Lib.hid (h.frame hal (fun _ _ h => h))
  have hmd := hm.frame hal (fun h => h)
  have hhd := hal.heap hheap (fun h => h)
  have HC := Lib.hid (fun (W : World) (hW : MaxAt W) => (contains_any x A W (by omega) hW).mono fun e w' h => (⟨h.1, h.2.symm⟩ : e = .returned (.bool (hasB x A)) ∧ w' = W))
  have k70 : w.drew.cell? ⟨g, 70, none⟩ = some (strV A) := by rw [cell_of_row _ _ _ _ _ _ hhd]; rfl
  have k71 : w.drew.cell? ⟨g, 71, none⟩ = some (.bool hv) := by rw [cell_of_row _ _ _ _ _ _ hhd]; rfl
  obtain ⟨S, hS⟩ : ∃ S : ByteArray, strV x = .string S := ⟨_, rfl⟩
  obtain ⟨SA, hSA⟩ : ∃ S : ByteArray, strV A = .string S := ⟨_, rfl⟩
  rw [hSA] at k70
  rw [hS, hSA] at HC
  rw [hS]
  have HS := Lib.hid hS
  have HX := Lib.hid hx
  have hsz : w.drew.heap.size = w.heap.size := rfl
  have HFd := Lib.hid hal
  clear hS hSA hx h hheap hm hhd hal
  obtain ⟨H, hH⟩ : ∃ H, H = hasB x A := ⟨_, rfl⟩
  have hT : (matchT A hv () x).2.1 = if H = hv then [(0, x ++ [10])] else [] := by rw [hH]; rfl
  rw [hT]
  rw [← hH] at HC
  have HMd := Lib.hid hmd
  clear hT hH hmd
  cases H <;> cases hv
  all_goals
    go_enter Tryd.func29, Tryd.ntmps29
    go_wp2_with fail
    refine wp_region_still_lit (by kernel_rfl) (by kernel_rfl) ?_
    change wpStill _ _ w.drew _ _ _
    repeat still_step
    still_call (HC.out _ HMd.out)
    repeat still_step
    refine wpStill_nil ?_
    clear k70 k71
    go_wp2_with fail
  all_goals first
    | (refine (tellOut_any 0 _ x (w.drew.alloc (.cells #[.string S] 9)) (text_new w.drew x S HS.out (0, 0)) HX.out).mono ?_
       rintro e w3 ⟨v, rfl, ho, hb⟩
       have HO := Lib.hid ho
       have HB := Lib.hid hb
       clear ho hb
       go_wp2_with fail
       go_ret
       have hb3 : Below w.drew.heap.size w.drew w3 := ((Below.refl _ _).alloc (Nat.le_refl _) _).trans (HB.out.mono (by simp))
       exact ⟨v, rfl, HO.out.mono (by simp [hsz]), HRd.out.frame (Below.toFrame hb3 fun _ => False) (fun _ _ h => h), (HFd.out.mono (fun _ _ h => h.elim)).trans (Below.toFrame hb3 _)⟩)
    | (go_ret
       exact ⟨_, rfl, OwnOuts.nil _ _, HRd.out, HFd.out.mono (fun _ _ h => h.elim)⟩)

theorem match_tells (A : List UInt8) (hv : Bool) (g : Nat) : (matchM A hv).Tells g := by
  intro s X x w h hl hb hx
  obtain ⟨hf, -⟩ := h.live hl
  obtain ⟨live, fail, b, u⟩ := s
  simp only at hl hb hf
  subst hl hb hf
  exact (match_told A hv g X x w h hx).mono fun e w' ⟨v, he, ho, hr, hf⟩ => ⟨v, X, he, ho, hr, fun k hk => hk, fun k hk => .inl hk, hf⟩

end Go.Proofs.YtoppjlifaafjiaaDoor
