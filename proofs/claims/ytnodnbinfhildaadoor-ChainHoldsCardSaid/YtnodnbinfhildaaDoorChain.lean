/- Chain is a machine that Drive may drive. -/
import Derived.Test.YtnodnbinfhildaaDoorChainPlain
import Derived.Test.YtnodnbinfhildaaDoorChainTell
import Derived.Test.YtnodnbinfhildaaDoorBytesin
import Derived.Test.YtnodnbinfhildaaDoorReadto
import Derived.Test.YtnodnbinfhildaaDoorRC
namespace Go.Proofs.YtnodnbinfhildaaDoor
open Go.RowKit

def needC (N s : Nat) : Int := if s < N then (s : Int) else -1
def chainRep (N : Nat) (g : Nat) (s : Nat) (own : Nat → Prop) (w : World) : Prop := ChainAt N (needC N s) g w ∧ own = (· = g)
section
variable {N : Nat} {nd : Int} {g : Nat} {w : World}
theorem ChainAt.need (h : ChainAt N nd g w) : w.cell? ⟨g, 0, none⟩ = some (.int .i64 nd) := by rw [cell_of_row _ _ _ _ _ _ h]; rfl
theorem ChainAt.each (h : ChainAt N nd g w) : w.cell? ⟨g, 2, none⟩ = some (.func (.func 28) #[] #[]) := by rw [cell_of_row _ _ _ _ _ _ h]; rfl
theorem ChainAt.last (h : ChainAt N nd g w) : w.cell? ⟨g, 3, none⟩ = some (.int .i64 ((N : Int) - 1)) := by rw [cell_of_row _ _ _ _ _ _ h]; rfl
theorem ChainAt.froz (h : ChainAt N nd g w) (o : Nat) : w.frozen? ⟨g, o, none⟩ = false := by simp [World.frozen?, show w.heap[g]? = _ from h]
theorem ChainAt.lt (h : ChainAt N nd g w) : g < w.heap.size := (Array.getElem?_eq_some_iff.1 h).1
theorem ChainAt.put (h : ChainAt N nd g w) (n : Int) : ChainAt N n g (w.setCell ⟨g, 0, none⟩ (.int .i64 n)) := by
  unfold ChainAt
  rw [setCell_row h]
  rfl
end
theorem tellAll_enters : Enters 28 := fun args w => by
  simp [callFunc, go_sem, Tryd.func28]
  rfl

set_option maxRecDepth 100000 in
set_option maxHeartbeats 2000000 in
theorem chainFeed_yes (N : Nat) (nd : Int) (h0 : 0 ≤ nd) (g : Nat) (v : Value) (x : List UInt8) {p : Nat → Prop} (w : World) (h : ChainAt N nd g w) (hX : IsBytes p w v x) (h1 : 1 ≤ x.length) (h32 : x.length ≤ 32) :
    Calls Tryd.prog 67 #[.pointer (some ⟨g, 0, none⟩), .int .i64 nd, v] w fun e w' => ∃ v', e = .returned (.tuple #[v', .int .i64 0]) ∧ OwnOuts w.heap.size w' v' (bytesO 0 x) ∧ Below w.heap.size w w' := by
  have hc := h.each
  have HN := Lib.hid h.need
  have HT := Lib.hid (tellAll_any v x w hX (by omega))
  obtain ⟨ax, cx, rfl, -, -⟩ := hX
  have HE := Lib.hid (show feedE nd nd x.length = 0 by unfold feedE; rw [show endE nd nd = 0 by unfold endE; rw [if_neg (by omega), if_neg (by omega)], if_neg (by simp), if_neg (by omega)])
  have hent := tellAll_enters
  unfold Enters at hent
  clear h h0
  go_enter Tryd.func67, Tryd.ntmps67
  go_wp2_with fail
  refine (mayFeed_any nd ax x.length cx HN.out).mono ?_
  rintro e w' ⟨rfl, rfl⟩
  rw [HE.out]
  go_wp2_with fail
  refine HT.out.mono ?_
  rintro e w1 ⟨v1, rfl, ho, hb⟩
  have HO := Lib.hid ho
  have HB := Lib.hid hb
  clear ho hb hc hent
  go_wp2_with fail
  go_ret2
  exact ⟨v1, rfl, HO.out, HB.out⟩

set_option maxRecDepth 100000 in
set_option maxHeartbeats 1000000 in
theorem chainEnd_no (g : Nat) (n : Int) (port : Int) (w : World) (hn : w.cell? ⟨g, 0, none⟩ = some (.int .i64 n)) (hE : endE n port ≠ 0) :
    Calls Tryd.prog 66 #[.pointer (some ⟨g, 0, none⟩), .int .i64 port] w (Says w (.tuple #[.slice none 0 0, .int .i64 (endE n port)])) := by
  have HC := Lib.hid (inEnd_no g n port w hn hE)
  obtain ⟨E, hE2⟩ : ∃ E, E = endE n port := ⟨_, rfl⟩
  rw [← hE2] at hE ⊢
  have HE := Lib.hid hE2
  have g1 : (E == 0) = false := by simpa using hE
  clear hn hE hE2
  go_enter Tryd.func66, Tryd.ntmps66
  go_wp2_with fail
  refine HC.out.mono ?_
  rintro e w' ⟨rfl, rfl⟩
  rw [← HE.out]
  go_wp2
  go_ret2
  exact ⟨rfl, rfl⟩

set_option maxRecDepth 100000 in
set_option maxHeartbeats 1000000 in
theorem chainEnd_yes (N s : Nat) (hs : s < N) (hN : N ≤ 4) (g : Nat) (w : World) (h : ChainAt N s g w) :
    Calls Tryd.prog 66 #[.pointer (some ⟨g, 0, none⟩), .int .i64 s] w fun e w' => e = .returned (.tuple #[.slice none 0 0, .int .i64 0]) ∧ ChainAt N (needC N (s + 1)) g w' ∧ Frame (· = g) w w' := by
  have HC := Lib.hid (inEnd_yes g s w h.need (h.froz 0) (by omega))
  have hp := h.put (-1)
  have hfr := Frame.cell w ⟨g, 0, none⟩ (.int .i64 (-1))
  clear h
  go_enter Tryd.func66, Tryd.ntmps66
  go_wp2_with fail
  refine HC.out.mono ?_
  rintro e w' ⟨rfl, rfl⟩
  generalize w.setCell ⟨g, 0, none⟩ (.int .i64 (-1)) = W1 at hp hfr ⊢
  have HP := Lib.hid hp
  have HFr := Lib.hid hfr
  have k3 := hp.last
  have HR := Lib.hid (read_any (s + 1 : Nat) hp.need (hp.froz 0))
  clear hp hfr
  by_cases hl : s + 1 < N
  · have q1 : (s : Int) < (N : Int) - 1 := by omega
    have q2 : (s : Int) ≤ 4 := by omega
    have q3 : (0 : Int) ≤ (s : Int) := by omega
    go_wp2_with fail
    refine HR.out.mono ?_
    rintro e w2 ⟨rfl, rfl⟩
    go_wp2_with fail
    go_ret2
    refine ⟨rfl, ?_, HFr.out.trans (Frame.cell W1 ⟨g, 0, none⟩ _)⟩
    rw [needC, if_pos hl]
    exact HP.out.put _
  · have q1 : ¬ (s : Int) < (N : Int) - 1 := by omega
    go_wp2_with fail
    go_ret2
    refine ⟨rfl, ?_, HFr.out⟩
    rw [needC, if_neg hl]
    exact HP.out

theorem chain_goes (g : Nat) (w : World) :
    (method 226 70 (.pointer (some ⟨g, 0, none⟩)) "Need").run Tryd.prog w = .ok (70, .pointer (some ⟨g, 0, none⟩)) w ∧
    (method 226 70 (.pointer (some ⟨g, 0, none⟩)) "Held").run Tryd.prog w = .ok (68, .pointer (some ⟨g, 0, none⟩)) w ∧
    (method 226 70 (.pointer (some ⟨g, 0, none⟩)) "Feed").run Tryd.prog w = .ok (67, .pointer (some ⟨g, 0, none⟩)) w ∧
    (method 226 70 (.pointer (some ⟨g, 0, none⟩)) "End").run Tryd.prog w = .ok (66, .pointer (some ⟨g, 0, none⟩)) w ∧
    (method 226 70 (.pointer (some ⟨g, 0, none⟩)) "More").run Tryd.prog w = .ok (69, .pointer (some ⟨g, 0, none⟩)) w :=
  ⟨by kernel_rfl, by kernel_rfl, by kernel_rfl, by kernel_rfl, by kernel_rfl⟩

theorem needC_lt {N s : Nat} (h : 0 ≤ needC N s) : s < N ∧ needC N s = s := by
  unfold needC at h ⊢
  split at h
  · rename_i h'
    exact ⟨h', if_pos h'⟩
  · omega
theorem needC_no2 (N s : Nat) : needC N s ≠ -2 := by
  unfold needC
  split <;> omega
theorem chain_driven (N : Nat) (hN : N ≤ 4) (g : Nat) : Driven (chainMach N) 0 (chainRep N g) 70 (.pointer (some ⟨g, 0, none⟩)) 70 68 67 66 69
    (.pointer (some ⟨g, 0, none⟩)) (.pointer (some ⟨g, 0, none⟩)) (.pointer (some ⟨g, 0, none⟩)) (.pointer (some ⟨g, 0, none⟩)) (.pointer (some ⟨g, 0, none⟩)) where
  goN w := (chain_goes g w).1
  goH w := (chain_goes g w).2.1
  goF w := (chain_goes g w).2.2.1
  goE w := (chain_goes g w).2.2.2.1
  goM w := (chain_goes g w).2.2.2.2
  inN := enters_of Tryd.func70 (by kernel_rfl) (by kernel_rfl)
  inH := enters_of Tryd.func68 (by kernel_rfl) (by kernel_rfl)
  inF := enters_of Tryd.func67 (by kernel_rfl) (by kernel_rfl)
  inE := enters_of Tryd.func66 (by kernel_rfl) (by kernel_rfl)
  inM := enters_of Tryd.func69 (by kernel_rfl) (by kernel_rfl)
  keep s own w w' p h hf hp := by
    obtain ⟨h, rfl⟩ := h
    exact ⟨hf.heap h (hp g (.inl rfl)), rfl⟩
  old s own w h := by
    obtain ⟨h, rfl⟩ := h
    rintro k rfl
    exact h.lt
  need s own w h := need_any h.1.need
  held s own w h := (inHeld_any _ w).mono fun _ _ h => h.quiet
  feed s own w v x h hn hB h1 h32 := by
    obtain ⟨h, rfl⟩ := h
    refine (chainFeed_yes N (needC N s) hn g v x w h hB h1 h32).mono ?_
    rintro e w' ⟨v', rfl, ho, hb⟩
    refine ⟨v', rfl, ho.is, ⟨_, ⟨h.below hb, rfl⟩, fun k hk => .inl hk⟩, Below.toFrame hb _, bytesO_ok (Nat.zero_le _) (by omega), ?_⟩
    show (bytesO 0 x).length ≤ 1000000
    unfold bytesO
    split <;> simp
  fin s own w h hn := by
    obtain ⟨h, rfl⟩ := h
    obtain ⟨hs, he⟩ := needC_lt hn
    rw [he] at h
    rw [show (chainMach N).need s = (s : Int) from he]
    refine (chainEnd_yes N s hs hN g w h).mono ?_
    rintro e w' ⟨rfl, h', hf⟩
    exact ⟨_, rfl, (OwnOuts.nil w.heap.size w').is, ⟨_, ⟨h', rfl⟩, fun k hk => .inl hk⟩, hf, bytesO_ok (y := []) (Nat.zero_le 3) (Nat.zero_le _), Nat.zero_le _⟩
  more s own w h hn := absurd hn (needC_no2 N s)
  heldB s own w h := ⟨Int.le_refl 0, by show (0 : Int) ≤ 1000000; omega⟩
theorem chain_refusing (N : Nat) (g : Nat) : Refusing (chainMach N) (chainRep N g) 67 66 69 (.pointer (some ⟨g, 0, none⟩)) (.pointer (some ⟨g, 0, none⟩)) (.pointer (some ⟨g, 0, none⟩)) where
  feed s own w port a l c h hr := by
    have he : feedE (needC N s) port l = errN (needC N s) := feedE_err hr
    have := inFeed_no g _ port a l c w h.1.need (by rw [he]; exact (errN_ne _).1)
    rw [he] at this
    exact this
  fin s own w port h hr := by
    have he : endE (needC N s) port = errN (needC N s) := endE_err hr
    have := chainEnd_no g _ port w h.1.need (by rw [he]; exact (errN_ne _).1)
    rw [he] at this
    exact this
  more s own w h hr := more_any h.1.need hr

end Go.Proofs.YtnodnbinfhildaaDoor
