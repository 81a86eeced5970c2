/- Tail as a machine: its model, Feed, End, More, Held: it is one that Drive may drive. -/
import Derived.Test.YtdpjopemdhbgpaaDoorTcalls
import Derived.Test.YtdpjopemdhbgpaaDoorIpieces
namespace Go.Proofs.YtdpjopemdhbgpaaDoor
open Go.RowKit

structure TS where
  ls : LS Lines
  pieces : Bool
def tneed (s : TS) : Int := if s.pieces then -2 else needOf s.ls
def tailMach (N : Nat) : Mach TS where
  need := tneed
  held s := ((s.ls.b.length + keptSum s.ls.u : Nat) : Int)
  feed s x := (⟨⟨(feedB (tailT N) x s.ls).1.live, (feedB (tailT N) x s.ls).1.fail, (feedB (tailT N) x s.ls).1.b, if (feedB (tailT N) x s.ls).2.2 = 20 then [] else (feedB (tailT N) x s.ls).1.u⟩, false⟩, (feedB (tailT N) x s.ls).2.1, (feedB (tailT N) x s.ls).2.2)
  fin s := (⟨(endB (tailT N) s.ls).1, !(endB (tailT N) s.ls).1.u.isEmpty⟩, (endB (tailT N) s.ls).2.1, (endB (tailT N) s.ls).2.2)
  more s := match s.ls.u with
    | [] => (s, [], 0)
    | l :: r => (⟨⟨s.ls.live, s.ls.fail, s.ls.b, r⟩, !r.isEmpty⟩, [(0, l ++ [10])], 0)

/-! What is kept is not too much. -/
def TOk (N : Nat) (u : Lines) : Prop := u.length ≤ N ∧ ∀ l ∈ u, l.length ≤ 64
theorem tok_tell {N : Nat} {u : Lines} {x : List UInt8} (h : TOk N u) (hx : x.length ≤ 64) : TOk N (tailT N u x).1 := by
  obtain ⟨h1, h2⟩ := h
  simp only [tailT]
  have h3 : ∀ l ∈ u ++ [x], l.length ≤ 64 := by
    intro l hl
    rcases List.mem_append.1 hl with hl | hl
    · exact h2 l hl
    · rw [List.mem_singleton.1 hl]; exact hx
  split
  · exact ⟨by simp; omega, fun l hl => h3 l (List.mem_of_mem_drop hl)⟩
  · exact ⟨by omega, h3⟩
theorem tok_feed {N : Nat} : ∀ (x : List UInt8) (s : LS Lines), s.b.length ≤ 64 → TOk N s.u → TOk N (feedB (tailT N) x s).1.u
  | [], s, _, h => h
  | c :: r, s, hb, h => by
    by_cases hl : s.live = true
    · by_cases hc : c = 10
      · subst hc
        rw [feedB_end (tailT N) r s hl]
        exact tok_feed r _ (by simp) (tok_tell h hb)
      · by_cases h64 : s.b.length = 64
        · rw [feedB_long (tailT N) c r s hl hc h64]; exact h
        · rw [feedB_put (tailT N) c r s hl hc h64]
          exact tok_feed r _ (by simp; omega) h
    · rw [feedB_dead (tailT N) _ s (by simpa using hl)]
      exact h
theorem tok_end {N : Nat} {s : LS Lines} (hb : s.b.length ≤ 64) (h : TOk N s.u) : TOk N (endB (tailT N) s).1.u := by
  unfold endB
  split
  · exact h
  · exact tok_tell h hb
theorem feed_errs (N : Nat) : ∀ (x : List UInt8) (s : LS Lines), (feedB (tailT N) x s).2.2 = 0 ∨ (feedB (tailT N) x s).2.2 = 20
  | [], s => .inl rfl
  | c :: r, s => by
    by_cases hl : s.live = true
    · by_cases hc : c = 10
      · subst hc
        rw [feedB_end (tailT N) r s hl]
        exact feed_errs N r _
      · by_cases h64 : s.b.length = 64
        · rw [feedB_long (tailT N) c r s hl hc h64]; exact .inr rfl
        · rw [feedB_put (tailT N) c r s hl hc h64]
          exact feed_errs N r _
    · rw [feedB_dead (tailT N) _ s (by simpa using hl)]
      exact .inl rfl
theorem feed_quiet (N : Nat) : ∀ (x : List UInt8) (s : LS Lines), (feedB (tailT N) x s).2.1 = []
  | [], s => rfl
  | c :: r, s => by
    by_cases hl : s.live = true
    · by_cases hc : c = 10
      · subst hc
        rw [feedB_end (tailT N) r s hl]
        exact feed_quiet N r _
      · by_cases h64 : s.b.length = 64
        · rw [feedB_long (tailT N) c r s hl hc h64]
        · rw [feedB_put (tailT N) c r s hl hc h64]
          exact feed_quiet N r _
    · rw [feedB_dead (tailT N) _ s (by simpa using hl)]
theorem end_quiet (N : Nat) (s : LS Lines) : (endB (tailT N) s).2 = ([], 0) := by
  unfold endB
  split <;> rfl

/-- The machine is as told; its own blocks. -/
structure TRep (N g : Nat) (s : TS) (X : Nat → Prop) (w : World) : Prop where
  rep : (tailM N).RepN g (tneed s) s.ls.fail s.ls.b s.ls.u X w
  most : N ≤ 1000
  ok : TOk N s.ls.u
  due : s.pieces = true → s.ls.live = false ∧ s.ls.u ≠ []
  live : s.ls.live = true → s.ls.fail = false
def tailRep (N g : Nat) (s : TS) (own : Nat → Prop) (w : World) : Prop := ∃ X, TRep N g s X w ∧ own = (tailM N).own g X
theorem TRep.lm {N g : Nat} {s : TS} {X : Nat → Prop} {w : World} (h : TRep N g s X w) (hp : s.pieces = false) : (tailM N).Rep g s.ls X w := by
  refine ⟨?_, fun hl => ⟨h.live hl, h.ok.1, h.most⟩⟩
  have := h.rep
  rwa [tneed, hp] at this
theorem TRep.due0 {N g : Nat} {s : TS} {X : Nat → Prop} {w : World} (_ : TRep N g s X w) (hn : 0 ≤ tneed s) : s.pieces = false ∧ s.ls.live = true ∧ tneed s = 0 := by
  unfold tneed needOf at hn ⊢
  cases hp : s.pieces with
  | true => rw [hp] at hn; simp at hn
  | false =>
    rw [hp] at hn
    cases hl : s.ls.live with
    | true => simp
    | false => rw [hl] at hn; simp at hn

def TailFeeds (N g : Nat) (X : Nat → Prop) (w : World) (r : TS × Outs × Int) (e : Ending) (w' : World) : Prop :=
  ∃ v X', e = .returned (.tuple #[v, .int .i64 r.2.2]) ∧ OwnOuts w.heap.size w' v r.2.1 ∧ TRep N g r.1 X' w' ∧ (∀ k, X' k → X k ∨ w.heap.size ≤ k) ∧ Frame ((tailM N).own g X) w w'

set_option maxRecDepth 100000 in
set_option maxHeartbeats 4000000 in
theorem tailFeed_any (N g : Nat) (s : TS) (X : Nat → Prop) (v : Value) (x : List UInt8) (w : World) (h : TRep N g s X w) (hn : 0 ≤ tneed s) (hB : IsBytes (fun k => ¬ (tailM N).own g X k) w v x) (h1 : 1 ≤ x.length) (h32 : x.length ≤ 32) :
    Calls Tryd.prog 73 #[.pointer (some ⟨g, 0, none⟩), .int .i64 0, v] w (TailFeeds N g X w ((tailMach N).feed s x)) := by
  obtain ⟨hp, hl, h0⟩ := h.due0 hn
  have hLM := h.lm hp
  have hfeed := feed_yes (tailM N) g s.ls X v x w hLM (tail_tells N g) (tail_enters N) (fun u y => by simp [tailM, tailT]) hl hB h1 h32
  have hok := tok_feed x s.ls h.rep.le h.ok
  have hle := feedB_le (tailT N) x s.ls h.rep.le
  have hmost := h.most
  have hltw := h.rep.lt
  have herrs := feed_errs N x s.ls
  have HF := Lib.hid hfeed
  obtain ⟨av, cv, rfl, -, -⟩ := hB
  simp only [tailMach]
  obtain ⟨r, hr⟩ : ∃ r, r = feedB (tailT N) x s.ls := ⟨_, rfl⟩
  rw [show (tailM N).tell = tailT N from rfl, ← hr] at HF
  rw [← hr] at hok hle herrs ⊢
  have HOk := Lib.hid hok
  clear hfeed hLM h hr hok
  rcases herrs with he | he
  · rw [he] at HF ⊢
    go_enter Tryd.func73, Tryd.ntmps73
    go_wp2_with fail
    refine HF.out.mono ?_
    rintro e w1 ⟨v1, X1, rfl, ho, hr1, hx1, hf1⟩
    have HO := Lib.hid ho
    have HR := Lib.hid hr1
    have HX := Lib.hid hx1
    have HF1 := Lib.hid hf1
    clear ho hr1 hx1 hf1 HF
    go_wp2_with fail
    go_ret2
    exact ⟨v1, X1, rfl, HO.out, ⟨HR.out.repN, hmost, HOk.out, (fun h => by cases h), fun h => (HR.out.live h).1⟩, HX.out, HF1.out⟩
  · rw [he] at HF ⊢
    go_enter Tryd.func73, Tryd.ntmps73
    go_wp2_with fail
    refine HF.out.mono ?_
    rintro e w1 ⟨v1, X1, rfl, ho, hr1, hx1, hf1⟩
    obtain ⟨kv, hh, hk, hg, hb, hff⟩ := tail_row hr1.repN
    have k71 := tail_c71 hh hb
    have z71 := hr1.repN.froz 71
    have HO := Lib.hid ho
    have HR := Lib.hid hr1
    have HF1 := Lib.hid hf1
    have HH := Lib.hid hh
    have hlt := hr1.repN.lt
    have hsz := hf1.size
    have HFF := Lib.hid hff
    clear ho hr1 hx1 hf1 HF hh hk hg
    go_wp2_with fail
    go_ret2
    have hc := Frame.cell w1 ⟨g, 71, none⟩ (.slice none 0 0)
    refine ⟨v1, fun _ => False, rfl, ?_, ⟨tail_of (tail_put HH.out hb _) (.nil _ fun _ h => h) (fun h => h) hb HFF.out, hmost, ⟨Nat.zero_le _, (fun l hl => by cases hl)⟩, (fun h => by cases h), fun h => (HR.out.live h).1⟩, fun k hk => hk.elim, HF1.out.then hc (fun _ _ e => .inl e)⟩
    exact HO.out.frame hc (fun k hk _ e => by have e' : k = g := e; omega)

set_option maxRecDepth 100000 in
set_option maxHeartbeats 4000000 in
theorem tailEnd_any (N g : Nat) (s : TS) (X : Nat → Prop) (w : World) (h : TRep N g s X w) (hn : 0 ≤ tneed s) :
    Calls Tryd.prog 72 #[.pointer (some ⟨g, 0, none⟩), .int .i64 0] w (TailFeeds N g X w ((tailMach N).fin s)) := by
  obtain ⟨hp, hl, h0⟩ := h.due0 hn
  have hLM := h.lm hp
  have hend := end_yes (tailM N) g s.ls X w hLM (tail_tells N g) (tail_enters N) hl rfl
  have hok := tok_end h.rep.le h.ok
  have hmost := h.most
  have hltw := h.rep.lt
  have hlive : (endB (tailT N) s.ls).1.live = false := by unfold endB; split <;> rfl
  have hq := end_quiet N s.ls
  simp only [tailMach]
  rw [show (tailM N).tell = tailT N from rfl] at hend
  obtain ⟨r, hr⟩ : ∃ r, r = endB (tailT N) s.ls := ⟨_, rfl⟩
  rw [← hr] at hend hok hlive hq ⊢
  obtain ⟨r1, r2⟩ := r
  simp only at hend hok hlive hq ⊢
  subst hq
  simp only at hend ⊢
  obtain ⟨pz, hpz⟩ : ∃ pz, pz = !r1.u.isEmpty := ⟨_, rfl⟩
  rw [← hpz]
  have HPz := Lib.hid hpz
  clear hpz
  have HF := Lib.hid hend
  have HOk := Lib.hid hok
  clear hend hLM h hr hok
  go_enter Tryd.func72, Tryd.ntmps72
  go_wp2_with fail
  refine HF.out.mono ?_
  rintro e w1 ⟨v1, X1, rfl, ho, hr1, hx1, hf1⟩
  obtain ⟨kv, hh, hk, hg, hb, hff⟩ := tail_row hr1.repN
  obtain ⟨ka, kc, rfl⟩ := hk.slice
  have k71 := tail_c71 hh hb
  have HO := Lib.hid ho
  have HR := Lib.hid hr1
  have HX := Lib.hid hx1
  have HF1 := Lib.hid hf1
  have hnd : needOf r1 = -1 := by rw [needOf, hlive]; rfl
  have c0 := hr1.need
  rw [hnd] at c0
  have z0 := hr1.froz
  clear ho hr1 hx1 hf1 HF hh hk hg hff
  by_cases hu : r1.u = []
  · rw [hu] at k71
    simp only [List.length_nil] at k71
    have hpz := HPz.out
    rw [show (!r1.u.isEmpty) = false by rw [hu]; rfl] at hpz
    subst hpz
    have HU := Lib.hid hu
    clear hu
    go_wp2_with fail
    go_ret2
    exact ⟨v1, X1, rfl, HO.out, ⟨HR.out.repN, hmost, HOk.out, (fun h => by cases h), fun h => (HR.out.live h).1⟩, HX.out, HF1.out⟩
  · have hpos : 0 < r1.u.length := List.length_pos_iff.2 hu
    have hpz := HPz.out
    rw [show (!r1.u.isEmpty) = true by cases hq : r1.u <;> simp_all] at hpz
    subst hpz
    have q1 : (0 : Int) < (r1.u.length : Int) := by omega
    have HU := Lib.hid hu
    clear hu
    go_wp2_with fail
    refine (tellPieces_any c0 z0).mono ?_
    rintro e w2 ⟨rfl, rfl⟩
    have hc := Frame.cell w1 ⟨g, 0, none⟩ (.int .i64 (-2))
    have HC := Lib.hid hc
    have HR2 := Lib.hid (HR.out.repN.setNeed (-2))
    clear c0 z0 hc k71
    go_wp2_with fail
    go_ret2
    exact ⟨v1, X1, rfl, HO.out.frame HC.out (fun k hk _ e => by have e' : k = g := e; omega), ⟨HR2.out, hmost, HOk.out, fun _ => ⟨hlive, HU.out⟩, (fun h => by rw [hlive] at h; cases h)⟩, HX.out, HF1.out.then HC.out (fun _ _ e => .inl e)⟩

theorem tail_goes (g : Nat) (w : World) :
    (method 242 74 (.pointer (some ⟨g, 0, none⟩)) "Need").run Tryd.prog w = .ok (76, .pointer (some ⟨g, 0, none⟩)) w ∧
    (method 242 74 (.pointer (some ⟨g, 0, none⟩)) "Held").run Tryd.prog w = .ok (74, .pointer (some ⟨g, 0, none⟩)) w ∧
    (method 242 74 (.pointer (some ⟨g, 0, none⟩)) "Feed").run Tryd.prog w = .ok (73, .pointer (some ⟨g, 0, none⟩)) w ∧
    (method 242 74 (.pointer (some ⟨g, 0, none⟩)) "End").run Tryd.prog w = .ok (72, .pointer (some ⟨g, 0, none⟩)) w ∧
    (method 242 74 (.pointer (some ⟨g, 0, none⟩)) "More").run Tryd.prog w = .ok (75, .pointer (some ⟨g, 0, none⟩)) w :=
  ⟨by kernel_rfl, by kernel_rfl, by kernel_rfl, by kernel_rfl, by kernel_rfl⟩

theorem OwnOuts.len {base : Nat} {w : World} {v : Value} {L : Outs} (_ : OwnOuts base w v L) (h : L.length ≤ 1) : L.length ≤ 1000000 := by omega
theorem TailFeeds.answers {N g : Nat} {X : Nat → Prop} {w : World} {r : TS × Outs × Int} {e : Ending} {w' : World} (h : TailFeeds N g X w r e w') (hq : OutsOk r.2.1) (hl : r.2.1.length ≤ 1000000) : Answers ((tailM N).own g X) (tailRep N g) r w e w' := by
  obtain ⟨v, X', rfl, ho, hr, hx, hf⟩ := h
  refine ⟨v, rfl, ho.is, ⟨_, ⟨X', hr, rfl⟩, fun k hk => ?_⟩, hf, hq, hl⟩
  rcases hk with rfl | hk
  · exact .inl (.inl rfl)
  · rcases hx k hk with h | h
    · exact .inl (.inr h)
    · exact .inr h
theorem outsOk_nil : OutsOk [] := ⟨(fun t ht => by cases ht), (fun t ht => by cases ht), by decide⟩

theorem tail_driven (N g : Nat) : Driven (tailMach N) 0 (tailRep N g) 74 (.pointer (some ⟨g, 0, none⟩)) 76 74 73 72 75
    (.pointer (some ⟨g, 0, none⟩)) (.pointer (some ⟨g, 0, none⟩)) (.pointer (some ⟨g, 0, none⟩)) (.pointer (some ⟨g, 0, none⟩)) (.pointer (some ⟨g, 0, none⟩)) where
  goN w := (tail_goes g w).1
  goH w := (tail_goes g w).2.1
  goF w := (tail_goes g w).2.2.1
  goE w := (tail_goes g w).2.2.2.1
  goM w := (tail_goes g w).2.2.2.2
  inN := enters_of Tryd.func76 (by kernel_rfl) (by kernel_rfl)
  inH := enters_of Tryd.func74 (by kernel_rfl) (by kernel_rfl)
  inF := enters_of Tryd.func73 (by kernel_rfl) (by kernel_rfl)
  inE := enters_of Tryd.func72 (by kernel_rfl) (by kernel_rfl)
  inM := enters_of Tryd.func75 (by kernel_rfl) (by kernel_rfl)
  keep s own w w' p h hf hp := by
    obtain ⟨X, h, rfl⟩ := h
    exact ⟨X, ⟨h.rep.frame hf hp, h.most, h.ok, h.due, h.live⟩, rfl⟩
  old s own w h := by
    obtain ⟨X, h, rfl⟩ := h
    exact h.rep.old
  need s own w h := by
    obtain ⟨X, h, rfl⟩ := h
    exact need_any h.rep.need
  held s own w h := by
    obtain ⟨X, h, rfl⟩ := h
    exact (tailHeld_any N g _ _ _ _ X w h.rep (by have := h.ok.1; have := h.most; omega) h.ok.2).mono fun _ _ h => h.quiet
  feed s own w v x h hn hB h1 h32 := by
    obtain ⟨X, h, rfl⟩ := h
    have h0 : (tailMach N).need s = 0 := (h.due0 hn).2.2
    rw [h0]
    refine (tailFeed_any N g s X v x w h hn hB h1 h32).mono fun e w' hg => hg.answers ?_ ?_
    · rw [show ((tailMach N).feed s x).2.1 = [] from feed_quiet N x s.ls]; exact outsOk_nil
    · rw [show ((tailMach N).feed s x).2.1 = [] from feed_quiet N x s.ls]; simp
  fin s own w h hn := by
    obtain ⟨X, h, rfl⟩ := h
    have h0 : (tailMach N).need s = 0 := (h.due0 hn).2.2
    rw [h0]
    have hq : ((tailMach N).fin s).2.1 = [] := by
      have := end_quiet N s.ls
      show (endB (tailT N) s.ls).2.1 = []
      rw [this]
    refine (tailEnd_any N g s X w h hn).mono fun e w' hg => hg.answers ?_ ?_
    · rw [hq]; exact outsOk_nil
    · rw [hq]; simp
  more s own w h hn := by
    obtain ⟨X, h, rfl⟩ := h
    have hp : s.pieces = true := by
      have hn : tneed s = -2 := hn
      unfold tneed needOf at hn
      cases hp : s.pieces with
      | true => rfl
      | false =>
        rw [hp] at hn
        cases hl : s.ls.live <;> rw [hl] at hn <;> simp at hn
    obtain ⟨hlive, hu⟩ := h.due hp
    obtain ⟨hrep, hmost, hok, -, hlf⟩ := h
    obtain ⟨⟨live, fail, b, u⟩, pieces⟩ := s
    simp only at hp hlive hu hok hrep hlf
    subst hp hlive
    cases u with
    | nil => exact absurd rfl hu
    | cons l r =>
      have hl := hok.2 l (by simp)
      have hlen := hok.1
      simp only [List.length_cons] at hlen
      refine (tailMore_any N g fail b l r X w hrep (by omega) hl).mono ?_
      rintro e w' ⟨v, rfl, ho, hr, hf⟩
      refine ⟨v, rfl, ho.is, ⟨_, ⟨X, ⟨?_, hmost, (show TOk N r from ⟨by omega, fun y hy => hok.2 y (List.mem_cons_of_mem _ hy)⟩), fun h => ⟨rfl, ?_⟩, (fun h => by cases h)⟩, rfl⟩, fun k hk => .inl hk⟩, hf, ⟨fun t ht => ?_, fun t ht => ?_, ?_⟩, by simp [tailMach]⟩
      · have e1 : tneed ⟨⟨false, fail, b, r⟩, !r.isEmpty⟩ = if r = [] then -1 else -2 := by cases r <;> simp [tneed, needOf]
        show (tailM N).RepN g (tneed ⟨⟨false, fail, b, r⟩, !r.isEmpty⟩) fail b r X w'
        rw [e1]
        exact hr
      · have h : (!r.isEmpty) = true := h
        intro e
        have e : r = [] := e
        rw [e] at h
        cases h
      · have ht : t ∈ [(0, l ++ [10])] := ht
        rw [List.mem_singleton.1 ht]
        exact Nat.zero_le _
      · have ht : t ∈ [(0, l ++ [10])] := ht
        rw [List.mem_singleton.1 ht]
        simp
      · show outSum [(0, l ++ [10])] ≤ 1024
        simp [outSum]
        omega
  heldB s own w h := by
    obtain ⟨X, h, rfl⟩ := h
    have h1 := h.rep.le
    have h2 := keptSum_le h.ok.2
    have h3 := h.ok.1
    have h4 := h.most
    show 0 ≤ (((s.ls.b.length + keptSum s.ls.u : Nat) : Int)) ∧ ((s.ls.b.length + keptSum s.ls.u : Nat) : Int) ≤ 1000000
    omega

end Go.Proofs.YtdpjopemdhbgpaaDoor
