/- Uniq as a machine: its model, Feed, End, Held: it is one that Drive may drive. -/
import Derived.Test.YtmmhpjhmobhdiaaDoorUniqTell
import Derived.Test.YtmmhpjhmobhdiaaDoorLdriven
namespace Go.Proofs.YtmmhpjhmobhdiaaDoor
open Go.RowKit

/-- The machine is as told; its own blocks. -/
structure URep (c : Bool) (g : Nat) (s : LS US) (X : Nat → Prop) (w : World) : Prop where
  rep : (uniqM c).Rep g s X w
  ok : UOk s.u
def uniqRep (c : Bool) (g : Nat) (s : LS US) (own : Nat → Prop) (w : World) : Prop := ∃ X, URep c g s X w ∧ own = (uniqM c).own g X

def UniqFeeds (c : Bool) (g : Nat) (X : Nat → Prop) (w : World) (r : LS US × Outs × Int) (e : Ending) (w' : World) : Prop :=
  ∃ v X', e = .returned (.tuple #[v, .int .i64 r.2.2]) ∧ OwnOuts w.heap.size w' v r.2.1 ∧ URep c g r.1 X' w' ∧ (∀ k, X' k → X k ∨ w.heap.size ≤ k) ∧ Frame ((uniqM c).own g X) w w'
theorem UniqFeeds.answers {c : Bool} {g : Nat} {X : Nat → Prop} {w : World} {r : LS US × Outs × Int} {e : Ending} {w' : World} (h : UniqFeeds c g X w r e w') (hq : OutsOk r.2.1) (hl : r.2.1.length ≤ 1000000) : Answers ((uniqM c).own g X) (uniqRep c g) r w e w' := by
  obtain ⟨v, X', rfl, ho, hr, hx, hf⟩ := h
  refine ⟨v, rfl, ho.is, ⟨_, ⟨X', hr, rfl⟩, fun k hk => ?_⟩, hf, hq, hl⟩
  rcases hk with rfl | hk
  · exact .inl (.inl rfl)
  · rcases hx k hk with h | h
    · exact .inl (.inr h)
    · exact .inr h

set_option maxRecDepth 100000 in
set_option maxHeartbeats 4000000 in
theorem uniqFeed_any (c : Bool) (g : Nat) (s : LS US) (X : Nat → Prop) (v : Value) (x : List UInt8) (w : World) (h : URep c g s X w) (hl : s.live = true) (hB : IsBytes (fun k => ¬ (uniqM c).own g X k) w v x) (h1 : 1 ≤ x.length) (h32 : x.length ≤ 32) :
    Calls Tryd.prog 90 #[.pointer (some ⟨g, 0, none⟩), .int .i64 0, v] w (UniqFeeds c g X w (feedL (uniqT c) uniqDrop x s)) := by
  have hfeed := feed_yes (uniqM c) g s X v x w h.rep (uniq_tells c g) (uniq_enters c) (uniq_len c) hl hB h1 h32
  have hok := uOk_feed (c := c) x s h.rep.repN.le h.ok
  have hltw := h.rep.repN.lt
  have herrs := feedB_errs (uniqT c) x s
  have HF := Lib.hid hfeed
  obtain ⟨av, cv, rfl, -, -⟩ := hB
  unfold feedL
  obtain ⟨r, hr⟩ : ∃ r, r = feedB (uniqT c) x s := ⟨_, rfl⟩
  rw [show (uniqM c).tell = uniqT c from rfl, ← hr] at HF
  rw [← hr] at hok herrs ⊢
  have HOk := Lib.hid hok
  clear hfeed h hr hok
  rcases herrs with he | he
  · rw [he] at HF ⊢
    rw [if_neg (by decide)]
    go_enter Tryd.func90, Tryd.ntmps90
    go_wp2_with fail
    refine HF.out.mono ?_
    rintro e w1 ⟨v1, X1, rfl, ho, hr1, hx1, hf1⟩
    have HO := Lib.hid ho
    have HR := Lib.hid hr1
    have HX := Lib.hid hx1
    have HF1 := Lib.hid hf1
    clear ho hr1 hx1 hf1 HF
    go_wp2_with fail
    go_ret2
    exact ⟨v1, X1, rfl, HO.out, ⟨HR.out, HOk.out⟩, HX.out, HF1.out⟩
  · rw [he] at HF ⊢
    rw [if_pos rfl]
    go_enter Tryd.func90, Tryd.ntmps90
    go_wp2_with fail
    refine HF.out.mono ?_
    rintro e w1 ⟨v1, X1, rfl, ho, hr1, hx1, hf1⟩
    have HO := Lib.hid ho
    have HR := Lib.hid hr1
    have HX := Lib.hid hx1
    have HF1 := Lib.hid hf1
    have hsz := hf1.size
    clear ho hr1 hx1 hf1 HF
    go_wp2_with fail
    refine (giveUp_any g _ _ w1 (uniq_c70 HR.out.repN) (uniq_c71 HR.out.repN) HR.out.repN.froz).mono ?_
    rintro e w2 ⟨rfl, hw2⟩
    have H2 := Lib.hid (hw2 ▸ uniq_put HR.out.repN [] 0)
    have HF2 := Lib.hid (hw2 ▸ frame_two w1 g (strV []) (.int .i64 0) : Frame (· = g) w1 w2)
    clear hw2
    go_wp2_with fail
    go_ret2
    refine ⟨v1, X1, rfl, HO.out.frame HF2.out (fun k hk _ e => by have e' : k = g := e; omega), ⟨⟨H2.out, fun h => ⟨(HR.out.live h).1, uOk_none⟩⟩, uOk_none⟩, HX.out, HF1.out.then HF2.out (fun _ _ e => .inl e)⟩

set_option maxRecDepth 100000 in
set_option maxHeartbeats 2000000 in
theorem uniqHeld_any (c : Bool) (g : Nat) (s : LS US) (X : Nat → Prop) (w : World) (h : URep c g s X w) :
    Calls Tryd.prog 91 #[.pointer (some ⟨g, 0, none⟩)] w (SaysN w (.int .i64 (uniqHeld s))) := by
  obtain ⟨post, hspl⟩ := h.rep.repN.spl
  have c70 := uniq_c70 h.rep.repN
  have hle := h.rep.repN.le
  have hu := h.ok.1
  obtain ⟨S, hS⟩ : ∃ S : ByteArray, strV s.u.2 = .string S := ⟨_, rfl⟩
  have hz := strV_size hS
  rw [hS] at c70
  obtain ⟨H, hH⟩ : ∃ H, H = uniqHeld s := ⟨_, rfl⟩
  rw [← hH]
  have hH2 : (s.b.length : Int) + (S.size : Int) = H := by rw [hH, uniqHeld, hz]; push_cast; rfl
  have hH3 : IntKind.i64.wrap ((s.b.length : Int) + (S.size : Int)) = H := by
    rw [IntKind.wrap_i64]
    omega
  have HH := Lib.hid hH3
  have hspl2 : Spl g 2 (uniqM c).T [.int .i64 (needOf s), (uniqM c).piece g] post s.fail s.b w.drew := ⟨hspl.heap, hspl.off, hspl.le, hspl.fail⟩
  have hheld := (held_any (o := 0) hspl2).mono fun e w' h => (⟨h.1, h.2.symm⟩ : e = .returned (.int .i64 s.b.length) ∧ w' = w.drew)
  have HHeld := Lib.hid hheld
  have q1 : S.size ≤ 64 := by omega
  have k70 : w.drew.cell? ⟨g, 70, none⟩ = some (.string S) := c70
  clear h hspl hS hH hH2 hH3 hheld hu hz c70 hspl2
  go_enter Tryd.func91, Tryd.ntmps91
  go_wp2_with fail
  refine wp_region_still_lit (by kernel_rfl) (by kernel_rfl) ?_
  change wpStill _ _ w.drew _ _ _
  repeat still_step
  still_call HHeld.out
  repeat still_step
  refine wpStill_nil ?_
  rw [HH.out]
  clear k70
  go_wp2_with fail
  go_ret
  exact ⟨rfl, ⟨rfl, rfl, rfl, Nat.le_refl _, fun _ _ => rfl⟩⟩

theorem uniq_goes (g : Nat) (w : World) :
    (method 260 73 (.pointer (some ⟨g, 0, none⟩)) "Need").run Tryd.prog w = .ok (93, .pointer (some ⟨g, 0, none⟩)) w ∧
    (method 260 73 (.pointer (some ⟨g, 0, none⟩)) "Held").run Tryd.prog w = .ok (91, .pointer (some ⟨g, 0, none⟩)) w ∧
    (method 260 73 (.pointer (some ⟨g, 0, none⟩)) "Feed").run Tryd.prog w = .ok (90, .pointer (some ⟨g, 0, none⟩)) w ∧
    (method 260 73 (.pointer (some ⟨g, 0, none⟩)) "End").run Tryd.prog w = .ok (89, .pointer (some ⟨g, 0, none⟩)) w ∧
    (method 260 73 (.pointer (some ⟨g, 0, none⟩)) "More").run Tryd.prog w = .ok (92, .pointer (some ⟨g, 0, none⟩)) w :=
  ⟨by kernel_rfl, by kernel_rfl, by kernel_rfl, by kernel_rfl, by kernel_rfl⟩

theorem uniq_due {c : Bool} {s : LS US} (hn : 0 ≤ (uniqMach c).need s) : s.live = true ∧ (uniqMach c).need s = 0 := by
  have hn : 0 ≤ needOf s := hn
  show s.live = true ∧ needOf s = 0
  unfold needOf at hn ⊢
  by_cases hl : s.live = true
  · exact ⟨hl, if_pos hl⟩
  · rw [if_neg hl] at hn
    omega
theorem uniq_driven (c : Bool) (g : Nat) : Driven (uniqMach c) uniqBase (uniqRep c g) 73 (.pointer (some ⟨g, 0, none⟩)) 93 91 90 89 92
    (.pointer (some ⟨g, 0, none⟩)) (.pointer (some ⟨g, 0, none⟩)) (.pointer (some ⟨g, 0, none⟩)) (.pointer (some ⟨g, 0, none⟩)) (.pointer (some ⟨g, 0, none⟩)) where
  goN w := (uniq_goes g w).1
  goH w := (uniq_goes g w).2.1
  goF w := (uniq_goes g w).2.2.1
  goE w := (uniq_goes g w).2.2.2.1
  goM w := (uniq_goes g w).2.2.2.2
  inN := enters_of Tryd.func93 (by kernel_rfl) (by kernel_rfl)
  inH := enters_of Tryd.func91 (by kernel_rfl) (by kernel_rfl)
  inF := enters_of Tryd.func90 (by kernel_rfl) (by kernel_rfl)
  inE := enters_of Tryd.func89 (by kernel_rfl) (by kernel_rfl)
  inM := enters_of Tryd.func92 (by kernel_rfl) (by kernel_rfl)
  keep s own w w' p h hf hp := by
    obtain ⟨X, h, rfl⟩ := h
    exact ⟨X, ⟨h.rep.frame hf hp, h.ok⟩, rfl⟩
  old s own w h := by
    obtain ⟨X, h, rfl⟩ := h
    exact h.rep.repN.old
  need s own w h := by
    obtain ⟨X, h, rfl⟩ := h
    exact need_any h.rep.need
  held s own w h := by
    obtain ⟨X, h, rfl⟩ := h
    exact uniqHeld_any c g s X w h
  feed s own w v x h hn hB h1 h32 := by
    obtain ⟨X, h, rfl⟩ := h
    obtain ⟨hl, h0⟩ := uniq_due hn
    rw [h0]
    have ho := uniq_feedOuts c x s h.rep.repN.le h.ok
    have k1 := h.rep.repN.le
    have k2 := h.ok.1
    obtain ⟨q1, q2⟩ := ho.ok (by omega)
    exact (uniqFeed_any c g s X v x w h hl hB h1 h32).mono fun e w' hg => UniqFeeds.answers (r := feedL (uniqT c) uniqDrop x s) hg q1 q2
  fin s own w h hn := by
    obtain ⟨X, h, rfl⟩ := h
    obtain ⟨hl, h0⟩ := uniq_due hn
    rw [h0]
    obtain ⟨q1, q2⟩ := (uniq_endOuts c s h.rep.repN.le h.ok).ok (by omega)
    refine (end_last (uniqM c) g s X w (uniqLast c) (uniqEnd c) h.rep (uniq_tells c g) (uniq_enters c) hl rfl (uniq_ends c g) (uniq_enters2 c) rfl (uniq_goes_on c) (uniq_len c) (uniq_fin_len c)).mono fun e w' hg => ?_
    obtain ⟨v, X', rfl, ho, hr, hx, hf⟩ := hg
    exact UniqFeeds.answers (r := endL (uniqT c) (uniqEnd c) s) ⟨v, X', rfl, ho, ⟨hr, uOk_end c s h.rep.repN.le h.ok⟩, hx, hf⟩ q1 q2
  more s own w h hn := by
    have hn : needOf s = -2 := hn
    unfold needOf at hn
    split at hn <;> omega
  heldB s own w h := by
    obtain ⟨X, h, rfl⟩ := h
    have h1 := h.rep.repN.le
    have h2 := h.ok.1
    show 0 ≤ uniqHeld s ∧ uniqHeld s ≤ 1000000
    unfold uniqHeld
    omega

end Go.Proofs.YtmmhpjhmobhdiaaDoor
