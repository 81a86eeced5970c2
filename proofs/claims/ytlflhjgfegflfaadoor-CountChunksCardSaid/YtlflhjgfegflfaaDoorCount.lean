/- Count is a machine that Drive may drive. -/
import Derived.Test.YtlflhjgfegflfaaDoorCountTell
import Derived.Test.YtlflhjgfegflfaaDoorRC
namespace Go.Proofs.YtlflhjgfegflfaaDoor
open Go.RowKit
/-- What the driver turns lies behind the library's table. -/
def countBase : Nat := 2 + 1
theorem count_enters : Enters 29 := fun args w => by
  simp [callFunc, go_sem, Tryd.func29]
  rfl

set_option maxRecDepth 100000 in
set_option maxHeartbeats 2000000 in
theorem countFeed_yes (s : CS) (g : Nat) (v : Value) (x : List UInt8) {p : Nat → Prop} (w : World) (h : CountAt s g w) (hs : s.live = true) (hX : IsBytes p w v x) (h1 : 1 ≤ x.length) (h32 : x.length ≤ 32) :
    Calls Tryd.prog 79 #[.pointer (some ⟨g, 0, none⟩), .int .i64 0, v] w fun e w' => e = .returned (.tuple #[.slice none 0 0, .int .i64 0]) ∧ CountAt (countPut s x) g w' ∧ Frame (· = g) w w' := by
  have hc := h.each
  have hn := h.need
  rw [hs, if_pos rfl] at hn
  have HN := Lib.hid hn
  have HT := Lib.hid (count_any s g v x w h hX h1)
  obtain ⟨ax, cx, rfl, -, -⟩ := hX
  have HE := Lib.hid (show feedE 0 0 x.length = 0 by unfold feedE; rw [show endE 0 0 = 0 by simp [endE], if_neg (by simp), if_neg (by omega)])
  have hent := count_enters
  unfold Enters at hent
  clear h hn hs
  go_enter Tryd.func79, Tryd.ntmps79
  go_wp2_with fail
  refine (mayFeed_any 0 ax x.length cx HN.out).mono ?_
  rintro e w' ⟨rfl, rfl⟩
  rw [HE.out]
  go_wp2_with fail
  refine HT.out.mono ?_
  rintro e w1 ⟨rfl, ho, hb⟩
  have HO := Lib.hid ho
  have HB := Lib.hid hb
  clear ho hb hc hent
  go_wp2_with fail
  go_ret2
  exact ⟨rfl, HO.out, HB.out⟩

set_option maxRecDepth 100000 in
set_option maxHeartbeats 1000000 in
theorem countFeed_no (g : Nat) (n : Int) (port : Int) (a : Option Addr) (l c : Nat) (w : World) (hn : w.cell? ⟨g, 0, none⟩ = some (.int .i64 n)) (hE : feedE n port l ≠ 0) :
    Calls Tryd.prog 79 #[.pointer (some ⟨g, 0, none⟩), .int .i64 port, .slice a l c] w (Says w (.tuple #[.slice none 0 0, .int .i64 (feedE n port l)])) := by
  have HN := Lib.hid hn
  obtain ⟨E, hE2⟩ : ∃ E, E = feedE n port l := ⟨_, rfl⟩
  rw [← hE2] at hE ⊢
  have HE := Lib.hid hE2
  have g1 : (E != 0) = true := by simpa using hE
  clear hn hE hE2
  go_enter Tryd.func79, Tryd.ntmps79
  go_wp2_with fail
  refine (mayFeed_any port a l c HN.out).mono ?_
  rintro e w' ⟨rfl, rfl⟩
  rw [← HE.out]
  go_wp2
  go_ret2
  exact ⟨rfl, rfl⟩

set_option maxRecDepth 100000 in
set_option maxHeartbeats 1000000 in
theorem bytesEnd_no (g : Nat) (n : Int) (port : Int) (w : World) (hn : w.cell? ⟨g, 0, none⟩ = some (.int .i64 n)) (hE : endE n port ≠ 0) :
    Calls Tryd.prog 84 #[.pointer (some ⟨g, 0, none⟩), .int .i64 port] w (Says w (.tuple #[.slice none 0 0, .int .i64 (endE n port)])) := by
  have HN := Lib.hid hn
  obtain ⟨E, hE2⟩ : ∃ E, E = endE n port := ⟨_, rfl⟩
  rw [← hE2] at hE ⊢
  have HE := Lib.hid hE2
  have g1 : (E != 0) = true := by simpa using hE
  clear hn hE hE2
  go_enter Tryd.func84, Tryd.ntmps84
  go_wp2_with fail
  refine (mayEnd_any port HN.out).mono ?_
  rintro e w' ⟨rfl, rfl⟩
  rw [← HE.out]
  go_wp2
  go_ret2
  exact ⟨rfl, rfl⟩

set_option maxRecDepth 100000 in
set_option maxHeartbeats 1000000 in
theorem bytesEnd_yes (s : CS) (g : Nat) (w : World) (h : CountAt s g w) (hs : s.live = true) :
    Calls Tryd.prog 84 #[.pointer (some ⟨g, 0, none⟩), .int .i64 0] w fun e w' => e = .returned (.tuple #[.slice none 0 0, .int .i64 0]) ∧ CountAt ⟨false, s.lines, s.all⟩ g w' ∧ Frame (· = g) w w' := by
  have hn := h.need
  rw [hs, if_pos rfl] at hn
  have HN := Lib.hid hn
  have HF := Lib.hid (h.froz 0)
  have HP := Lib.hid h.stop
  have HC := Lib.hid (Frame.cell w ⟨g, 0, none⟩ (.int .i64 (-1)))
  have HE := Lib.hid (show endE 0 0 = 0 by simp [endE])
  clear h hn hs
  go_enter Tryd.func84, Tryd.ntmps84
  go_wp2_with fail
  refine (mayEnd_any 0 HN.out).mono ?_
  rintro e w' ⟨rfl, rfl⟩
  rw [HE.out]
  go_wp2_with fail
  refine (stop_any HN.out HF.out).mono ?_
  rintro e w2 ⟨rfl, rfl⟩
  go_wp2_with fail
  go_ret2
  exact ⟨rfl, HP.out, HC.out⟩

set_option maxRecDepth 100000 in
set_option maxHeartbeats 1000000 in
theorem bytesHeld_any (r : Value) (w : World) : Calls Tryd.prog 80 #[r] w (Says w (.int .i64 0)) := by
  go_enter Tryd.func80, Tryd.ntmps80
  go_wp2
  go_ret
  exact ⟨rfl, rfl⟩

set_option maxRecDepth 100000 in
set_option maxHeartbeats 1000000 in
theorem countEnd_no (g : Nat) (n : Int) (port : Int) (w : World) (hn : w.cell? ⟨g, 0, none⟩ = some (.int .i64 n)) (hE : endE n port ≠ 0) :
    Calls Tryd.prog 78 #[.pointer (some ⟨g, 0, none⟩), .int .i64 port] w (Says w (.tuple #[.slice none 0 0, .int .i64 (endE n port)])) := by
  have HC := Lib.hid (bytesEnd_no g n port w hn hE)
  obtain ⟨E, hE2⟩ : ∃ E, E = endE n port := ⟨_, rfl⟩
  rw [← hE2] at hE HC ⊢
  have g1 : (E != 0) = true := by simpa using hE
  clear hn hE hE2
  go_enter Tryd.func78, Tryd.ntmps78
  go_wp2_with fail
  refine HC.out.mono ?_
  rintro e w' ⟨rfl, rfl⟩
  go_wp2
  go_ret2
  exact ⟨rfl, rfl⟩

theorem count_goes (g : Nat) (w : World) :
    (method 253 72 (.pointer (some ⟨g, 0, none⟩)) "Need").run Tryd.prog w = .ok (82, .pointer (some ⟨g, 0, none⟩)) w ∧
    (method 253 72 (.pointer (some ⟨g, 0, none⟩)) "Held").run Tryd.prog w = .ok (80, .pointer (some ⟨g, 0, none⟩)) w ∧
    (method 253 72 (.pointer (some ⟨g, 0, none⟩)) "Feed").run Tryd.prog w = .ok (79, .pointer (some ⟨g, 0, none⟩)) w ∧
    (method 253 72 (.pointer (some ⟨g, 0, none⟩)) "End").run Tryd.prog w = .ok (78, .pointer (some ⟨g, 0, none⟩)) w ∧
    (method 253 72 (.pointer (some ⟨g, 0, none⟩)) "More").run Tryd.prog w = .ok (81, .pointer (some ⟨g, 0, none⟩)) w :=
  ⟨by kernel_rfl, by kernel_rfl, by kernel_rfl, by kernel_rfl, by kernel_rfl⟩

theorem countNeed_cases {s : CS} (h : 0 ≤ (if s.live then 0 else -1 : Int)) : s.live = true := by
  obtain ⟨l, k, m⟩ := s
  cases l <;> simp at h ⊢
variable [Inhabited TabBox]
structure countRep (g : Nat) (s : CS) (own : Nat → Prop) (w : World) : Prop where
  row : CountAt s g w
  own : own = (· = g)
  ten : TabNow w
  base : countBase ≤ g
set_option maxRecDepth 100000 in
set_option maxHeartbeats 4000000 in
theorem countEnd_yes (s : CS) (g : Nat) (w : World) (h : CountAt s g w) (hs : s.live = true) (hT : TabNow w) (hg : countBase ≤ g) :
    Calls Tryd.prog 78 #[.pointer (some ⟨g, 0, none⟩), .int .i64 0] w fun e w' => ∃ v, e = .returned (.tuple #[v, .int .i64 0]) ∧ OwnOuts w.heap.size w' v (countO s) ∧ CountAt ⟨false, s.lines, s.all⟩ g w' ∧ Frame (· = g) w w' := by
  have hend := bytesEnd_yes s g w h hs
  obtain ⟨k, hk⟩ : ∃ k, k = wrap64 s.lines := ⟨_, rfl⟩
  obtain ⟨m, hm⟩ : ∃ m, m = wrap64 s.all := ⟨_, rfl⟩
  have hkr : -9223372036854775808 ≤ k ∧ k ≤ 9223372036854775807 := by rw [hk]; exact wrap64_range _
  have hmr : -9223372036854775808 ≤ m ∧ m ≤ 9223372036854775807 := by rw [hm]; exact wrap64_range _
  have hlk := itoaG_len tabNow k hkr.1 hkr.2
  have hlm := itoaG_len tabNow m hmr.1 hmr.2
  have hik := fun (W : World) (hW : TabNow W) => itoaG_any tabNow k hkr.1 hkr.2 W hW
  have him := fun (W : World) (hW : TabNow W) => itoaG_any tabNow m hmr.1 hmr.2 W hW
  have hlt := h.lt
  obtain ⟨t, ht⟩ : ∃ t, t = countT k m := ⟨_, rfl⟩
  have hO : countO s = [(0, t ++ [10])] := by rw [ht, hk, hm]; rfl
  obtain ⟨dk, hdk⟩ : ∃ d, d = itoaG tabNow k := ⟨_, rfl⟩
  obtain ⟨dm, hdm⟩ : ∃ d, d = itoaG tabNow m := ⟨_, rfl⟩
  rw [hO]
  unfold countT at ht
  rw [← hdk] at hik hlk ht
  rw [← hdm] at him hlm ht
  obtain ⟨Sk, hSk⟩ : ∃ S : ByteArray, strV dk = .string S := ⟨_, rfl⟩
  obtain ⟨Sm, hSm⟩ : ∃ S : ByteArray, strV dm = .string S := ⟨_, rfl⟩
  have zk := strV_size hSk
  have zm := strV_size hSm
  have hS1 := strV_add hSk (show strV [32] = .string { data := #[32] } from rfl)
  have hS2 := strV_add hS1 hSm
  rw [List.append_assoc, List.singleton_append, ← ht] at hS2
  have a1 : (9223372036854775807 < Sk.size + 1) = False := by simp; omega
  have a2 : (9223372036854775807 < Sk.size + 1 + Sm.size) = False := by simp; omega
  have hx : t.length ≤ 1000 := by rw [ht]; simp; omega
  rw [hSk] at hik
  rw [hSm] at him
  obtain ⟨S, hS⟩ : ∃ S : ByteArray, S = Sk ++ { data := #[32] } ++ Sm := ⟨_, rfl⟩
  have HS := Lib.hid hS
  rw [← hS] at hS2
  have HS2 := Lib.hid hS2
  have HX := Lib.hid hx
  have HIk := Lib.hid hik
  have HIm := Lib.hid him
  have HE := Lib.hid hend
  have HTen := Lib.hid (show ∀ W, Frame (· = g) w W → TabNow W from fun W hf => hT.frame hf (fun e => by
    have e' : 2 = g := e
    unfold countBase at hg
    omega))
  have HK := Lib.hid hk
  have HM := Lib.hid hm
  clear hend hk hm hkr hmr hlk hlm hik him ht hO hdk hdm hSk hSm zk zm hS1 hS2 hS hx h hs hT hg
  go_enter Tryd.func78, Tryd.ntmps78
  go_wp2_with fail
  refine HE.out.mono ?_
  rintro e w1 ⟨rfl, h1, hf1⟩
  have HA1 := Lib.hid h1
  have HF1 := Lib.hid hf1
  have hZ : ∀ W, Below w1.heap.size w1 W → W.cell? ⟨g, 3, none⟩ = some (.int .i64 k) ∧ W.cell? ⟨g, 4, none⟩ = some (.int .i64 m) := fun W hb => by
    have h2 := h1.below hb
    exact ⟨by rw [HK.out]; exact h2.lines, by rw [HM.out]; exact h2.all⟩
  have HZ := Lib.hid hZ
  have HT1 := Lib.hid (show ∀ W, Below w1.heap.size w1 W → TabNow W from fun W hb => (HTen.out _ hf1).below hb)
  have hw : Below w1.heap.size w1 w1 := Below.refl _ _
  have hsz1 := hf1.size
  clear h1 hf1 hZ
  go_upto_region 4 with fail
  have hw := hw.drew
  go_region_held3 (fun W => W.cell? ⟨g, 3, none⟩ = some (.int .i64 k) ∧ W.cell? ⟨g, 4, none⟩ = some (.int .i64 m))
    (exact HZ.out _ hw)
    (first | (go_at_call_of 85 (Value.int .i64 k); refine (HIk.out _ (HT1.out _ hw)).mono ?_; rintro e w6 ⟨rfl, hb1⟩; have hw := hw.trans (hb1.mono hw.size); clear hb1)
           | (go_at_call_of 85 (Value.int .i64 m); refine (HIm.out _ (HT1.out _ hw)).mono ?_; rintro e w6 ⟨rfl, hb1⟩; have hw := hw.trans (hb1.mono hw.size); clear hb1))
  all_goals
    have HW6 := Lib.hid hw
    rw [← HS.out]
    have hsz6 := hw.size
    clear hw
    go_wp2_with fail
    refine (tellOut_wide 0 _ t _ (text_new w6 t S HS2.out (0, 0)) HX.out).mono ?_
    rintro e w8 ⟨v, rfl, ho, hb⟩
    have HO := Lib.hid ho
    have HB := Lib.hid hb
    clear ho hb
    go_wp2_with fail
    go_ret2
    have hb8 : Below w6.heap.size w6 w8 := ((Below.refl w6.heap.size w6).alloc (Nat.le_refl _) _).trans (HB.out.mono (by simp))
    have hb9 := HW6.out.trans (hb8.mono hsz6)
    exact ⟨v, rfl, HO.out.mono (by simp; omega), HA1.out.below hb9, HF1.out.trans (Below.toFrame hb9 _)⟩

theorem count_driven (g : Nat) : Driven countMach countBase (countRep g) 72 (.pointer (some ⟨g, 0, none⟩)) 82 80 79 78 81
    (.pointer (some ⟨g, 0, none⟩)) (.pointer (some ⟨g, 0, none⟩)) (.pointer (some ⟨g, 0, none⟩)) (.pointer (some ⟨g, 0, none⟩)) (.pointer (some ⟨g, 0, none⟩)) where
  goN w := (count_goes g w).1
  goH w := (count_goes g w).2.1
  goF w := (count_goes g w).2.2.1
  goE w := (count_goes g w).2.2.2.1
  goM w := (count_goes g w).2.2.2.2
  inN := enters_of Tryd.func82 (by kernel_rfl) (by kernel_rfl)
  inH := enters_of Tryd.func80 (by kernel_rfl) (by kernel_rfl)
  inF := enters_of Tryd.func79 (by kernel_rfl) (by kernel_rfl)
  inE := enters_of Tryd.func78 (by kernel_rfl) (by kernel_rfl)
  inM := enters_of Tryd.func81 (by kernel_rfl) (by kernel_rfl)
  keep s own w w' p h hf hp := by
    obtain ⟨h, rfl, ht, hg⟩ := h
    exact ⟨hf.heap h (hp g (.inl rfl)), rfl, ht.frame hf (hp _ (.inr (Nat.lt_succ_self _))), hg⟩
  old s own w h := by
    obtain ⟨h, rfl, -, -⟩ := h
    rintro k rfl
    exact h.lt
  need s own w h := need_any h.row.need
  held s own w h := (bytesHeld_any _ w).mono fun _ _ h => h.quiet
  feed s own w v x h hn hB h1 h32 := by
    obtain ⟨h, rfl, ht, hg⟩ := h
    have hs := countNeed_cases hn
    have hm : countMach.need s = 0 := by show (if s.live then 0 else -1 : Int) = 0; rw [hs]; rfl
    rw [hm]
    refine (countFeed_yes s g v x w h hs hB h1 h32).mono ?_
    rintro e w' ⟨rfl, h', hf⟩
    refine ⟨_, rfl, (OwnOuts.nil w.heap.size w').is, ⟨_, ⟨h', rfl, ht.frame hf (fun e => ?_), hg⟩, fun k hk => .inl hk⟩, hf, ⟨(fun t ht => by cases ht), (fun t ht => by cases ht), (by show (0 : Nat) ≤ 1024; omega)⟩, Nat.zero_le _⟩
    have e' : 2 = g := e
    unfold countBase at hg
    omega
  fin s own w h hn := by
    obtain ⟨h, rfl, ht, hg⟩ := h
    have hs := countNeed_cases hn
    have hm : countMach.need s = 0 := by show (if s.live then 0 else -1 : Int) = 0; rw [hs]; rfl
    rw [hm]
    refine (countEnd_yes s g w h hs ht hg).mono ?_
    rintro e w' ⟨v, rfl, ho, h', hf⟩
    refine ⟨_, rfl, ho.is, ⟨_, ⟨h', rfl, ht.frame hf (fun e => ?_), hg⟩, fun k hk => .inl hk⟩, hf, countO_ok s, by show (countO s).length ≤ 1000000; simp [countO]⟩
    have e' : 2 = g := e
    unfold countBase at hg
    omega
  more s own w h hn := by
    obtain ⟨l, k, m⟩ := s
    have hn : (if l then 0 else -1 : Int) = -2 := hn
    cases l <;> simp at hn
  heldB s own w h := ⟨Int.le_refl 0, by show (0 : Int) ≤ 1000000; omega⟩
theorem count_refusing (g : Nat) : Refusing countMach (countRep g) 79 78 81 (.pointer (some ⟨g, 0, none⟩)) (.pointer (some ⟨g, 0, none⟩)) (.pointer (some ⟨g, 0, none⟩)) where
  feed s own w port a l c h hr := by
    have he : feedE (if s.live then 0 else -1) port l = errN (if s.live then 0 else -1) := feedE_err hr
    have := countFeed_no g _ port a l c w h.row.need (by rw [he]; exact (errN_ne _).1)
    rw [he] at this
    exact this
  fin s own w port h hr := by
    have he : endE (if s.live then 0 else -1) port = errN (if s.live then 0 else -1) := endE_err hr
    have := countEnd_no g _ port w h.row.need (by rw [he]; exact (errN_ne _).1)
    rw [he] at this
    exact this
  more s own w h hr := more_any h.row.need hr

end Go.Proofs.YtlflhjgfegflfaaDoor
