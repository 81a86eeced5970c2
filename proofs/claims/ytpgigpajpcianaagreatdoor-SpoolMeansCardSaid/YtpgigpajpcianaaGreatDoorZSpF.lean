/- Plainly: the lines of a chunk. -/
import Derived.Test.YtpgigpajpcianaaGreatDoorZSpA
import Derived.Test.YtpgigpajpcianaaGreatDoorZJoinback
import Derived.Test.YtpgigpajpcianaaGreatDoorZDlines
import Derived.Test.YtpgigpajpcianaaGreatDoorZGheavy
namespace Go.Proofs.YtpgigpajpcianaaGreatDoor

theorem cutS_none : ∀ (x b : List UInt8), (cutL b x).2 = none → 65 ≤ b.length + x.length
  | [], b, h => by simp [cutL] at h
  | c :: r, b, h => by
    by_cases hc : c = 10
    · subst hc
      rw [cutL_end] at h
      have := cutS_none r [] h
      simp only [List.length_nil, List.length_cons] at this ⊢
      omega
    · by_cases h64 : b.length = 64
      · simp only [List.length_cons]; omega
      · rw [cutL_put b r c hc h64] at h
        have := cutS_none r (b ++ [c]) h
        simp only [List.length_append, List.length_cons, List.length_nil] at this ⊢
        omega
theorem cutS_short : ∀ (x b : List UInt8), (cutL b x).2 = none → x.length ≤ 64 → (cutL b x).1 = []
  | [], b, h, _ => rfl
  | c :: r, b, h, hl => by
    by_cases hc : c = 10
    · subst hc
      rw [cutL_end] at h
      have := cutS_none r [] h
      simp only [List.length_nil, List.length_cons] at this hl
      omega
    · by_cases h64 : b.length = 64
      · rw [cutL_long b r c hc h64]
      · rw [cutL_put b r c hc h64] at h ⊢
        exact cutS_short r (b ++ [c]) h (by simp only [List.length_cons] at hl; omega)
def Begun1 (b : List UInt8) : Prop := b.length ≤ 64 ∧ (10 : UInt8) ∉ b
theorem Begun1.nil : Begun1 [] := ⟨Nat.zero_le _, fun h => by cases h⟩
theorem Begun1.line {b : List UInt8} (h : Begun1 b) : FineL (if b = [] then [] else [b]) := by
  split
  · exact FineL.nil
  · exact FineL.one h.1 h.2
theorem cutL_fineL {b : List UInt8} (h : Begun1 b) (x : List UInt8) : FineL (cutL b x).1 ∧ (cutL b x).1.length ≤ x.length ∧ ∀ d, (cutL b x).2 = some d → Begun1 d := by
  obtain ⟨h1, h2⟩ := cutL_lines x b h.1
  obtain ⟨h3, h4⟩ := cutL_ten x b h.2
  exact ⟨fun l hl => ⟨h1 l hl, h3 l hl⟩, h2, fun d hd => ⟨cutL_le x b h.1 d hd, h4 d hd⟩⟩
end Go.Proofs.YtpgigpajpcianaaGreatDoor

namespace Go.Proofs.YtpgigpajpcianaaGreatDoor
open Go.RowKit

structure TM (F : Bool) (d : DSt) (rs : List Rn) (Ls : List Lines) : Prop where
  len : rs.length = Ls.length
  reads : ∀ (k : Nat) (r : Rn) (L : Lines), rs[k]? = some r → Ls[k]? = some L → Reads d.T r L
  fine : ∀ L ∈ Ls, FineL L
  sorted : ∀ L ∈ Ls, SortedL F L
  only : Only d (rs.map (·.no))
  there : ∀ no ∈ rs.map (·.no), fileAt d.T no ≠ none
  nodup : (rs.map (·.no)).Nodup
  each : ∀ r ∈ rs, r.at' ≤ 20000 ∧ r.next.length ≤ 64
  n : d.n + lsum Ls ≤ 300000
  T : d.T.length ≤ 64
  t : ∀ t ∈ d.T, t.1.length ≤ 17000
  l3 : rs.length ≤ 3
def hdL : Lines → List UInt8
  | [] => []
  | l :: _ => l
section
variable {S : Script} {F : Bool}
theorem fileAt_mem {T : List (List UInt8 × Bool)} {no : Int} {t : List UInt8} (h : fileAt T no = some t) : (t, true) ∈ T := by
  rcases fileAt_cases T no with ⟨k, t', e, hk, hf⟩ | hf
  · rw [hf] at h; cases h; exact List.mem_of_getElem? hk
  · rw [hf] at h; cases h
theorem read_each {d : DSt} {r : Rn} {L : Lines} (h : Behind d.T r L) (ht : ∀ t ∈ d.T, t.1.length ≤ 17000) (h0 : cntE S d = 0) : (readR S d r).2.1.at' ≤ 20000 ∧ (readR S d r).2.1.next.length ≤ 64 := by
  obtain ⟨k1, -, k3⟩ := behind_read (S := S) h
  obtain ⟨t, pre, h1, h2, h3, h4⟩ := h
  have hl : t.length ≤ 17000 := ht _ (fileAt_mem h1)
  have hat : r.at' ≤ 17000 := by rw [h2, List.length_append] at hl; omega
  have hnx : ((joinL L).take 65).takeWhile (· ≠ 10) = hdL L := by
    cases L with
    | nil => rfl
    | cons l L =>
      have hl := h4 l List.mem_cons_self
      rw [joinSp_cons, take_line hl.1, takeWhile_line hl.2]
      rfl
  have hn64 : (hdL L).length ≤ 64 := by
    cases L with
    | nil => exact Nat.zero_le _
    | cons l L => exact (h4 l List.mem_cons_self).1
  unfold readR
  rw [k1, if_neg (by simpa using h0), k3 h0]
  show r.at' + (((joinL L).take 65).takeWhile (· ≠ 10)).length + 1 ≤ 20000 ∧ (((joinL L).take 65).takeWhile (· ≠ 10)).length ≤ 64
  rw [hnx]
  omega
theorem readAll_each : ∀ (rs : List Rn) (d : DSt) (Ls : List Lines), rs.length = Ls.length → (∀ (k : Nat) (r : Rn) (L : Lines), rs[k]? = some r → Ls[k]? = some L → Behind d.T r L) → (∀ t ∈ d.T, t.1.length ≤ 17000) →
    (readAll S d rs).2.2 = 0 → ∀ r ∈ (readAll S d rs).2.1, r.at' ≤ 20000 ∧ r.next.length ≤ 64
  | [], d, Ls, hl, hr, ht, _ => fun r h => by cases h
  | r :: rs, d, [], hl, hr, ht, _ => by simp at hl
  | r :: rs, d, L :: Ls, hl, hr, ht, he => by
    obtain ⟨a1, a2, a3⟩ := read_on (S := S) (hr 0 r L rfl rfl)
    have e : readAll S d (r :: rs) = if (readR S d r).2.2 ≠ 0 then ((readR S d r).1, r :: rs, (readR S d r).2.2) else ((readAll S (readR S d r).1 rs).1, (readR S d r).2.1 :: (readAll S (readR S d r).1 rs).2.1, (readAll S (readR S d r).1 rs).2.2) := rfl
    rw [e, a1, a2] at he ⊢
    by_cases h0 : cntE S d = 0
    · rw [if_neg (by simpa using h0)] at he ⊢
      intro x hx
      rcases List.mem_cons.1 hx with rfl | hx
      · exact read_each (hr 0 r L rfl rfl) ht h0
      · exact readAll_each rs (cntS S d) Ls (by simpa using hl) (fun k r' M h1 h2 => hr (k + 1) r' M h1 h2) ht he x hx
    · rw [if_pos h0] at he
      exact absurd he h0
theorem tm_step {d : DSt} {rs : List Rn} {Ls : List Lines} (h : TM F d rs Ls) {k : Nat} {l : List UInt8} (hk : leastOf F rs = some (k, l)) :
    ∃ L, Ls[k]? = some (l :: L) ∧ l.length ≤ 64 ∧ (10 : UInt8) ∉ l ∧ (∀ x ∈ (Ls.set k L).flatten, upto F l x) ∧ (readAt S d rs k).1 = cntS S d ∧ (readAt S d rs k).2.2 = cntE S d ∧ (cntE S d = 0 → TM F (cntS S d) (readAt S d rs k).2.1 (Ls.set k L)) := by
  obtain ⟨r, L, h1, h2, h3, h4⟩ := least_head h.len h.reads hk
  obtain ⟨a1, a2, a3⟩ := readAt_on (S := S) h.len h.reads h1 h2 h3
  have hl := h.fine _ (List.mem_of_getElem? h2) l List.mem_cons_self
  have hset : ∀ M ∈ Ls.set k L, M ∈ Ls ∨ M = L := fun M hM => List.mem_or_eq_of_mem_set hM
  have hsort := h.sorted _ (List.mem_of_getElem? h2)
  refine ⟨L, h2, hl.1, hl.2, fun x hx => ?_, a1, a2, fun h0 => ?_⟩
  · obtain ⟨M, hM, hxM⟩ := List.mem_flatten.1 hx
    rcases hset M hM with hM | rfl
    · cases M with
      | nil => cases hxM
      | cons m M' =>
        have hm := h4 _ hM m M' rfl
        rcases List.mem_cons.1 hxM with rfl | hx'
        · exact hm
        · exact upto_trans hm ((List.pairwise_cons.1 (h.sorted _ hM)).1 x hx')
    · exact (List.pairwise_cons.1 hsort).1 x hxM
  · obtain ⟨b1, b2, b3⟩ := a3 h0
    refine ⟨b1, b2, fun M hM => ?_, fun M hM => ?_, ?_, ?_, by rw [b3]; exact h.nodup, fun r' hr' => ?_, ?_, h.T, h.t, ?_⟩
    · rcases hset M hM with hM | rfl
      · exact h.fine M hM
      · exact (h.fine _ (List.mem_of_getElem? h2)).tail
    · rcases hset M hM with hM | rfl
      · exact h.sorted M hM
      · exact (List.pairwise_cons.1 hsort).2
    · rw [b3]; exact h.only
    · rw [b3]; exact h.there
    · have e : (readAt S d rs k).2.1 = rs.set k (readR S d r).2.1 := by unfold readAt; rw [h1]
      rw [e] at hr'
      rcases List.mem_or_eq_of_mem_set hr' with hr' | rfl
      · exact h.each r' hr'
      · exact read_each h3 h.t h0
    · have e1 := (sum_tail h2).1
      have e2 := h.n
      show d.n + 1 + lsum (Ls.set k L) ≤ 300000
      omega
    · have e3 := congrArg List.length b3
      rw [List.length_map, List.length_map] at e3
      rw [e3]; exact h.l3
theorem tm_none {d : DSt} {rs : List Rn} {Ls : List Lines} (h : TM F d rs Ls) (hk : leastOf F rs = none) : Ls.flatten = [] := List.flatten_eq_nil_iff.2 (least_all h.len h.reads hk)
theorem tm_remove {d : DSt} {rs : List Rn} {Ls : List Lines} (h : TM F d rs Ls) : SmallD 300100 17000 (removeAll S d rs).1 ∧ ((removeAll S d rs).2 = 0 ∨ ((removeAll S d rs).2 = 25 ∧ S ≠ [])) ∧ ((removeAll S d rs).2 = 0 → ∀ no, fileAt (removeAll S d rs).1.T no = none) := by
  obtain ⟨a1, a2, a3, a4, a5, a6⟩ := removeAll_is (S := S) rs d (fun r hr => h.there r.no (List.mem_map.2 ⟨r, hr, rfl⟩)) h.nodup
  have hn := h.n
  have hl := h.l3
  refine ⟨⟨by omega, by rw [a2]; exact h.T, a4 17000 h.t⟩, a3, fun h0 no => ?_⟩
  by_cases hm : no ∈ rs.map (·.no)
  · obtain ⟨r, hr, rfl⟩ := List.mem_map.1 hm
    exact a6 h0 r hr
  · rw [a5 no hm]
    cases hf : fileAt d.T no with
    | none => rfl
    | some t => exact absurd (h.only no (by rw [hf]; simp)) hm
theorem wsum_256 : ∀ {Ms : List Lines}, (∀ M ∈ Ms, weightL M ≤ 256) → wsum Ms ≤ 256 * Ms.length
  | [], _ => Nat.le_refl _
  | M :: Ms, h => by
    have h1 := wsum_256 (Ms := Ms) (fun M hM => h M (List.mem_cons_of_mem _ hM))
    have h2 := h M List.mem_cons_self
    unfold wsum at h1 ⊢
    simp only [List.map_cons, List.sum_cons, List.length_cons]
    omega
theorem begin_is {x : SpD} {Ms : List Lines} (h : RdOk F x Ms) (hrs : x.rs ≠ []) :
    SmallD 300100 17000 (beginD S F x).1.d ∧ ((beginD S F x).2 = 0 ∨ (beginD S F x).2 = 17 ∨ ((beginD S F x).2 = 25 ∧ S ≠ [])) ∧
    ((beginD S F x).2 = 0 → (beginD S F x).1.run = [] ∧ ∃ Ls, TM F (beginD S F x).1.d (beginD S F x).1.rs Ls ∧ Ls.flatten.Perm (Ms.flatten ++ x.run) ∧ leastOf F (beginD S F x).1.rs ≠ none) := by
  obtain ⟨s1, s2, s3⟩ := spill_is (S := S) h (h.some hrs)
  unfold beginD
  by_cases h0 : (spillD S F x).2 = 0
  · rw [if_neg (by simpa using h0)]
    obtain ⟨t1, t2, t3, t4, t5, t6, t7⟩ := s3 h0
    generalize spillD S F x = T at *
    have hml := t3.len
    have hw := wsum_256 t7
    have hlw := lsum_le_wsum (Ms ++ [sortL F x.run])
    have h64 := s1.T
    have hn := s1.n
    have hp := passesGo_is (S := S) 4 T.1.d T.1.rs _ t3 t4 s1.T (by show _ ≤ 1000000; omega) (Nat.le_trans (show T.1.rs.length ≤ 243 by omega) (by decide)) (by omega)
    have hpn := hp.n
    have hpB := hp.B 17000 (fun t ht => by have := s1.t t ht; omega) (by omega)
    by_cases h1 : (passesGo S F 4 T.1.d T.1.rs).2.2 = 0
    · rw [if_neg (by simpa using h1)]
      obtain ⟨Ws, p1, p2, p3, p4, p5⟩ := hp.ok h1
      have hpT := hp.T
      generalize passesGo S F 4 T.1.d T.1.rs = P at *
      obtain ⟨r1, r2, r3, r4⟩ := readAll_is (S := S) P.2.1 P.1 Ws p1.len p1.behind
      have hsm : SmallD 300100 17000 (readAll S P.1 P.2.1).1 := ⟨by omega, by rw [r1]; exact hpT, by rw [r1]; exact hpB⟩
      refine ⟨hsm, r3.imp_right .inr, fun h2 => ⟨rfl, Ws, ?_, ?_, ?_⟩⟩
      · obtain ⟨q1, q2, q3⟩ := r4 h2
        have hq3 := congrArg List.length q3
        rw [List.length_map, List.length_map] at hq3
        refine ⟨q1, by show ∀ (k : Nat) (r : Rn) (L : Lines), _ → _ → Reads (readAll S P.1 P.2.1).1.T r L; rw [r1]; exact q2, fun L hL => ?_, fun L hL => ?_, ?_, ?_, ?_, readAll_each P.2.1 P.1 Ws p1.len p1.behind hpB h2, ?_, hsm.T, hsm.t, by show (readAll S P.1 P.2.1).2.1.length ≤ 3; omega⟩
        · obtain ⟨k, hk⟩ := List.mem_iff_getElem?.1 hL
          have hkl : k < P.2.1.length := by rw [p1.len]; exact (List.getElem?_eq_some_iff.1 hk).1
          exact (p1.file k _ L (List.getElem?_eq_getElem hkl) hk).2.2.2.1
        · obtain ⟨k, hk⟩ := List.mem_iff_getElem?.1 hL
          have hkl : k < P.2.1.length := by rw [p1.len]; exact (List.getElem?_eq_some_iff.1 hk).1
          exact (p1.file k _ L (List.getElem?_eq_getElem hkl) hk).2.2.2.2
        · show Only (readAll S P.1 P.2.1).1 ((readAll S P.1 P.2.1).2.1.map (·.no))
          rw [q3]
          intro no hno
          rw [r1] at hno
          exact p4 no hno
        · show ∀ no ∈ (readAll S P.1 P.2.1).2.1.map (·.no), fileAt (readAll S P.1 P.2.1).1.T no ≠ none
          rw [q3, r1]
          intro no hno
          obtain ⟨r, hr, rfl⟩ := List.mem_map.1 hno
          obtain ⟨M, -, -, hf, -⟩ := p1.mem hr
          rw [hf]; simp
        · show ((readAll S P.1 P.2.1).2.1.map (·.no)).Nodup
          rw [q3]; exact p1.nodup
        · have e1 := lsum_perm p3
          show (readAll S P.1 P.2.1).1.n + lsum Ws ≤ 300000
          omega
      · refine p3.trans ?_
        simp only [List.flatten_append, List.flatten_cons, List.flatten_nil, List.append_nil]
        exact (sortL_perm F x.run).append_left _
      · intro e
        obtain ⟨q1, q2, q3⟩ := r4 h2
        have hz := least_all q1 q2 e
        have hne : P.2.1 ≠ [] := p5 (by rw [t2]; simp)
        obtain ⟨r, rs, hr⟩ := List.exists_cons_of_ne_nil hne
        obtain ⟨M, hM, -, -, hMne, -⟩ := p1.mem (r := r) (by rw [hr]; exact List.mem_cons_self)
        exact hMne (hz M hM)
    · rw [if_pos h1]
      exact ⟨⟨by show (passesGo S F 4 T.1.d T.1.rs).1.n ≤ _; omega, hp.T, hpB⟩, hp.e, fun e => absurd e h1⟩
  · rw [if_pos h0]
    exact ⟨s1.mono (by decide) (by decide), s2, fun e => absurd e h0⟩
end

end Go.Proofs.YtpgigpajpcianaaGreatDoor

namespace Go.Proofs.YtpgigpajpcianaaGreatDoor
open Go.RowKit

inductive SpInv (F : Bool) (s : SpS) : Prop
  | dead (h : s.need = -1) (hd : SmallD 300100 17000 s.x.d) (hb : s.b = []) (hr : s.x.run = []) (hrs : s.x.rs = [])
  | reads (h : s.need = 0) (hov : s.ov = false) (hb : Begun1 s.b) (Ms : List Lines) (hok : RdOk F s.x Ms)
  | kept (h : s.need = -2) (hk : s.kept = true) (hb : s.b = []) (hrs : s.x.rs = []) (l : List UInt8) (r : Lines) (hr : s.x.run = l :: r) (hf : FineL s.x.run) (hw : weightL s.x.run ≤ 256) (hsort : SortedL F s.x.run) (hd : SmallD 16700 256 s.x.d) (hno : ∀ no, fileAt s.x.d.T no = none)
  | least (h : s.need = -2) (hk : s.kept = false) (hb : s.b = []) (hr : s.x.run = []) (Ls : List Lines) (ht : TM F s.x.d s.x.rs Ls) (hl : leastOf F s.x.rs ≠ none)
section
variable {S : Script} {F : Bool} {s : SpS}
theorem SpInv.deadD {d : DSt} (raw : Int) (h : SmallD 300100 17000 d) : SpInv F (deadS d raw) := .dead rfl h rfl rfl rfl
theorem SpInv.deadSm {d : DSt} (raw : Int) (h : SmallD 16700 256 d) : SpInv F (deadS d raw) := .deadD raw (h.mono (by decide) (by decide))
theorem SpInv.fresh : SpInv F (freshS dst0) := .reads rfl rfl Begun1.nil [] rdOk_start
theorem RdOk.none {x : SpD} {Ms : List Lines} (h : RdOk F x Ms) (hrs : x.rs = []) : ∀ no, fileAt x.d.T no = none := fun no => by
  cases hf : fileAt x.d.T no with
  | none => rfl
  | some t =>
    have := h.only no (by rw [hf]; simp)
    rw [hrs] at this
    cases this
theorem SpInv.begins {x : SpD} {Ms : List Lines} (s : SpS) (h : RdOk F x Ms) : SpInv F (begins S F s x).1 ∧ ((begins S F s x).2.2 = 0 ∨ (begins S F s x).2.2 = 17 ∨ ((begins S F s x).2.2 = 25 ∧ S ≠ [])) ∧ (begins S F s x).2.1 = [] := by
  unfold Proofs.YtpgigpajpcianaaGreatDoor.begins
  by_cases hrs : x.rs = []
  · rw [if_pos hrs]
    by_cases hr : x.run = []
    · rw [if_pos hr]
      exact ⟨.deadSm _ h.smallD, .inl rfl, rfl⟩
    · rw [if_neg hr]
      refine ⟨?_, .inl rfl, rfl⟩
      have hp := sortL_perm F x.run
      obtain ⟨l, r, hlr⟩ := List.exists_cons_of_ne_nil (show sortL F x.run ≠ [] from fun e => hr (List.nil_perm.1 (e ▸ hp)))
      exact .kept rfl rfl rfl rfl l r hlr (h.fine.perm hp.symm) (by rw [weightL_perm hp]; exact h.wr) (sortL_sorted F _) h.smallD (h.none hrs)
  · rw [if_neg hrs]
    obtain ⟨a1, a2, a3⟩ := begin_is (S := S) h hrs
    by_cases h0 : (beginD S F x).2 = 0
    · rw [if_neg (by simpa using h0)]
      obtain ⟨b1, Ls, b2, b3, b4⟩ := a3 h0
      exact ⟨.least rfl rfl rfl b1 Ls b2 b4, .inl rfl, rfl⟩
    · rw [if_pos h0]
      exact ⟨.deadD _ a1, a2, rfl⟩
theorem SpInv.feed (h : SpInv F s) (hn : s.need = 0) (x : List UInt8) : SpInv F (feedSp S F s x).1 ∧ ((feedSp S F s x).2.2 = 0 ∨ (feedSp S F s x).2.2 = 17 ∨ (feedSp S F s x).2.2 = 20 ∨ ((feedSp S F s x).2.2 = 25 ∧ S ≠ [])) ∧ (feedSp S F s x).2.1 = [] := by
  cases h with
  | dead e => rw [hn] at e; cases e
  | kept e => rw [hn] at e; cases e
  | least e => rw [hn] at e; cases e
  | reads _ hov hb Ms hok =>
    obtain ⟨hf, -, hd⟩ := cutL_fineL hb x
    obtain ⟨a1, a2, a3⟩ := takes_is (S := S) (cutL s.b x).1 s.x Ms hok hf
    unfold feedSp
    by_cases h0 : (takesD S F s.x (cutL s.b x).1).2 = 0
    · rw [if_neg (by simpa using h0)]
      obtain ⟨Ms', b1, -⟩ := a3 h0
      cases hc : (cutL s.b x).2 with
      | none => exact ⟨.deadSm _ a1, .inr (.inr (.inl rfl)), rfl⟩
      | some d => exact ⟨.reads hn hov (hd d hc) Ms' b1, .inl rfl, rfl⟩
    · rw [if_pos h0]
      exact ⟨.deadSm _ a1, by rcases a2 with e | e | e; exact absurd e h0; exact .inr (.inl e); exact .inr (.inr (.inr e)), rfl⟩
theorem SpInv.fin (h : SpInv F s) (hn : s.need = 0) : SpInv F (finSp S F s).1 ∧ ((finSp S F s).2.2 = 0 ∨ (finSp S F s).2.2 = 17 ∨ ((finSp S F s).2.2 = 25 ∧ S ≠ [])) ∧ (finSp S F s).2.1 = [] := by
  cases h with
  | dead e => rw [hn] at e; cases e
  | kept e => rw [hn] at e; cases e
  | least e => rw [hn] at e; cases e
  | reads _ hov hb Ms hok =>
    obtain ⟨a1, a2, a3⟩ := takes_is (S := S) (if s.b = [] then [] else [s.b]) s.x Ms hok hb.line
    unfold finSp
    by_cases h0 : (takesD S F s.x (if s.b = [] then [] else [s.b])).2 = 0
    · rw [if_neg (by simpa using h0)]
      obtain ⟨Ms', b1, -⟩ := a3 h0
      exact SpInv.begins s b1
    · rw [if_pos h0]
      exact ⟨.deadSm _ a1, a2, rfl⟩
theorem SpInv.tell {Ls : List Lines} (ht : TM F s.x.d s.x.rs Ls) (h : s.need = -2) (hk : s.kept = false) (hb : s.b = []) (hr : s.x.run = []) {k : Nat} {l : List UInt8} (hl : leastOf F s.x.rs = some (k, l)) :
    SpInv F (tellD S F s k l).1 ∧ ((tellD S F s k l).2.2 = 0 ∨ ((tellD S F s k l).2.2 = 25 ∧ S ≠ [])) ∧ (tellD S F s k l).2.1 = [(0, l ++ [10])] ∧ l.length ≤ 64 := by
  obtain ⟨L, a1, a2, -, -, a3, a4, a5⟩ := tm_step (S := S) ht hl
  have hn := ht.n
  have hlsum := (sum_tail a1).1
  unfold tellD
  rw [a4, a3]
  by_cases h0 : cntE S s.x.d = 0
  · rw [if_neg (by simpa using h0)]
    have hm := a5 h0
    cases hls : leastOf F (readAt S s.x.d s.x.rs k).2.1 with
    | some p =>
      simp only [Option.isSome_some, if_true]
      exact ⟨.least h hk hb hr _ hm (by rw [hls]; simp), .inl trivial, trivial, a2⟩
    | none =>
      simp only [Option.isSome_none, Bool.false_eq_true, if_false]
      obtain ⟨b1, b2, -⟩ := tm_remove (S := S) hm
      by_cases h1 : (removeAll S (cntS S s.x.d) (readAt S s.x.d s.x.rs k).2.1).2 = 0
      · rw [if_neg (by simpa using h1)]
        exact ⟨.deadD _ b1, .inl rfl, rfl, a2⟩
      · rw [if_pos h1]
        exact ⟨.deadD _ b1, by rcases b2 with e | e; exact absurd e h1; exact .inr e, rfl, a2⟩
  · rw [if_pos h0]
    refine ⟨.deadD _ ⟨by show s.x.d.n + 1 ≤ _; omega, ht.T, ht.t⟩, .inr (err25 h0), rfl, a2⟩
theorem SpInv.more (h : SpInv F s) (hn : s.need = -2) : SpInv F (moreSp S F s).1 ∧ ((moreSp S F s).2.2 = 0 ∨ ((moreSp S F s).2.2 = 25 ∧ S ≠ [])) ∧ ∃ l, l.length ≤ 64 ∧ (moreSp S F s).2.1 = [(0, l ++ [10])] := by
  cases h with
  | dead e => rw [hn] at e; cases e
  | reads e => rw [hn] at e; cases e
  | kept h hk hb hrs l r hr hf hw hsort hd hno =>
    unfold moreSp
    rw [if_pos hk, hr]
    refine ⟨?_, .inl rfl, l, (hf l (by rw [hr]; exact List.mem_cons_self)).1, rfl⟩
    show SpInv F (if r = [] then deadS s.x.d s.raw else ⟨s.need, s.b, s.ov, s.kept, ⟨s.x.d, r, s.x.rs⟩, s.raw⟩)
    rw [hr] at hf hw hsort
    by_cases h0 : r = []
    · rw [if_pos h0]
      exact .deadSm _ hd
    · rw [if_neg h0]
      obtain ⟨l', r', e⟩ := List.exists_cons_of_ne_nil h0
      rw [weightL_cons] at hw
      exact .kept h hk hb hrs l' r' e hf.tail (by show weightL r ≤ 256; omega) (List.pairwise_cons.1 hsort).2 hd hno
  | least h hk hb hr Ls ht hl =>
    unfold moreSp
    rw [if_neg (by rw [hk]; decide)]
    cases hls : leastOf F s.x.rs with
    | none => exact absurd hls hl
    | some p =>
      obtain ⟨k, l⟩ := p
      obtain ⟨a1, a2, a3, a4⟩ := SpInv.tell (S := S) ht h hk hb hr hls
      exact ⟨a1, a2, l, a4, a3⟩
theorem SpInv.held (h : SpInv F s) : heldSp s ≤ 320 := by
  have hsum : ∀ L : Lines, (L.map List.length).sum ≤ weightL L := fun L => by
    induction L with
    | nil => exact Nat.le_refl _
    | cons l L ih => rw [weightL_cons]; simp only [List.map_cons, List.sum_cons]; omega
  unfold heldSp
  cases h with
  | dead h hd hb hr hrs => rw [hb, hr, hrs]; simp [nextSum]
  | reads h hov hb Ms hok =>
    have h1 := hsum s.x.run
    have h2 := hok.wr
    have h3 := hb.1
    have h4 : nextSum s.x.rs = 0 := by
      have : ∀ r ∈ s.x.rs, r.next = [] := fun r hr => by obtain ⟨M, -, e, -⟩ := hok.ok.mem hr; rw [e]; rfl
      unfold nextSum
      generalize s.x.rs = rs at this
      induction rs with
      | nil => rfl
      | cons r rs ih =>
        simp only [List.map_cons, List.sum_cons]
        rw [this r List.mem_cons_self, ih (fun r hr => this r (List.mem_cons_of_mem _ hr))]
        rfl
    omega
  | kept h hk hb hrs l r hr hf hw =>
    have h1 := hsum s.x.run
    rw [hb, hrs]
    simp only [nextSum, List.length_nil, List.map_nil, List.sum_nil]
    omega
  | least h hk hb hr Ls ht =>
    have h4 : ∀ rs : List Rn, (∀ r ∈ rs, r.at' ≤ 20000 ∧ r.next.length ≤ 64) → nextSum rs ≤ 64 * rs.length := fun rs => by
      induction rs with
      | nil => intro _; exact Nat.le_refl _
      | cons r rs ih =>
        intro h
        have i1 := ih (fun r hr => h r (List.mem_cons_of_mem _ hr))
        have i2 := (h r List.mem_cons_self).2
        unfold nextSum at i1 ⊢
        simp only [List.map_cons, List.sum_cons, List.length_cons]
        omega
    have h5 := h4 s.x.rs ht.each
    have h6 := ht.l3
    rw [hb, hr]
    simp only [List.length_nil, List.map_nil, List.sum_nil]
    omega
theorem SpInv.needs (h : SpInv F s) : s.need = -1 ∨ s.need = -2 ∨ s.need = 0 := by
  cases h with
  | dead h => exact .inl h
  | reads h => exact .inr (.inr h)
  | kept h => exact .inr (.inl h)
  | least h => exact .inr (.inl h)
theorem SpInv.small (h : SpInv F s) : SmallD 300100 17000 s.x.d := by
  cases h with
  | dead h hd => exact hd
  | reads h hov hb Ms hok => exact hok.smallD.mono (by decide) (by decide)
  | kept h hk hb hrs l r hr hf hw hsort hd => exact hd.mono (by decide) (by decide)
  | least h hk hb hr Ls ht => exact ⟨by have := ht.n; omega, ht.T, ht.t⟩
theorem SpInv.sizes (h : SpInv F s) : s.x.run.length ≤ 1000 ∧ (∀ l ∈ s.x.run, l.length ≤ 64) ∧ s.x.rs.length ≤ 1000 ∧ ∀ r ∈ s.x.rs, r.next.length ≤ 64 := by
  cases h with
  | dead h hd hb hr hrs => rw [hr, hrs]; exact ⟨Nat.zero_le _, (fun l h => by cases h), Nat.zero_le _, (fun l h => by cases h)⟩
  | reads h hov hb Ms hok =>
    have h1 := weightL_length s.x.run
    have h2 := hok.wr
    have h3 := hok.T
    have h4 := hok.T64
    exact ⟨by omega, fun l hl => (hok.fine l hl).1, by omega, fun r hr => by obtain ⟨M, -, e, -⟩ := hok.ok.mem hr; rw [e]; exact Nat.zero_le _⟩
  | kept h hk hb hrs l r hr hf hw =>
    have h1 := weightL_length s.x.run
    rw [hrs]
    exact ⟨by omega, fun l hl => (hf l hl).1, Nat.zero_le _, (fun l h => by cases h)⟩
  | least h hk hb hr Ls ht =>
    have := ht.l3
    rw [hr]
    exact ⟨Nat.zero_le _, (fun l h => by cases h), by omega, fun r hr => (ht.each r hr).2⟩
end

end Go.Proofs.YtpgigpajpcianaaGreatDoor

namespace Go.Proofs.YtpgigpajpcianaaGreatDoor
open Go.RowKit

section
variable {S : Type} (M : Mach S)
theorem drive_more_s (ins : List Strm) (cuts : List Int) : ∀ (K f n : Nat) (x : DS S), x.got.need = M.need x.s → K ≤ f → Done M (moreAll M K (x.s, [], x.got.err)) → (drive M ins cuts f n x).s = (moreAll M K (x.s, [], x.got.err)).1
  | 0, f, n, x, hn, hf, hd => by
    rw [drive_stop M ins cuts f n x (by rcases hd with h | h; exact fun k => k.2 (by rw [hn]; exact h); exact fun k => h k.1)]
    rfl
  | K + 1, f, n, x, hn, hf, hd => by
    rw [moreAll] at hd ⊢
    by_cases h : x.got.err = 0 ∧ M.need x.s = -2
    · rw [if_pos h] at hd ⊢
      obtain ⟨f, rfl⟩ : ∃ f', f = f' + 1 := ⟨f - 1, by omega⟩
      rw [drive, if_pos ⟨h.1, by rw [hn, h.2]; decide⟩]
      have hs : step M ins cuts n x = some (after M x (M.more x.s)) := by rw [step, if_pos (by rw [hn]; exact h.2)]
      rw [hs]
      simp only [List.nil_append] at hd ⊢
      have hacc := moreAll_acc M K (M.more x.s).1 (M.more x.s).2.1 [] (M.more x.s).2.2
      rw [List.append_nil] at hacc
      rw [hacc] at hd ⊢
      exact drive_more_s ins cuts K f (n + 1) (after M x (M.more x.s)) rfl (by omega) hd
    · rw [if_neg h] at hd ⊢
      rw [drive_stop M ins cuts f n x (by rcases hd with h | h; exact fun k => k.2 (by rw [hn]; exact h); exact fun k => h k.1)]
theorem drive_one_s (hO : One M) (i : Strm) (cuts : List Int) (K : Nat) : ∀ (f n : Nat) (x : DS S), x.got.need = M.need x.s → M.need x.s = 0 → x.got.err = 0 → x.got.taken 0 ≤ i.bytes.length → x.told 0 = false → i.bytes.length - x.got.taken 0 + 2 + K ≤ f →
    (i.ended = true → Done M (finalM M K x.s (i.bytes.drop (x.got.taken 0)) true)) → (drive M [i] cuts f n x).s = (finalM M K x.s (i.bytes.drop (x.got.taken 0)) i.ended).1 := by
  intro f
  induction f with
  | zero => intro n x _ _ _ _ _ h; omega
  | succ f ih =>
    intro n x hn hz he ht ho hf hd
    have hn0 : x.got.need = 0 := by rw [hn, hz]
    have hk : x.got.need.toNat = 0 := by rw [hn0]; rfl
    rw [drive, if_pos ⟨he, by rw [hn0]; decide⟩]
    by_cases hlt : x.got.taken 0 < i.bytes.length
    · have hs : step M [i] cuts n x = some (after M (took x 0 (toAt cuts x n 0 i.bytes)) (M.feed x.s (chunkAt cuts x n 0 i.bytes))) := by
        rw [step, if_neg (by rw [hn0]; decide), hk]
        simp only [List.getElem?_cons_zero]
        rw [if_pos hlt]
      rw [hs]
      simp only
      have hc := cutAt_le cuts n
      have hq1 : x.got.taken 0 < toAt cuts x n 0 i.bytes := by unfold toAt; omega
      have hq2 : toAt cuts x n 0 i.bytes ≤ i.bytes.length := by unfold toAt; omega
      have hch : chunkAt cuts x n 0 i.bytes = (i.bytes.take (toAt cuts x n 0 i.bytes)).drop (x.got.taken 0) := rfl
      generalize toAt cuts x n 0 i.bytes = q at hq1 hq2 hch ⊢
      generalize chunkAt cuts x n 0 i.bytes = ch at hch ⊢
      have hsplit : i.bytes.drop (x.got.taken 0) = ch ++ i.bytes.drop q := by
        rw [hch]
        have h1 := List.take_append_drop q i.bytes
        have h2 := congrArg (List.drop (x.got.taken 0)) h1
        rw [List.drop_append_of_le_length (by simp; omega)] at h2
        exact h2.symm
      rw [hsplit] at hd ⊢
      by_cases h1 : M.need (M.feed x.s ch).1 = 0 ∧ (M.feed x.s ch).2.2 = 0
      · rw [finalM_app M hO K x.s ch _ i.ended hz h1]
        have hd' : i.ended = true → Done M (finalM M K (M.feed x.s ch).1 (i.bytes.drop q) true) := by
          intro h
          have := hd h
          rw [finalM_app M hO K x.s ch _ true hz h1] at this
          exact this
        exact ih (n + 1) (after M (took x 0 q) (M.feed x.s ch)) rfl h1.1 h1.2 (by show q ≤ i.bytes.length; exact hq2) ho (by show i.bytes.length - q + 2 + K ≤ f; omega) hd'
      · rw [finalM_stop M hO K x.s ch _ i.ended hz h1]
        rw [drive_stop _ _ _ _ _ _ (by
          intro k
          have k1 : (M.feed x.s ch).2.2 = 0 := k.1
          have k2 : M.need (M.feed x.s ch).1 ≠ -1 := k.2
          rcases hO.fed x.s ch hz with h | h
          · exact h1 ⟨h, k1⟩
          · exact k2 h)]
        rfl
    · have hdr : i.bytes.drop (x.got.taken 0) = [] := List.drop_of_length_le (by omega)
      rw [hdr] at hd ⊢
      by_cases hend : i.ended = true
      · have hs : step M [i] cuts n x = some (after M (tells x 0) (M.fin x.s)) := by
          rw [step, if_neg (by rw [hn0]; decide), hk]
          simp only [List.getElem?_cons_zero]
          rw [if_neg hlt, if_pos ⟨hend, ho⟩]
        rw [hs, hend]
        simp only
        have hd := hd hend
        rw [(finalM_nil M hO K x.s hz).1] at hd ⊢
        have hacc := moreAll_acc M K (M.fin x.s).1 (M.fin x.s).2.1 [] (M.fin x.s).2.2
        rw [List.append_nil] at hacc
        rw [show M.fin x.s = ((M.fin x.s).1, (M.fin x.s).2.1, (M.fin x.s).2.2) from rfl, hacc] at hd ⊢
        exact drive_more_s M [i] cuts K f (n + 1) (after M (tells x 0) (M.fin x.s)) rfl (by omega) hd
      · have hs : step M [i] cuts n x = none := by
          rw [step, if_neg (by rw [hn0]; decide), hk]
          simp only [List.getElem?_cons_zero]
          rw [if_neg hlt, if_neg (fun h => hend h.1)]
        rw [hs]
        simp only
        have hf : i.ended = false := by simpa using hend
        rw [hf, (finalM_nil M hO K x.s hz).2]
theorem moreAll_stop (K : Nat) (r : S × Outs × Int) (h : r.2.2 ≠ 0 ∨ M.need r.1 ≠ -2) : moreAll M K r = r := by
  cases K with
  | zero => rfl
  | succ K =>
    rw [moreAll, if_neg]
    rintro ⟨h1, h2⟩
    rcases h with h | h
    · exact h h1
    · exact h h2
end

section
variable (S : Script) (F : Bool)
def tellGo : Nat → DSt → List Rn → DSt × Lines × Int
  | 0, d, _ => (d, [], 0)
  | f + 1, d, rs => match leastOf F rs with
    | none => (d, [], 0)
    | some (k, l) => if (readAt S d rs k).2.2 ≠ 0 then ((readAt S d rs k).1, [l], (readAt S d rs k).2.2)
      else ((tellGo f (readAt S d rs k).1 (readAt S d rs k).2.1).1, l :: (tellGo f (readAt S d rs k).1 (readAt S d rs k).2.1).2.1, (tellGo f (readAt S d rs k).1 (readAt S d rs k).2.1).2.2)
def mergeT (f : Nat) (d : DSt) (rs : List Rn) : DSt × Lines × Int :=
  if (tellGo S F f d rs).2.2 ≠ 0 then tellGo S F f d rs
  else ((removeAll S (tellGo S F f d rs).1 rs).1, (tellGo S F f d rs).2.1, (removeAll S (tellGo S F f d rs).1 rs).2)
def fuelT : Nat := 20000
def endD (x : SpD) : DSt × Lines × Int :=
  if x.rs = [] then (x.d, sortL F x.run, 0)
  else if (beginD S F x).2 ≠ 0 then ((beginD S F x).1.d, [], (beginD S F x).2)
  else mergeT S F fuelT (beginD S F x).1.d (beginD S F x).1.rs
structure SpFin where
  d : DSt
  told : Lines
  need : Int
  err : Int
  raw : Int
def spOut (i : Strm) : SpFin :=
  if (takesD S F (x0 dst0) (readL i.bytes i.ended (i.code, i.stage, i.id)).1).2 ≠ 0 then ⟨(takesD S F (x0 dst0) (readL i.bytes i.ended (i.code, i.stage, i.id)).1).1.d, [], -1, (takesD S F (x0 dst0) (readL i.bytes i.ended (i.code, i.stage, i.id)).1).2, if (takesD S F (x0 dst0) (readL i.bytes i.ended (i.code, i.stage, i.id)).1).2 = 25 then (takesD S F (x0 dst0) (readL i.bytes i.ended (i.code, i.stage, i.id)).1).1.d.id else 0⟩
  else if (readL i.bytes i.ended (i.code, i.stage, i.id)).2.1 = true then ⟨(endD S F (takesD S F (x0 dst0) (readL i.bytes i.ended (i.code, i.stage, i.id)).1).1).1, (endD S F (takesD S F (x0 dst0) (readL i.bytes i.ended (i.code, i.stage, i.id)).1).1).2.1, -1, (endD S F (takesD S F (x0 dst0) (readL i.bytes i.ended (i.code, i.stage, i.id)).1).1).2.2, if (endD S F (takesD S F (x0 dst0) (readL i.bytes i.ended (i.code, i.stage, i.id)).1).1).2.2 = 25 then (endD S F (takesD S F (x0 dst0) (readL i.bytes i.ended (i.code, i.stage, i.id)).1).1).1.id else 0⟩
  else if (cutL [] i.bytes).2 = none then ⟨(takesD S F (x0 dst0) (readL i.bytes i.ended (i.code, i.stage, i.id)).1).1.d, [], -1, 20, 0⟩
  else ⟨(takesD S F (x0 dst0) (readL i.bytes i.ended (i.code, i.stage, i.id)).1).1.d, [], 0, 0, 0⟩
def outsL (L : Lines) : Outs := L.map fun l => (0, l ++ [10])
end
section
variable {S : Script} {F : Bool}
theorem removeAll_nos : ∀ (rs rs' : List Rn) (d : DSt), rs.map (·.no) = rs'.map (·.no) → removeAll S d rs = removeAll S d rs'
  | [], [], d, _ => rfl
  | [], _ :: _, d, h => by cases h
  | _ :: _, [], d, h => by cases h
  | r :: rs, r' :: rs', d, h => by
    simp only [List.map_cons, List.cons.injEq] at h
    have e : ∀ (r : Rn) (rs : List Rn), removeAll S d (r :: rs) = if removeE S d r.no ≠ 0 then (removeS S d r.no, removeE S d r.no) else removeAll S (removeS S d r.no) rs := fun _ _ => rfl
    rw [e, e, h.1, removeAll_nos rs rs' _ h.2]
theorem readAt_nos (d : DSt) (rs : List Rn) (k : Nat) : (readAt S d rs k).2.1.map (·.no) = rs.map (·.no) := by
  unfold readAt
  cases h : rs[k]? with
  | none => rfl
  | some r =>
    have hr : (readR S d r).2.1.no = r.no := by unfold readR; split <;> rfl
    show (rs.set k (readR S d r).2.1).map (·.no) = rs.map (·.no)
    apply List.ext_getElem?
    intro j
    rw [List.getElem?_map, List.getElem?_map]
    by_cases hj : j = k
    · subst hj
      rw [List.getElem?_set_self (List.getElem?_eq_some_iff.1 h).1, h]
      simp [hr]
    · rw [List.getElem?_set_ne (fun e => hj e.symm)]
theorem tellGo_succ (f : Nat) (d : DSt) (rs : List Rn) {k : Nat} {l : List UInt8} (hl : leastOf F rs = some (k, l)) : tellGo S F (f + 1) d rs = if (readAt S d rs k).2.2 ≠ 0 then ((readAt S d rs k).1, [l], (readAt S d rs k).2.2)
      else ((tellGo S F f (readAt S d rs k).1 (readAt S d rs k).2.1).1, l :: (tellGo S F f (readAt S d rs k).1 (readAt S d rs k).2.1).2.1, (tellGo S F f (readAt S d rs k).1 (readAt S d rs k).2.1).2.2) := by
  rw [tellGo, hl]
theorem tellGo_none (f : Nat) (d : DSt) (rs : List Rn) (hl : leastOf F rs = none) : tellGo S F f d rs = (d, [], 0) := by
  cases f with
  | zero => rfl
  | succ f => rw [tellGo, hl]
theorem mergeT_none (f : Nat) (d : DSt) (rs : List Rn) (hl : leastOf F rs = none) : mergeT S F f d rs = ((removeAll S d rs).1, [], (removeAll S d rs).2) := by
  unfold mergeT
  rw [tellGo_none f d rs hl]
  rfl
theorem mergeT_succ (f : Nat) (d : DSt) (rs : List Rn) {k : Nat} {l : List UInt8} (hl : leastOf F rs = some (k, l)) : mergeT S F (f + 1) d rs = if (readAt S d rs k).2.2 ≠ 0 then ((readAt S d rs k).1, [l], (readAt S d rs k).2.2)
      else ((mergeT S F f (readAt S d rs k).1 (readAt S d rs k).2.1).1, l :: (mergeT S F f (readAt S d rs k).1 (readAt S d rs k).2.1).2.1, (mergeT S F f (readAt S d rs k).1 (readAt S d rs k).2.1).2.2) := by
  unfold mergeT
  rw [tellGo_succ f d rs hl, removeAll_nos _ _ _ (readAt_nos (S := S) d rs k)]
  by_cases h0 : (readAt S d rs k).2.2 = 0
  · simp only [h0, ne_eq, not_true_eq_false, if_false]
    generalize tellGo S F f (readAt S d rs k).1 (readAt S d rs k).2.1 = Q
    by_cases h1 : Q.2.2 = 0
    · simp [h1]
    · simp [h1]
  · simp [h0]
theorem mergeT_is : ∀ (f : Nat) (d : DSt) (rs : List Rn) (Ls : List Lines), TM F d rs Ls → lsum Ls ≤ f →
    SmallD 300100 17000 (mergeT S F f d rs).1 ∧ ((mergeT S F f d rs).2.2 = 0 ∨ ((mergeT S F f d rs).2.2 = 25 ∧ S ≠ [])) ∧ FineL (mergeT S F f d rs).2.1 ∧ (mergeT S F f d rs).2.1.length ≤ lsum Ls ∧
    ((mergeT S F f d rs).2.2 = 0 → (mergeT S F f d rs).2.1.Perm Ls.flatten ∧ SortedL F (mergeT S F f d rs).2.1 ∧ ∀ no, fileAt (mergeT S F f d rs).1.T no = none) := by
  intro f
  induction f with
  | zero =>
    intro d rs Ls h hf
    have hz : Ls.flatten = [] := by
      have := lsum_flat Ls
      exact List.eq_nil_of_length_eq_zero (by omega)
    have hln : leastOf F rs = none := by
      cases hl : leastOf F rs with
      | none => rfl
      | some p =>
        obtain ⟨k, l⟩ := p
        obtain ⟨L, a1, -⟩ := tm_step (S := S) h hl
        have := (sum_tail a1).1
        omega
    rw [mergeT_none 0 d rs hln]
    obtain ⟨b1, b2, b3⟩ := tm_remove (S := S) h
    exact ⟨b1, b2, FineL.nil, Nat.zero_le _, fun h0 => ⟨by rw [hz], List.Pairwise.nil, b3 h0⟩⟩
  | succ f ih =>
    intro d rs Ls h hf
    cases hl : leastOf F rs with
    | none =>
      rw [mergeT_none _ d rs hl]
      obtain ⟨b1, b2, b3⟩ := tm_remove (S := S) h
      exact ⟨b1, b2, FineL.nil, Nat.zero_le _, fun h0 => ⟨by rw [tm_none h hl], List.Pairwise.nil, b3 h0⟩⟩
    | some p =>
      obtain ⟨k, l⟩ := p
      obtain ⟨L, a1, a2, a2', a6, a3, a4, a5⟩ := tm_step (S := S) h hl
      have hls := (sum_tail a1).1
      rw [mergeT_succ f d rs hl, a4, a3]
      by_cases h0 : cntE S d = 0
      · rw [if_neg (by simpa using h0)]
        obtain ⟨i1, i2, i3, i4, i5⟩ := ih _ _ _ (a5 h0) (by omega)
        refine ⟨i1, i2, fun x hx => ?_, by simp only [List.length_cons]; omega, fun he => ?_⟩
        · rcases List.mem_cons.1 hx with rfl | hx
          · exact ⟨a2, a2'⟩
          · exact i3 x hx
        · obtain ⟨j1, j2, j3⟩ := i5 he
          refine ⟨(j1.cons l).trans (flat_tail a1), List.pairwise_cons.2 ⟨fun x hx => a6 x (j1.mem_iff.1 hx), j2⟩, j3⟩
      · rw [if_pos h0]
        have hn := h.n
        exact ⟨⟨by show d.n + 1 ≤ _; omega, h.T, h.t⟩, .inr (err25 h0), FineL.one a2 a2', by simp only [List.length_cons, List.length_nil]; omega, fun he => absurd he h0⟩
theorem more_least : ∀ (f K : Nat) (s : SpS) (Ls : List Lines), TM F s.x.d s.x.rs Ls → s.need = -2 → s.kept = false → leastOf F s.x.rs ≠ none → lsum Ls ≤ f → lsum Ls ≤ K →
    moreAll (spMach S F) K (s, [], 0) = (deadS (mergeT S F f s.x.d s.x.rs).1 (if (mergeT S F f s.x.d s.x.rs).2.2 = 25 then (mergeT S F f s.x.d s.x.rs).1.id else s.raw), outsL (mergeT S F f s.x.d s.x.rs).2.1, (mergeT S F f s.x.d s.x.rs).2.2) := by
  intro f
  induction f with
  | zero =>
    intro K s Ls h hn hk hl hf _
    cases hls : leastOf F s.x.rs with
    | none => exact absurd hls hl
    | some p =>
      obtain ⟨k, l⟩ := p
      obtain ⟨L, a1, -⟩ := tm_step (S := S) h hls
      have := (sum_tail a1).1
      omega
  | succ f ih =>
    intro K s Ls h hn hk hl hf hK
    cases hls : leastOf F s.x.rs with
    | none => exact absurd hls hl
    | some p =>
      obtain ⟨k, l⟩ := p
      obtain ⟨L, a1, a2, a2', a6, a3, a4, a5⟩ := tm_step (S := S) h hls
      have hlsum := (sum_tail a1).1
      obtain ⟨K, rfl⟩ : ∃ K', K = K' + 1 := ⟨K - 1, by omega⟩
      have hm : (spMach S F).more s = tellD S F s k l := by
        show moreSp S F s = _
        unfold moreSp
        rw [if_neg (by rw [hk]; decide), hls]
      rw [moreAll, if_pos ⟨rfl, hn⟩, hm, mergeT_succ f _ _ hls, List.nil_append]
      unfold tellD
      rw [a4, a3]
      by_cases h0 : cntE S s.x.d = 0
      · simp only [h0, ne_eq, not_true_eq_false, if_false]
        have hm2 := a5 h0
        cases hls2 : leastOf F (readAt S s.x.d s.x.rs k).2.1 with
        | some p =>
          simp only [Option.isSome_some, if_true]
          have hacc := moreAll_acc (spMach S F) K ⟨s.need, s.b, s.ov, s.kept, ⟨cntS S s.x.d, s.x.run, (readAt S s.x.d s.x.rs k).2.1⟩, s.raw⟩ [(0, l ++ [10])] [] 0
          rw [List.append_nil] at hacc
          rw [hacc, ih K ⟨s.need, s.b, s.ov, s.kept, ⟨cntS S s.x.d, s.x.run, (readAt S s.x.d s.x.rs k).2.1⟩, s.raw⟩ _ hm2 hn hk (by rw [hls2]; simp) (by omega) (by omega)]
          rfl
        | none =>
          simp only [Option.isSome_none, Bool.false_eq_true, if_false]
          rw [mergeT_none f _ _ hls2]
          by_cases h1 : (removeAll S (cntS S s.x.d) (readAt S s.x.d s.x.rs k).2.1).2 = 0
          · rw [if_neg (by simpa using h1), moreAll_stop _ _ _ (.inr (by show (-1 : Int) ≠ -2; decide)), h1]
            rfl
          · rw [if_pos h1, moreAll_stop _ _ _ (.inl h1)]
            rfl
      · simp only [h0, ne_eq, not_false_eq_true, if_true]
        rw [moreAll_stop _ _ _ (.inl h0)]
        rfl
theorem more_kept : ∀ (L : Lines) (K : Nat) (s : SpS), s.x.run = L → L ≠ [] → s.need = -2 → s.kept = true → L.length ≤ K → moreAll (spMach S F) K (s, [], 0) = (deadS s.x.d s.raw, outsL L, 0)
  | [], K, s, _, h, _, _, _ => absurd rfl h
  | l :: r, K, s, hr, _, hn, hk, hK => by
    obtain ⟨K, rfl⟩ : ∃ K', K = K' + 1 := ⟨K - 1, by simp at hK; omega⟩
    have hm : (spMach S F).more s = (if r = [] then deadS s.x.d s.raw else ⟨s.need, s.b, s.ov, s.kept, ⟨s.x.d, r, s.x.rs⟩, s.raw⟩, [(0, l ++ [10])], 0) := by
      show moreSp S F s = _
      unfold moreSp
      rw [if_pos hk, hr]
    rw [moreAll, if_pos ⟨rfl, hn⟩, hm, List.nil_append]
    by_cases h0 : r = []
    · subst h0
      rw [if_pos rfl, moreAll_stop _ _ _ (.inr (by show (-1 : Int) ≠ -2; decide))]
      rfl
    · rw [if_neg h0]
      have hacc := moreAll_acc (spMach S F) K ⟨s.need, s.b, s.ov, s.kept, ⟨s.x.d, r, s.x.rs⟩, s.raw⟩ [(0, l ++ [10])] [] 0
      rw [List.append_nil] at hacc
      rw [hacc, more_kept r K ⟨s.need, s.b, s.ov, s.kept, ⟨s.x.d, r, s.x.rs⟩, s.raw⟩ rfl h0 hn hk (by simp at hK; omega)]
      rfl
theorem more_begins {x : SpD} {Ms : List Lines} (s : SpS) (h : RdOk F x Ms) : moreAll (spMach S F) fuelT (begins S F s x) = (deadS (endD S F x).1 (if (endD S F x).2.2 = 25 then (endD S F x).1.id else s.raw), outsL (endD S F x).2.1, (endD S F x).2.2) := by
  unfold begins endD
  by_cases hrs : x.rs = []
  · rw [if_pos hrs, if_pos hrs]
    by_cases hr : x.run = []
    · rw [if_pos hr, hr, moreAll_stop _ _ _ (.inr (by show (-1 : Int) ≠ -2; decide))]
      rfl
    · rw [if_neg hr]
      have hp := sortL_perm F x.run
      have h1 := weightL_length x.run
      have h2 := h.wr
      rw [more_kept (S := S) (F := F) (sortL F x.run) fuelT _ rfl (fun e => hr (List.nil_perm.1 (e ▸ hp))) rfl rfl (by rw [sortL_length]; unfold fuelT; omega)]
      rfl
  · rw [if_neg hrs, if_neg hrs]
    obtain ⟨a1, a2, a3⟩ := begin_is (S := S) h hrs
    by_cases h0 : (beginD S F x).2 = 0
    · rw [if_neg (by simpa using h0), if_neg (by simpa using h0)]
      obtain ⟨b1, Ls, b2, b3, b4⟩ := a3 h0
      have hls : lsum Ls ≤ fuelT := by
        have e1 := lsum_flat Ls
        have e2 := b3.length_eq
        have e3 := lsum_flat Ms
        have e4 := lsum_le_wsum Ms
        have e5 := wsum_256 h.w
        have e6 := h.ok.len
        have e7 := h.T
        have e8 := h.T64
        have e9 := weightL_length x.run
        have e10 := h.wr
        rw [List.length_append] at e2
        unfold fuelT
        omega
      rw [more_least fuelT fuelT ⟨-2, [], true, false, (beginD S F x).1, s.raw⟩ Ls b2 rfl rfl b4 hls hls]
    · rw [if_pos h0, if_pos h0, moreAll_stop _ _ _ (.inl h0)]
      rfl
theorem endD_is {x : SpD} {Ms : List Lines} (h : RdOk F x Ms) : SmallD 300100 17000 (endD S F x).1 ∧ ((endD S F x).2.2 = 0 ∨ (endD S F x).2.2 = 17 ∨ ((endD S F x).2.2 = 25 ∧ S ≠ [])) ∧ FineL (endD S F x).2.1 ∧
    ((endD S F x).2.2 = 0 → (endD S F x).2.1.Perm (Ms.flatten ++ x.run) ∧ SortedL F (endD S F x).2.1 ∧ ∀ no, fileAt (endD S F x).1.T no = none) := by
  unfold endD
  by_cases hrs : x.rs = []
  · rw [if_pos hrs]
    have hM : Ms = [] := by
      have := h.ok.len
      rw [hrs] at this
      exact List.eq_nil_of_length_eq_zero this.symm
    subst hM
    exact ⟨h.smallD.mono (by decide) (by decide), .inl rfl, h.fine.perm (sortL_perm F x.run).symm, fun _ => ⟨by simpa using sortL_perm F x.run, sortL_sorted F _, h.none hrs⟩⟩
  · rw [if_neg hrs]
    obtain ⟨a1, a2, a3⟩ := begin_is (S := S) h hrs
    by_cases h0 : (beginD S F x).2 = 0
    · rw [if_neg (by simpa using h0)]
      obtain ⟨b1, Ls, b2, b3, b4⟩ := a3 h0
      have hls : lsum Ls ≤ fuelT := by
        have e1 := lsum_flat Ls
        have e2 := b3.length_eq
        have e3 := lsum_flat Ms
        have e4 := lsum_le_wsum Ms
        have e5 := wsum_256 h.w
        have e6 := h.ok.len
        have e7 := h.T
        have e8 := h.T64
        have e9 := weightL_length x.run
        have e10 := h.wr
        rw [List.length_append] at e2
        unfold fuelT
        omega
      obtain ⟨c1, c2, c3, c4, c5⟩ := mergeT_is (S := S) fuelT _ _ Ls b2 hls
      exact ⟨c1, c2.imp_right .inr, c3, fun he => by obtain ⟨d1, d2, d3⟩ := c5 he; exact ⟨d1.trans b3, d2, d3⟩⟩
    · rw [if_pos h0]
      exact ⟨a1, a2, FineL.nil, fun e => absurd e h0⟩
theorem sp_one : One (spMach S F) where
  nil s h := rfl
  app s x y h := by
    show feedSp S F s (x ++ y) = if (feedSp S F s x).1.need = 0 ∧ (feedSp S F s x).2.2 = 0 then ((feedSp S F (feedSp S F s x).1 y).1, (feedSp S F s x).2.1 ++ (feedSp S F (feedSp S F s x).1 y).2.1, (feedSp S F (feedSp S F s x).1 y).2.2) else feedSp S F s x
    have hn : s.need = 0 := h
    unfold feedSp
    rw [cutL_append x y s.b]
    rcases cutL s.b x with ⟨L, _ | d⟩
    · by_cases h0 : (takesD S F s.x L).2 = 0
      · simp only [h0, ne_eq, not_true_eq_false, if_false]
        rw [if_neg (by rintro ⟨h1, -⟩; cases h1)]
      · rw [if_pos h0, if_neg (by rintro ⟨-, h1⟩; exact h0 h1)]
    · simp only
      rw [takesD_append]
      by_cases h0 : (takesD S F s.x L).2 = 0
      · simp only [h0, ne_eq, not_true_eq_false, if_false]
        simp only [hn, and_self, if_true, List.nil_append]
        rfl
      · simp only [h0, ne_eq, not_false_eq_true, if_true, and_false, if_false]
  fed s x h := by
    show (feedSp S F s x).1.need = 0 ∨ (feedSp S F s x).1.need = -1
    have hn : s.need = 0 := h
    unfold feedSp
    split
    · exact .inr rfl
    · split
      · exact .inr rfl
      · exact .inl hn
end

end Go.Proofs.YtpgigpajpcianaaGreatDoor

namespace Go.Proofs.YtpgigpajpcianaaGreatDoor
open Go.RowKit

section
variable (S : Script) (F : Bool)
theorem readL_fineL (x : List UInt8) (ended : Bool) (er : Int × Int × Int) : FineL (readL x ended er).1 := fun l hl => ⟨(readL_lines x ended er).1 l hl, readL_ten x ended er l hl⟩
theorem finalM_feed {S : Type} (M : Mach S) (K : Nat) (s : S) (x : List UInt8) (e : Bool) {r : S × Outs × Int} (hr : M.feed s x = r) (h : M.need r.1 ≠ 0 ∨ r.2.2 ≠ 0 ∨ e = false) : finalM M K s x e = r := by
  unfold finalM
  rw [hr, if_neg]
  rintro ⟨h1, h2, h3⟩
  rcases h with h | h | h
  · exact h h1
  · exact h h2
  · rw [h] at h3; cases h3
theorem finalM_fin {S : Type} (M : Mach S) (K : Nat) (s : S) (x : List UInt8) {s1 : S} (hr : M.feed s x = (s1, [], 0)) (h : M.need s1 = 0) : finalM M K s x true = moreAll M K (M.fin s1) := by
  unfold finalM
  rw [hr, if_pos ⟨h, rfl, rfl⟩]
  simp
theorem feed_all (x : List UInt8) {L : Lines} {o : Option (List UInt8)} (hc : cutL [] x = (L, o)) :
    ((takesD S F (x0 dst0) L).2 ≠ 0 → (spMach S F).feed (freshS dst0) x = (deadS (takesD S F (x0 dst0) L).1.d (if (takesD S F (x0 dst0) L).2 = 25 then (takesD S F (x0 dst0) L).1.d.id else 0), [], (takesD S F (x0 dst0) L).2)) ∧
    ((takesD S F (x0 dst0) L).2 = 0 → o = none → (spMach S F).feed (freshS dst0) x = (deadS (takesD S F (x0 dst0) L).1.d 0, [], 20)) ∧
    ((takesD S F (x0 dst0) L).2 = 0 → ∀ d, o = some d → (spMach S F).feed (freshS dst0) x = (⟨0, d, false, true, (takesD S F (x0 dst0) L).1, 0⟩, [], 0)) := by
  have e : (spMach S F).feed (freshS dst0) x = if (takesD S F (x0 dst0) (cutL [] x).1).2 ≠ 0 then (failS (freshS dst0) (takesD S F (x0 dst0) (cutL [] x).1).1.d (takesD S F (x0 dst0) (cutL [] x).1).2, [], (takesD S F (x0 dst0) (cutL [] x).1).2)
    else match (cutL [] x).2 with
    | none => (deadS (takesD S F (x0 dst0) (cutL [] x).1).1.d 0, [], 20)
    | some d => (⟨0, d, false, true, (takesD S F (x0 dst0) (cutL [] x).1).1, 0⟩, [], 0) := rfl
  rw [hc] at e
  rw [e]
  refine ⟨fun h => ?_, fun h ho => ?_, fun h d ho => ?_⟩
  · rw [if_pos h]; rfl
  · rw [if_neg (by simpa using h), ho]
  · rw [if_neg (by simpa using h), ho]
theorem spOut_fail (i : Strm) {r : Lines × Bool × (Int × Int × Int)} (hr : readL i.bytes i.ended (i.code, i.stage, i.id) = r) (h : (takesD S F (x0 dst0) r.1).2 ≠ 0) : spOut S F i = ⟨(takesD S F (x0 dst0) r.1).1.d, [], -1, (takesD S F (x0 dst0) r.1).2, if (takesD S F (x0 dst0) r.1).2 = 25 then (takesD S F (x0 dst0) r.1).1.d.id else 0⟩ := by
  subst hr
  unfold spOut
  rw [if_pos h]
theorem spOut_end (i : Strm) {r : Lines × Bool × (Int × Int × Int)} (hr : readL i.bytes i.ended (i.code, i.stage, i.id) = r) (h : (takesD S F (x0 dst0) r.1).2 = 0) (h2 : r.2.1 = true) : spOut S F i = ⟨(endD S F (takesD S F (x0 dst0) r.1).1).1, (endD S F (takesD S F (x0 dst0) r.1).1).2.1, -1, (endD S F (takesD S F (x0 dst0) r.1).1).2.2, if (endD S F (takesD S F (x0 dst0) r.1).1).2.2 = 25 then (endD S F (takesD S F (x0 dst0) r.1).1).1.id else 0⟩ := by
  subst hr
  unfold spOut
  rw [if_neg (by simpa using h), if_pos h2]
theorem spOut_long (i : Strm) {r : Lines × Bool × (Int × Int × Int)} (hr : readL i.bytes i.ended (i.code, i.stage, i.id) = r) (h : (takesD S F (x0 dst0) r.1).2 = 0) (h2 : r.2.1 = false) (h3 : (cutL [] i.bytes).2 = none) : spOut S F i = ⟨(takesD S F (x0 dst0) r.1).1.d, [], -1, 20, 0⟩ := by
  subst hr
  unfold spOut
  rw [if_neg (by simpa using h), if_neg (by rw [h2]; decide), if_pos h3]
theorem spOut_open (i : Strm) {r : Lines × Bool × (Int × Int × Int)} (hr : readL i.bytes i.ended (i.code, i.stage, i.id) = r) (h : (takesD S F (x0 dst0) r.1).2 = 0) (h2 : r.2.1 = false) (h3 : (cutL [] i.bytes).2 ≠ none) : spOut S F i = ⟨(takesD S F (x0 dst0) r.1).1.d, [], 0, 0, 0⟩ := by
  subst hr
  unfold spOut
  rw [if_neg (by simpa using h), if_neg (by rw [h2]; decide), if_neg h3]
def rdOf (i : Strm) (L : Lines) : Option (List UInt8) → Lines × Bool × (Int × Int × Int)
  | none => (L, false, (20, -1, 0))
  | some d => if i.ended then (L ++ (if d = [] then [] else [d]), true, (0, 0, 0)) else (L, false, (i.code, i.stage, i.id))
theorem readL_is (i : Strm) {L : Lines} {o : Option (List UInt8)} (hc : cutL [] i.bytes = (L, o)) : readL i.bytes i.ended (i.code, i.stage, i.id) = rdOf i L o := by
  have e : readL i.bytes i.ended (i.code, i.stage, i.id) = rdOf i (cutL [] i.bytes).1 (cutL [] i.bytes).2 := by
    unfold readL
    rcases cutL [] i.bytes with ⟨L, _ | d⟩ <;> rfl
  rw [e, hc]
theorem sp_final (i : Strm) : ∃ s', finalM (spMach S F) fuelT (freshS dst0) i.bytes i.ended = (s', outsL (spOut S F i).told, (spOut S F i).err) ∧ s'.need = (spOut S F i).need ∧ s'.x.d = (spOut S F i).d ∧ s'.raw = (spOut S F i).raw := by
  have hfine := readL_fineL i.bytes i.ended (i.code, i.stage, i.id)
  have htk := takes_is (S := S) (readL i.bytes i.ended (i.code, i.stage, i.id)).1 (x0 dst0) [] (rdOk_start (F := F)) hfine
  rcases hc : cutL [] i.bytes with ⟨L, o⟩
  have hrd := readL_is i hc
  obtain ⟨f1, f2, f3⟩ := feed_all S F i.bytes hc
  by_cases h0 : (takesD S F (x0 dst0) L).2 = 0
  · cases o with
    | none =>
      have hs := spOut_long S F i hrd h0 rfl (by rw [hc])
      rw [hs, finalM_feed _ _ _ _ _ (f2 h0 rfl) (.inl (by show (-1 : Int) ≠ 0; decide))]
      exact ⟨_, rfl, rfl, rfl, rfl⟩
    | some d =>
      cases he : i.ended with
      | false =>
        have hr2 : readL i.bytes i.ended (i.code, i.stage, i.id) = (L, false, (i.code, i.stage, i.id)) := by rw [hrd]; unfold rdOf; rw [he]; rfl
        have hs := spOut_open S F i hr2 h0 rfl (by rw [hc]; simp)
        rw [hs, finalM_feed _ _ _ _ _ (f3 h0 d rfl) (.inr (.inr rfl))]
        exact ⟨_, rfl, rfl, rfl, rfl⟩
      | true =>
        obtain ⟨E, hE⟩ : ∃ E : Lines, E = if d = [] then [] else [d] := ⟨_, rfl⟩
        have hr2 : readL i.bytes i.ended (i.code, i.stage, i.id) = (L ++ E, true, (0, 0, 0)) := by rw [hrd]; unfold rdOf; rw [he, hE]; rfl
        rw [hr2] at htk
        obtain ⟨-, -, ht⟩ := htk
        have happ := takesD_append (S := S) (F := F) L E (x0 dst0)
        rw [if_neg (show ¬ (takesD S F (x0 dst0) L).2 ≠ 0 by simpa using h0)] at happ
        rw [finalM_fin _ _ _ _ (f3 h0 d rfl) rfl]
        have hfin : (spMach S F).fin ⟨0, d, false, true, (takesD S F (x0 dst0) L).1, 0⟩ = if (takesD S F (takesD S F (x0 dst0) L).1 E).2 ≠ 0 then (failS ⟨0, d, false, true, (takesD S F (x0 dst0) L).1, 0⟩ (takesD S F (takesD S F (x0 dst0) L).1 E).1.d (takesD S F (takesD S F (x0 dst0) L).1 E).2, [], (takesD S F (takesD S F (x0 dst0) L).1 E).2)
          else begins S F ⟨0, d, false, true, (takesD S F (x0 dst0) L).1, 0⟩ (takesD S F (takesD S F (x0 dst0) L).1 E).1 := by rw [hE]; rfl
        rw [hfin, ← happ]
        by_cases h1 : (takesD S F (x0 dst0) (L ++ E)).2 = 0
        · have hs := spOut_end S F i hr2 h1 rfl
          rw [hs, if_neg (show ¬ (takesD S F (x0 dst0) (L ++ E)).2 ≠ 0 by simpa using h1)]
          obtain ⟨Ms, hok, -⟩ := ht h1
          rw [more_begins (S := S) ⟨0, d, false, true, (takesD S F (x0 dst0) L).1, 0⟩ hok]
          exact ⟨_, rfl, rfl, rfl, rfl⟩
        · have hs := spOut_fail S F i hr2 h1
          rw [hs, if_pos h1, moreAll_stop _ _ _ (.inl h1)]
          exact ⟨_, rfl, rfl, rfl, rfl⟩
  · have hr1 : ∃ M b er, readL i.bytes i.ended (i.code, i.stage, i.id) = (L ++ M, b, er) := by
      rw [hrd]
      cases o with
      | none => exact ⟨[], _, _, by rw [List.append_nil]; rfl⟩
      | some d =>
        unfold rdOf
        cases i.ended with
        | false => exact ⟨[], _, _, by rw [List.append_nil]; rfl⟩
        | true => exact ⟨_, _, _, rfl⟩
    obtain ⟨M, b, er, hr2⟩ := hr1
    have happ := takesD_append (S := S) (F := F) L M (x0 dst0)
    rw [if_pos h0] at happ
    have hs := spOut_fail S F i hr2 (by simp only [happ]; exact h0)
    simp only [happ] at hs
    rw [hs, finalM_feed _ _ _ _ _ (f1 h0) (.inr (.inl h0))]
    exact ⟨_, rfl, rfl, rfl, rfl⟩
theorem spOut_ended (i : Strm) (h : i.ended = true) : (spOut S F i).need = -1 := by
  unfold spOut
  split
  · rfl
  · split
    · rfl
    · split
      · rfl
      · rename_i h1 h2
        exfalso
        rcases hc : cutL [] i.bytes with ⟨L, o⟩
        have hrd := readL_is i hc
        cases o with
        | none => rw [hc] at h2; exact h2 rfl
        | some d =>
          rw [hrd] at h1
          unfold rdOf at h1
          rw [h] at h1
          exact h1 rfl
structure SortDrive (i : Strm) (D : DS SpS) : Prop where
  out0 : D.got.outs 0 = joinL (spOut S F i).told
  out : ∀ j, j ≠ 0 → D.got.outs j = []
  err : D.got.err = (spOut S F i).err
  need : D.got.need = (spOut S F i).need
  d : D.s.x.d = (spOut S F i).d
  raw : D.s.raw = (spOut S F i).raw
theorem sort_drive (i : Strm) (cuts : List Int) (hl : i.bytes.length ≤ 5000) : SortDrive S F i (drive (spMach S F) [i] cuts 100000 0 (start (spMach S F) (freshS dst0))) := by
  obtain ⟨s', k1, k2, k3, k4⟩ := sp_final S F i
  have hd : i.ended = true → Done (spMach S F) (finalM (spMach S F) fuelT (freshS dst0) (i.bytes.drop 0) true) := fun he => by
    rw [List.drop_zero]
    rw [he] at k1
    rw [k1]
    exact .inl (k2.trans (spOut_ended S F i he))
  have h1 := drive_one (spMach S F) sp_one i cuts fuelT 100000 0 (start (spMach S F) (freshS dst0)) rfl rfl rfl (Nat.zero_le _) rfl (by show i.bytes.length - 0 + 2 + 20000 ≤ 100000; omega) hd
  have h2 := drive_one_s (spMach S F) sp_one i cuts fuelT 100000 0 (start (spMach S F) (freshS dst0)) rfl rfl rfl (Nat.zero_le _) rfl (by show i.bytes.length - 0 + 2 + 20000 ≤ 100000; omega) hd
  rw [show (start (spMach S F) (freshS dst0)).s = freshS dst0 from rfl, show (start (spMach S F) (freshS dst0)).got.taken 0 = 0 from rfl, List.drop_zero, k1] at h1 h2
  obtain ⟨a1, a2, a3⟩ := h1
  obtain ⟨p1, p2⟩ := putOuts_lines (spOut S F i).told (fun _ => [])
  refine ⟨?_, fun j hj => ?_, a2, a3.trans k2, by rw [h2]; exact k3, by rw [h2]; exact k4⟩
  · rw [a1]
    exact p1
  · rw [a1]
    exact p2 j hj
end
def exSp : Strm := ⟨[98, 10, 97, 10, 99, 10, 97], true, 0, 0, 0⟩
theorem sort_ex : joinL (spOut [] false exSp).told = [97, 10, 97, 10, 98, 10, 99, 10] ∧ (spOut [] false exSp).need = -1 ∧ (spOut [] false exSp).err = 0 ∧ (spOut [] false exSp).d = dst0 := ⟨by kernel_rfl, by kernel_rfl, by kernel_rfl, by kernel_rfl⟩
end Go.Proofs.YtpgigpajpcianaaGreatDoor
