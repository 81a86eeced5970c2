/- The document's pass, plainly. No conditions. -/
import Derived.Test.YtpgigpajpcianaaGreatDoorZSdB
import Derived.Test.YtpgigpajpcianaaGreatDoorZSpD
import Derived.Deep.QuietTactic
import Derived.Deep.Onto
import Derived.Deep.LoopGhost
namespace Go.Proofs.YtpgigpajpcianaaGreatDoor
open Go.RowKit

section
variable {S : Script} {F : Bool}
theorem readAll_nos' : ∀ (L : List Rn) (s : DSt), (readAll S s L).2.1.map (·.no) = L.map (·.no)
  | [], s => rfl
  | x :: L, s => by
    rw [readAll_cons]
    split
    · rfl
    · have hx : (readR S s x).2.1.no = x.no := by unfold readR; split <;> rfl
      simp only [List.map_cons]
      rw [hx, readAll_nos' L]
theorem chunk_ok {d : DSt} {done : List Rn} {Md Ms : List Lines} {c : List Rn} {cs : List Rn} (h : RunsOk F d (done ++ (c ++ cs)) (Md ++ Ms)) (hd : done.length = Md.length) : RunsOk F d c (Ms.take c.length) := by
  have h1 := h.right
  rw [hd, List.drop_left] at h1
  exact h1.left
theorem mergeR_doc (d : DSt) (t : List UInt8) (nos : List Int) (h : nos.length ≠ 1) (hc : createE S d = 0) (hn : 0 < createN S d) :
    (docM S F (createN S d) fuelM (createS S d) t nos).2.1 = t ∧ mergeR S F d (nos.map fresh) = ((docM S F (createN S d) fuelM (createS S d) t nos).1, if (docM S F (createN S d) fuelM (createS S d) t nos).2.2 ≠ 0 then none else some (fresh (createN S d)), (docM S F (createN S d) fuelM (createS S d) t nos).2.2) := by
  rw [mergeR_many d (nos.map fresh) (by rw [List.length_map]; exact h), if_neg (by rw [hc]; decide)]
  unfold docM
  rw [goA_merge hn]
  by_cases h1 : (readAll S (createS S d) (nos.map fresh)).2.2 ≠ 0
  · rw [if_pos h1, if_pos h1]
    exact ⟨rfl, by rw [if_pos h1]⟩
  · rw [if_neg h1, if_neg h1]
    by_cases h2 : (mergeGo S F (createN S d) fuelM (readAll S (createS S d) (nos.map fresh)).1 (readAll S (createS S d) (nos.map fresh)).2.1).2.2 ≠ 0
    · rw [if_pos h2, if_pos h2]
      exact ⟨rfl, by rw [if_pos h2]⟩
    · rw [if_neg h2, if_neg h2]
      refine ⟨rfl, ?_⟩
      by_cases h3 : (removeAll S (mergeGo S F (createN S d) fuelM (readAll S (createS S d) (nos.map fresh)).1 (readAll S (createS S d) (nos.map fresh)).2.1).1 (nos.map fresh)).2 ≠ 0
      · rw [if_pos h3, if_pos h3]
      · rw [if_neg h3, if_neg h3, Classical.not_not.1 h3]
theorem docM_iv {d : DSt} {nos : List Int} {Ms : List Lines} {t : List UInt8} (h : RunsOk F d (nos.map fresh) Ms) (hc : createE S d = 0) (hn : d.n ≤ 400000) (hT : d.T.length ≤ 64) (ht : ∀ y ∈ d.T, y.1.length ≤ 17000) (hw : wsum Ms ≤ 17000) (h3 : nos.length ≤ 3) (htl : t.length ≤ 2000000) :
    SmallD 800000 900000 (createS S d) ∧ 0 < createN S d ∧ ((readAll S (createS S d) (nos.map fresh)).2.2 = 0 → ∃ gh, IvFile (createN S d) gh (readAll S (createS S d) (nos.map fresh)).1 t (readAll S (createS S d) (nos.map fresh)).2.1 ∧ gh < fuelM) := by
  rcases create_is S d with ⟨c1, c2, c3, c4⟩ | ⟨c1, -⟩ | ⟨c1, -⟩
  · have hcB : ∀ x ∈ (createS S d).T, x.1.length ≤ 17000 := fun x hx => by
      rw [c2] at hx
      rcases List.mem_append.1 hx with hx | hx
      · exact ht x hx
      · rw [List.mem_singleton.1 hx]; exact Nat.zero_le _
    have hcn : (createS S d).n = d.n + 1 := by rw [c2]; rfl
    have hcl : (createS S d).T.length = d.T.length + 1 := by rw [c2]; simp
    refine ⟨⟨by omega, by omega, fun x hx => by have := hcB x hx; omega⟩, by rw [c3]; omega, fun h0 => ?_⟩
    have hms := merge_ms h hc h0
    obtain ⟨r1, r2⟩ := readAll_stays (S := S) (nos.map fresh) (createS S d)
    have hl := lsum_le_wsum Ms
    rw [List.length_map] at r2
    have e3 := congrArg List.length (readAll_nos' (S := S) (nos.map fresh) (createS S d))
    rw [List.length_map, List.length_map, List.length_map] at e3
    exact ⟨lsum Ms, ⟨Ms, [], hms, rfl, by omega, by rw [r1]; omega, fun y hy => by rw [r1] at hy; have := hcB y hy; omega, by simp; omega, by omega, htl⟩, by show _ < 1000000; omega⟩
  · rw [c1] at hc; cases hc
  · rw [c1] at hc; cases hc
structure PassPl (F : Bool) (S : Script) (rs : List Rn) (Q : DSt × List Rn × Int) (k : Nat) (d' : DSt) (MR : List Rn) (Md Ms : List Lines) : Prop where
  ok : RunsOk F d' (MR ++ rs.drop (3 * k)) (Md ++ Ms)
  okl : MR.length = Md.length
  cnt : MR.length = k
  only : Only d' ((MR ++ rs.drop (3 * k)).map (·.no))
  n : d'.n + 7 * (chunks3 (rs.drop (3 * k))).length + 2 * lsum Ms ≤ 300000
  T : d'.T.length ≤ 64
  t : ∀ t ∈ d'.T, t.1.length ≤ 17000
  w17 : wsum Ms ≤ 17000
  is : Q = ((passGo S F d' (chunks3 (rs.drop (3 * k)))).1, MR ++ (passGo S F d' (chunks3 (rs.drop (3 * k)))).2.1, (passGo S F d' (chunks3 (rs.drop (3 * k)))).2.2)
theorem PassPl.start {d : DSt} {rs : List Rn} {Ms : List Lines} (hok : PassOk F d rs Ms) : PassPl F S rs (passGo S F d (chunks3 rs)) 0 d [] [] Ms := by
  have hcl := (chunks3_len rs.length rs (Nat.le_refl _)).1
  have hll := lsum_le_wsum Ms
  exact ⟨by simpa using hok.ok, rfl, rfl, by simpa using hok.only, by have := hok.n; have := hok.w; have := hok.len; simp only [Nat.mul_zero, List.drop_zero]; omega, hok.T, hok.t, hok.w, by simp⟩
theorem PassPl.done {rs : List Rn} {Q : DSt × List Rn × Int} {k : Nat} {d' : DSt} {MR : List Rn} {Md Ms : List Lines} (h : PassPl F S rs Q k d' MR Md Ms) (hk : rs.length ≤ 3 * k) : Q = (d', MR, 0) := by
  rw [h.is, List.drop_eq_nil_of_le hk]
  show (d', MR ++ [], (0 : Int)) = _
  rw [List.append_nil]
theorem PassPl.step {rs : List Rn} {Q : DSt × List Rn × Int} {k : Nat} {d' : DSt} {MR : List Rn} {Md Ms : List Lines} (h : PassPl F S rs Q k d' MR Md Ms) (hk : 3 * k < rs.length) {q1 : DSt × Option Rn × Int} (hq1 : q1 = mergeR S F d' ((rs.drop (3 * k)).take 3)) :
    (q1.2.2 ≠ 0 → Q.1 = q1.1 ∧ Q.2.2 = q1.2.2) ∧ (q1.2.2 = 0 → ∃ r Md' Ms', q1.2.1 = some r ∧ PassPl F S rs Q (k + 1) q1.1 (MR ++ [r]) Md' Ms') := by
  have hcd : rs.drop (3 * k) = (rs.drop (3 * k)).take 3 ++ (chunks3 (rs.drop (3 * (k + 1)))).flatten := by
    rw [chunks3_flat _ _ (Nat.le_refl _), show 3 * (k + 1) = 3 * k + 3 by omega, ← List.drop_drop, List.take_append_drop]
  have hch := (chunks3_drop 0 (rs.drop (3 * k)) (by simp; omega)).1
  simp only [List.drop_zero, Nat.mul_zero, Nat.zero_add, Nat.mul_one, List.drop_drop, Nat.add_zero] at hch
  rw [show 3 * k + 3 = 3 * (k + 1) by omega] at hch
  have hok := h.ok
  have hon := h.only
  rw [hcd] at hok hon
  have hlw := lsum_le_wsum Ms
  have hw17 := h.w17
  have hcne : (rs.drop (3 * k)).take 3 ≠ [] := fun e => by have := congrArg List.length e; simp at this; omega
  obtain ⟨hmr, hmo⟩ := chunk_is (S := S) hok h.okl hon h.T hcne (by show _ ≤ 1000000; omega)
  rw [← hq1] at hmr hmo
  have his := h.is
  rw [hch, passGo_cons, ← hq1] at his
  refine ⟨fun h0 => ?_, fun hm0 => ?_⟩
  · rw [if_pos h0] at his
    rw [his]
    exact ⟨rfl, rfl⟩
  · obtain ⟨r, Wl, n1, n2, n3, n4⟩ := hmo hm0
    have hls := lsum_append (Ms.take ((rs.drop (3 * k)).take 3).length) (Ms.drop ((rs.drop (3 * k)).take 3).length)
    have hws := wsum_append (Ms.take ((rs.drop (3 * k)).take 3).length) (Ms.drop ((rs.drop (3 * k)).take 3).length)
    rw [List.take_append_drop] at hls hws
    have hfl := chunks3_flat _ (rs.drop (3 * (k + 1))) (Nat.le_refl _)
    rw [hfl] at n3 n4
    have hnn := hmr.n
    have hcl3 : ((rs.drop (3 * k)).take 3).length ≤ 3 := by simp; omega
    have hn := h.n
    rw [hch, List.length_cons] at hn
    rw [if_neg (by rw [hm0]; simp), n1] at his
    exact ⟨r, Md ++ [Wl], Ms.drop ((rs.drop (3 * k)).take 3).length, n1, n3, by simp [h.okl], by simp [h.cnt], n4, by omega, hmr.T, hmr.B 17000 h.t (by omega), by omega, by rw [his]; simp⟩
theorem runs_fresh {d : DSt} {rs : List Rn} {Ms : List Lines} (h : RunsOk F d rs Ms) : (rs.map (·.no)).map fresh = rs := by
  rw [List.map_map]
  refine (List.map_congr_left fun r hr => ?_).trans (List.map_id rs)
  obtain ⟨M, -, e, -⟩ := h.mem hr
  exact e.symm
theorem mergeR_one' (d : DSt) {c : List Rn} (h : c.length = 1) : ∃ r, c = [r] ∧ mergeR S F d c = (d, some r, 0) := by
  obtain ⟨r, rfl⟩ := List.length_eq_one_iff.1 h
  exact ⟨r, rfl, mergeR_one d r⟩
theorem mergeR_create (d : DSt) {c : List Rn} (h : c.length ≠ 1) (he : createE S d ≠ 0) : mergeR S F d c = (createS S d, none, createE S d) := by
  rw [mergeR_many d c h, if_pos he]
end

end Go.Proofs.YtpgigpajpcianaaGreatDoor

namespace Go.Proofs.YtpgigpajpcianaaGreatDoor
open Go.RowKit

structure PassDoc (base q r : Nat) (ownR : Nat → Nat) (S : Script) (F : Bool) (run : Lines) (nos : List Int) (told : List UInt8) (uv nv : Value) (w : World) (rs : List Rn) (Q : DSt × List Rn × Int) (k : Nat) (d' : DSt) (MR : List Rn) (Md Ms : List Lines) (own' : Nat → Nat) (nx : Value) (wr : World) : Prop where
  pl : PassPl F S rs Q k d' MR Md Ms
  doc : DocAt base q r own' S F d' run nos told uv nv wr
  old : ∀ k, k < w.heap.size → own' k = ownR k
  fr : Frame (fun k => ownR k ≠ 0 ∨ k = q) w wr
  row : wr.ownsRow w.heap.size 3 1 nx (MR.map (·.no)).length ((MR.map (·.no)).map (Value.int .i64))
  free : ∀ k, nx.ownBlock = some k → own' k = 0 ∧ k ≠ q
def PassTo (base q r : Nat) (own : Nat → Prop) (S : Script) (F : Bool) (run : Lines) (told : List UInt8) (w : World) (Q : DSt × List Rn × Int) (e : Ending) (w' : World) : Prop :=
  e = .returned (.int .i64 Q.2.2) ∧ ∃ nos', DocLeft base q r own S F Q.1 run nos' told w w' ∧ (Q.2.2 = 0 → nos' = Q.2.1.map (·.no))
theorem PassDoc.below {base q r : Nat} {ownR : Nat → Nat} {S : Script} {F : Bool} {run : Lines} {nos : List Int} {told : List UInt8} {uv nv : Value} {w : World} {rs : List Rn} {Q : DSt × List Rn × Int} {k : Nat} {d' : DSt} {MR : List Rn} {Md Ms : List Lines} {own' : Nat → Nat} {nx : Value} {wr W : World}
    (h : PassDoc base q r ownR S F run nos told uv nv w rs Q k d' MR Md Ms own' nx wr) (hb : Below wr.heap.size wr W) : PassDoc base q r ownR S F run nos told uv nv w rs Q k d' MR Md Ms own' nx W :=
  ⟨h.pl, h.doc.below hb, h.old, h.fr.trans (Below.toFrame hb _), (Below.toFrame hb (fun _ => False)).owns h.row (fun _ _ e => e), h.free⟩
theorem doc_grown {s0 : DSt} {base q r : Nat} {ownR own2 : Nat → Nat} {S : Script} {F : Bool} {d2 : DSt} {run : Lines} {nos : List Int} {told : List UInt8} {uv nv : Value} {w W w2 : World} {nx nv2 : Value} {o : Obj}
    (H : DocAt base q r ownR S F s0 run nos told uv nv w) (hd : DocAt base q r own2 S F d2 run nos told uv nv W) (hfr : Frame (fun k => ownR k ≠ 0 ∨ k = q) w W) (hfree : ∀ k, nx.ownBlock = some k → own2 k = 0 ∧ k ≠ q ∧ w.heap.size ≤ k) (hg : (W.alloc o).grownBy w2 nx.ownBlock) (hl : ∀ k, nv2.ownBlock = some k → nx.ownBlock = some k ∨ W.heap.size ≤ k) :
    DocAt base q r own2 S F d2 run nos told uv nv w2 ∧ Frame (fun k => ownR k ≠ 0 ∨ k = q) w w2 ∧ ∀ k, nv2.ownBlock = some k → own2 k = 0 ∧ k ≠ q := by
  have hf : Frame (fun k => nx.ownBlock = some k) W w2 := ((Frame.refl _ W).alloc o).grown hg (fun k _ e => e)
  refine ⟨hd.frame hf (fun k hk e => ?_) (fun k hk => ?_), hfr.then hf (fun k hk e => ?_), fun k hk => ?_⟩
  · obtain ⟨h1, h2, h3⟩ := hfree k hk
    rcases e with e | e | e | e
    · exact e h1
    · exact h2 e
    · have := (H.run.lt k e).2; omega
    · have := (H.nos.lt k e).2; omega
  · have := (hfree k hk).2.2; have := H.lt; have := H.low; omega
  · have := (hfree k e).2.2; omega
  · rcases hl k hk with e | e
    · exact ⟨(hfree k e).1, (hfree k e).2.1⟩
    · have h1 := hd.lt
      exact ⟨Classical.byContradiction fun h0 => by have := (hd.disk.bnd k h0).2; omega, by omega⟩
theorem ints_chunk {base : Nat} {W : World} {g nc : Nat} {nos : List Int} (h : W.ownsRow base 3 1 (.slice (some ⟨g, 0, none⟩) nos.length nc) nos.length (nos.map (Value.int .i64))) (i : Nat) {m : Nat} (hm : m = min 3 (nos.length - i)) : IsInts (· = g) W (.slice (some ⟨g, i, none⟩) m (nc - i)) ((nos.drop i).take 3) := by
  have hl : ((nos.drop i).take 3).length = m := by rw [List.length_take, List.length_drop, hm]
  refine ⟨some ⟨g, i, none⟩, nc - i, by rw [hl], fun j c hj => ⟨g, i, rfl, rfl, ?_⟩⟩
  rw [List.getElem?_take] at hj
  split at hj
  · rw [List.getElem?_drop] at hj
    have := World.ownsRow.cells h (g := g) rfl (i + j) (.int .i64 c) (by rw [List.getElem?_map, hj]; rfl)
    rwa [Addr.add_mid, Nat.zero_add] at this
  · cases hj
section
variable {base q r : Nat} {ownR : Nat → Nat} {S : Script} {F : Bool} {s : DSt} {run : Lines} {nos : List Int} {told : List UInt8} {uv nv : Value} {w : World} {rs : List Rn} {Ms : List Lines}
set_option maxRecDepth 100000 in
set_option maxHeartbeats 8000000 in
theorem docPass_any (h : DocAt base q r ownR S F s run nos told uv nv w) (hnos : nos = rs.map (·.no)) (hok : PassOk F s rs Ms) (hS : S.length ≤ 1000000) (htl : told.length ≤ 2000000) :
    Calls Tryz.prog 66 #[.pointer (some ⟨q, 0, none⟩)] w (PassTo base q r (ownDoc ownR q uv nv) S F run told w (passGo S F s (chunks3 rs))) := by
  have hpl := PassPl.start (S := S) hok
  obtain ⟨Q, hQ⟩ : ∃ Q, Q = passGo S F s (chunks3 rs) := ⟨_, rfl⟩
  rw [← hQ] at hpl ⊢
  have hl64 : nos.length ≤ 64 := by rw [hnos, List.length_map]; exact hok.len
  have hrl : rs.length = nos.length := by rw [hnos, List.length_map]
  obtain ⟨na, nc, rfl⟩ := owns_slice h.nos
  have H := Lib.hid h
  have HNos := Lib.hid hnos
  have HSl := Lib.hid hS
  have HTl := Lib.hid htl
  have HL64 := Lib.hid hl64
  have HRl := Lib.hid hrl
  have HFr := Lib.hid (runs_fresh hok.ok)
  have HPl := Lib.hid hpl
  obtain ⟨i3, hi3, y0, y1, y2⟩ := info_parts Tryz.info3b
  have I3 := Lib.hid hi3
  have Y0 := Lib.hid y0
  have Y1 := Lib.hid y1
  have Y2 := Lib.hid y2
  clear h hnos hok hS htl hl64 hrl hQ hpl hi3 y0 y1 y2
  go_enter Tryz.func66, Tryz.ntmps66
  go_wp2_with fail
  go_loopw [3, 4] (fun nx iv wr => ∃ (k i : Nat), iv = .int .i64 i ∧ i = 3 * k ∧ i ≤ nos.length + 2 ∧ RowKit.Hid (∃ d' MR Md Ms own', PassDoc base q r ownR S F run nos told uv (.slice na nos.length nc) w rs Q k d' MR Md Ms own' nx wr)) (fun _ iv _ => nos.length + 3 - (intOf iv).toNat)
  case atStart => exact ⟨0, 0, rfl, rfl, Nat.zero_le _, Lib.hid ⟨s, [], [], Ms, ownR, HPl.out, H.out, fun _ _ => rfl, Frame.refl _ _, World.ownsRow_nil w w.heap.size 3 1, fun k hk => by cases hk⟩⟩
  case round =>
    obtain ⟨k, i, rfl, hik, hk3, HI⟩ := hrel
    obtain ⟨d', MR, Md, Ms', own', hI⟩ := HI.out
    have c3 := hI.doc.c3
    have hl64 := HL64.out
    have q3 : (nos.length : Int) ≤ 64 := by omega
    by_cases hlt : i < nos.length
    · have hrow := hI.doc.nos
      rcases owns_shape hrow with ⟨-, h0⟩ | ⟨g, c, e⟩
      · omega
      cases e
      obtain ⟨m, hm⟩ : ∃ m, m = min 3 (nos.length - i) := ⟨_, rfl⟩
      have q1 : (0 : Int) ≤ (i : Int) := by omega
      have q2 : (i : Int) < (nos.length : Int) := by omega
      have q4 : (i : Int) ≤ 64 := by omega
      have hnc : nos.length ≤ nc := hrow.2.elim (fun e => by cases e.1) (fun ⟨g', cap, cur, e, h1, h2, h3, _⟩ => by cases e; exact h3)
      have hwr : IntKind.i64.wrap ((i : Int) + 3) = (i : Int) + 3 := by rw [IntKind.wrap_i64]; omega
      have hmn : min (IntKind.i64.wrap ((i : Int) + 3)) (nos.length : Int) = ((i + m : Nat) : Int) := by rw [hwr]; omega
      have g1 : (i : Int) ≤ ((i + m : Nat) : Int) := by omega
      have g2 : ((i + m : Nat) : Int) ≤ (nc : Int) := by omega
      have g3 : ((i + m : Nat) : Int) - (i : Int) = (m : Int) := by omega
      have HIs := Lib.hid hI
      have HIk := Lib.hid hik
      clear hI HI hrow hik
      go_upto_region 5 with fail
      go_cut [5] (fun lv W => ∃ dd, W = wr.drewN dd ∧ lv = .slice (some ⟨g, i, none⟩) m (nc - i))
      case first =>
        go_quiet (fail)
        go_wp2_with fail
        go_meet
        case rel => exact ⟨_, rfl, by rw [show (min ((i : Int) + 3) (nos.length : Int)).toNat - i = m by omega]⟩
      case rest =>
        obtain ⟨dd, hw, rfl⟩ := hcut
        have hI := HIs.out.below (show Below wr.heap.size wr wc from by rw [hw]; exact ⟨rfl, rfl, rfl, Nat.le_refl _, fun _ _ => rfl⟩)
        have hwr2 := HIs.out.fr
        clear hw HIs hmn g1 g2 g3 hnc hwr c3
        obtain ⟨C, hC⟩ : ∃ C, C = (nos.drop i).take 3 := ⟨_, rfl⟩
        have hCl : C.length = m := by rw [hC, List.length_take, List.length_drop, hm]
        have hints := ints_chunk hI.doc.nos i hm
        rw [← hC] at hints
        have hCr : C.map fresh = (rs.drop (3 * k)).take 3 := by rw [hC, List.map_take, List.map_drop, HNos.out, HFr.out, HIk.out]
        have hst := hI.pl.step (q1 := mergeR S F d' (C.map fresh)) (by rw [← HIk.out, HRl.out]; exact hlt) (by rw [hCr])
        have hrow2 := hI.row
        obtain ⟨MN, hMN⟩ : ∃ MN, MN = MR.map (·.no) := ⟨_, rfl⟩
        rw [← hMN] at hrow2
        obtain ⟨xa, xc, rfl⟩ := owns_slice hrow2
        have hfree : ∀ k, (Value.slice xa MN.length xc).ownBlock = some k → own' k = 0 ∧ k ≠ q ∧ w.heap.size ≤ k := fun k hk => ⟨(hI.free k hk).1, (hI.free k hk).2, (hrow2.lt k hk).1⟩
        have hml : MN.length ≤ 64 := by rw [hMN, List.length_map, hI.pl.cnt]; have := HIk.out; omega
        by_cases hm1 : m = 1
        · obtain ⟨rr, hrr, hq1⟩ := mergeR_one' (S := S) (F := F) d' (c := C.map fresh) (by rw [List.length_map, hCl, hm1])
          rw [hq1] at hst
          obtain ⟨r', Md', Ms2, e1, hp2⟩ := hst.2 rfl
          simp only [Option.some.injEq] at e1
          subst e1
          obtain ⟨no, rfl⟩ : ∃ no, C = [no] := List.length_eq_one_iff.1 (hCl.trans hm1)
          have hno : rr.no = no := by
            have e : [fresh no] = [rr] := hrr
            simp only [List.cons.injEq, and_true] at e
            rw [← e]
            rfl
          obtain ⟨_, _, e, hcl⟩ := hints
          cases e
          obtain ⟨gb, off, e2, hg0, cn⟩ := hcl 0 no rfl
          have hg0 : gb = g := hg0
          simp only [Option.some.injEq, Addr.mk.injEq, and_true] at e2
          obtain ⟨-, e3⟩ := e2
          rw [hg0, ← e3, Nat.add_zero] at cn
          have g5 : ((([no] : List Int).length : Int) == 1) = true := rfl
          have HRow := Lib.hid hrow2
          have HMN := Lib.hid hMN
          have HI2 := Lib.hid hI
          have HFree := Lib.hid hfree
          have HMl := Lib.hid hml
          have HP2 := Lib.hid hp2
          have HNo := Lib.hid hno
          have HLt := Lib.hid hlt
          clear hst hfree hml hrow2 hMN hI hq1 hrr hp2 hno hcl hg0 e3 hC hCl hCr hlt hm hm1 hk3 q3 hl64 hwr2
          go_wp2_with (first | (at_builtin; refine wpList_append_own_at _ rfl _ _ 38 rfl w.heap.size 3 i3 (.int .i64 0) 1 8 Tryz.underlying38 I3.out Y0.out Y1.out Y2.out rfl (by decide) _ _ _ rfl (HRow.out.alloc (.cells #[.int .i64 no] 3)) ⟨wc.heap.size, 0, none⟩ 1 1 [.int .i64 no] rfl rfl (cell_one_new _ _ _) (by simp [Value.oneCell']) ?p1 ?p2 ?p3 ?_))
          case p1 => unfold maxLen; have := HMl.out; omega
          case p2 => have := HMl.out; omega
          case p3 => have h := HI2.out.fr.size; simp; omega
          intro nv2 w2 ho hg _ hl
          obtain ⟨k1, k2, k3⟩ := doc_grown H.out HI2.out.doc HI2.out.fr HFree.out hg (nv2 := nv2) (fun k hk => by
            rcases hl with hl | hl
            · exact .inl (hl ▸ hk)
            · rw [hl] at hk
              have hk := Option.some.inj hk
              exact .inr (by first | omega | (simp at hk; omega)))
          have ho2 : w2.ownsRow w.heap.size 3 1 nv2 ((MR ++ [rr]).map (·.no)).length (((MR ++ [rr]).map (·.no)).map (Value.int .i64)) := by
            rw [List.map_append, ← HMN.out, List.map_append, List.length_append, List.map_cons, HNo.out]; exact ho
          have HNew := Lib.hid (PassDoc.mk HP2.out k1 HI2.out.old k2 ho2 k3 : PassDoc base q r ownR S F run nos told uv (.slice (some ⟨g, 0, none⟩) nos.length nc) w rs Q (k + 1) d' (MR ++ [rr]) Md' Ms2 own' nv2 w2)
          clear ho hg hl k1 k2 k3 ho2
          go_wp2_with fail
          go_roundw
          case rel => exact ⟨k + 1, i + 3, by go_num, by have := HIk.out; omega, by have := HLt.out; omega, Lib.hid ⟨d', _, _, _, _, HNew.out⟩⟩
          case measure => have := HLt.out; simp [intOf]; omega
        · have g5 : ((C.length : Int) == 1) = false := by simp; omega
          have hCn : C.length ≠ 1 := by omega
          have hC3 : C.length ≤ 3 := by omega
          have hc0 := hI.doc.c0
          have hRC := chunk_ok (c := C.map fresh) (cs := rs.drop (3 * (k + 1))) (by rw [hCr, show 3 * (k + 1) = 3 * k + 3 by omega, ← List.drop_drop, List.take_append_drop]; exact hI.pl.ok) hI.pl.okl
          rw [List.length_map] at hRC
          have hwC : wsum (Ms'.take C.length) ≤ 17000 := by
            have e := wsum_append (Ms'.take C.length) (Ms'.drop C.length)
            rw [List.take_append_drop] at e
            have := hI.pl.w17
            omega
          have hsm : Small d' := ⟨by have := hI.pl.n; omega, hI.pl.T, fun y hy => by have := hI.pl.t y hy; omega⟩
          have hcr := refCreate_any hI.doc.disk hsm HSl.out
          have hcl := fun h => docM_iv (S := S) (t := told) hRC h (by have := hI.pl.n; omega) hI.pl.T hI.pl.t hwC hC3 HTl.out
          have hmd := fun h hn => mergeR_doc (S := S) (F := F) d' told C hCn h hn
          have hmc := mergeR_create (S := S) (F := F) d' (c := C.map fresh) (by rw [List.length_map]; exact hCn)
          obtain ⟨E, hE⟩ : ∃ E, E = createE S d' := ⟨_, rfl⟩
          obtain ⟨no, hno⟩ : ∃ no, no = createN S d' := ⟨_, rfl⟩
          obtain ⟨D, hD⟩ : ∃ D, D = createS S d' := ⟨_, rfl⟩
          rw [← hE, ← hno, ← hD] at hcr
          rw [← hE, ← hD] at hmc
          rw [← hE, ← hno, ← hD] at hcl hmd
          have HRow := Lib.hid hrow2
          have HMN := Lib.hid hMN
          have HI2 := Lib.hid hI
          have HFree := Lib.hid hfree
          have HMl := Lib.hid hml
          have HLt := Lib.hid hlt
          have HCr := Lib.hid hcr
          have HCl := Lib.hid hcl
          have HMd := Lib.hid hmd
          have HMc := Lib.hid hmc
          have HSt := Lib.hid hst
          have HInt := Lib.hid hints
          have HC3 := Lib.hid hC3
          have HCl2 := Lib.hid hCl
          rw [← hCl]
          clear hst hfree hml hrow2 hMN hI hC hCl hCr hlt hm hm1 hk3 q3 hl64 hwr2 hCn hC3 hRC hwC hsm hcr hcl hmd hmc hE hno hD hints
          go_wp2_with fail
          refine HCr.out.mono ?_
          rintro e w1 ⟨rfl, hl1⟩
          obtain ⟨own1, k1, k2, k3⟩ := HI2.out.doc.callR hl1
          have HK1 := Lib.hid k1
          have HK2 := Lib.hid k2
          have HK3 := Lib.hid k3
          have hold1 : ∀ k, k < w.heap.size → own1 k = ownR k := fun k hk => by rw [k2 k (Nat.lt_of_lt_of_le hk HI2.out.fr.size), HI2.out.old k hk]
          have hfr1 : Frame (fun k => ownR k ≠ 0 ∨ k = q) w w1 := HI2.out.fr.then k3 (fun k hk e => .inl (by rw [HI2.out.old k hk] at e; exact e))
          have HO1 := Lib.hid hold1
          have HF1 := Lib.hid hfr1
          clear hl1 k1 k2 k3 HCr hc0 hold1 hfr1
          by_cases hE0 : E = 0
          · have g6 : (E != 0) = false := by simpa using hE0
            obtain ⟨s1, s2, s3⟩ := HCl.out hE0
            obtain ⟨t1, t2⟩ := HMd.out hE0 s2
            have hints2 := HInt.out.frame HK3.out (fun k hk e => by
              have e2 : k = g := hk
              subst e2
              exact e (HI2.out.doc.on k rfl).1)
            have hmg := docMerge_any no (IvFile no) fuelM HK1.out s1 HSl.out (.slice (some ⟨g, i, none⟩) C.length (nc - i)) C (by rw [HCl2.out]; exact hints2) (fun k hk => by
              have e2 : k = g := hk
              subst e2
              exact ⟨(HK1.out.on k rfl).1, (HK1.out.on k rfl).2.1⟩) HC3.out (ivFile_ok s2) s3
            obtain ⟨M, hM⟩ : ∃ M, M = docM S F no fuelM D told C := ⟨_, rfl⟩
            rw [← hM] at hmg t1 t2
            obtain ⟨u1, u2⟩ := HSt.out
            rw [t2] at u1 u2
            obtain ⟨E2, hE2⟩ : ∃ E2, E2 = M.2.2 := ⟨_, rfl⟩
            unfold MergeTo at hmg
            rw [← hE2] at hmg u1 u2
            have HMg := Lib.hid hmg
            have HU1 := Lib.hid u1
            have HU2 := Lib.hid u2
            have HT1 := Lib.hid t1
            clear hE0 s1 s2 s3 t1 t2 hints2 hmg hM u1 u2 hE2 HCl HMd HSt HInt HMc
            go_wp2_with fail
            refine HMg.out.mono ?_
            rintro e w3 ⟨rfl, own3, k1, k2, k3⟩
            rw [HT1.out] at k1
            have hold3 : ∀ k, k < w.heap.size → own3 k = ownR k := fun k hk => by rw [k2 k (Nat.lt_of_lt_of_le hk HF1.out.size), HO1.out k hk]
            have hfr3 : Frame (fun k => ownR k ≠ 0 ∨ k = q) w w3 := HF1.out.then k3 (fun k hk e => e.imp_left (fun e => by rw [HO1.out k hk] at e; exact e))
            have hfree1 : ∀ k, (Value.slice xa MN.length xc).ownBlock = some k → own1 k = 0 ∧ k ≠ q ∧ w.heap.size ≤ k ∧ k < w1.heap.size := fun k hk => by
              have h2 := (HRow.out.lt k hk).2
              exact ⟨by rw [HK2.out k h2]; exact (HFree.out k hk).1, (HFree.out k hk).2.1, (HFree.out k hk).2.2, Nat.lt_of_lt_of_le h2 HK3.out.size⟩
            have hfree3 : ∀ k, (Value.slice xa MN.length xc).ownBlock = some k → own3 k = 0 ∧ k ≠ q ∧ w.heap.size ≤ k := fun k hk => by
              obtain ⟨a1, a2, a3, a4⟩ := hfree1 k hk
              exact ⟨by rw [k2 k a4]; exact a1, a2, a3⟩
            have hrow3 := k3.owns (HK3.out.owns HRow.out (fun k hk e => e (HFree.out k hk).1)) (fun k hk e => by
              rcases e with e | e
              · exact e (hfree1 k hk).1
              · exact (hfree1 k hk).2.1 e)
            have HRow3 := Lib.hid hrow3
            have HFree3 := Lib.hid hfree3
            have HD3 := Lib.hid k1
            have HO3 := Lib.hid hold3
            have HF3 := Lib.hid hfr3
            clear k1 k2 k3 hold3 hfr3 hfree1 hfree3 hrow3 HRow HMg
            by_cases hE20 : E2 = 0
            · have g7 : (E2 != 0) = false := by simpa using hE20
              obtain ⟨r', Md', Ms2, e1, hp2⟩ := HU2.out hE20
              rw [if_neg (by rw [hE20]; decide)] at e1
              simp only [Option.some.injEq] at e1
              subst e1
              have HP2 := Lib.hid hp2
              clear hE20 hp2 HU1 HU2
              go_wp2_with (first | (at_builtin; refine wpList_append_own_at _ rfl _ _ 38 rfl w.heap.size 3 i3 (.int .i64 0) 1 8 Tryz.underlying38 I3.out Y0.out Y1.out Y2.out rfl (by decide) _ _ _ rfl (HRow3.out.alloc (.cells #[.int .i64 no] 3)) ⟨w3.heap.size, 0, none⟩ 1 1 [.int .i64 no] rfl rfl (cell_one_new _ _ _) (by simp [Value.oneCell']) ?p1 ?p2 ?p3 ?_))
              case p1 => unfold maxLen; have := HMl.out; omega
              case p2 => have := HMl.out; omega
              case p3 => have h := HF3.out.size; simp; omega
              intro nv2 w4 ho hg _ hl
              obtain ⟨k1, k2, k3⟩ := doc_grown H.out HD3.out HF3.out HFree3.out hg (nv2 := nv2) (fun k hk => by
                rcases hl with hl | hl
                · exact .inl (hl ▸ hk)
                · rw [hl] at hk
                  have hk := Option.some.inj hk
                  exact .inr (by first | omega | (simp at hk; omega)))
              have ho2 : w4.ownsRow w.heap.size 3 1 nv2 ((MR ++ [fresh no]).map (·.no)).length (((MR ++ [fresh no]).map (·.no)).map (Value.int .i64)) := by
                rw [List.map_append, ← HMN.out, List.map_append, List.length_append, List.map_cons]; exact ho
              have HNew := Lib.hid (PassDoc.mk HP2.out k1 HO3.out k2 ho2 k3 : PassDoc base q r ownR S F run nos told uv (.slice (some ⟨g, 0, none⟩) nos.length nc) w rs Q (k + 1) M.1 (MR ++ [fresh no]) Md' Ms2 own3 nv2 w4)
              clear ho hg hl k1 k2 k3 ho2
              go_wp2_with fail
              go_roundw
              case rel => exact ⟨k + 1, i + 3, by go_num, by have := HIk.out; omega, by have := HLt.out; omega, Lib.hid ⟨_, _, _, _, _, HNew.out⟩⟩
              case measure => have := HLt.out; simp [intOf]; omega
            · have g7 : (E2 != 0) = true := by simpa using hE20
              obtain ⟨v1, v2⟩ := HU1.out hE20
              have HV1 := Lib.hid v1
              have HV2 := Lib.hid v2
              have HNe := Lib.hid hE20
              clear hE20 v1 v2 HU1 HU2
              go_wp2_with fail
              go_ret
              exact ⟨by rw [HV2.out]; rfl, nos, ⟨own3, uv, _, by rw [HV1.out]; exact HD3.out, fun k hk e => e.imp_left (fun e => by rw [HO3.out k hk] at e; exact e), HF3.out.mono (fun k _ e => by rcases e with e | e; exact .inl e; exact .inr (.inl e))⟩, fun e => by rw [HV2.out] at e; exact absurd e HNe.out⟩
          · have g6 : (E != 0) = true := by simpa using hE0
            have hmc := HMc.out hE0
            have hst := HSt.out.1
            rw [hmc] at hst
            obtain ⟨v1, v2⟩ := hst hE0
            have HV1 := Lib.hid v1
            have HV2 := Lib.hid v2
            have HNe := Lib.hid hE0
            clear hE0 hmc hst v1 v2
            go_wp2_with fail
            go_ret
            exact ⟨by rw [HV2.out]; rfl, nos, ⟨own1, uv, _, by rw [HV1.out]; exact HK1.out, fun k hk e => e.imp_left (fun e => by rw [HO1.out k hk] at e; exact e), HF1.out.mono (fun k _ e => by rcases e with e | e; exact .inl e; exact .inr (.inl e))⟩, fun e => by rw [HV2.out] at e; exact absurd e HNe.out⟩
    · have q2 : ¬ (i : Int) < (nos.length : Int) := by omega
      obtain ⟨xa, xc, rfl⟩ := owns_slice hI.row
      have hlm : (MR.map (·.no)).length = MR.length := List.length_map _
      have hQ := hI.pl.done (by rw [HRl.out, ← hik]; omega)
      have hf := hI.fr
      have hold := hI.old
      have hrow2 : wr.ownsRow base 3 1 _ (MR.map (·.no)).length ((MR.map (·.no)).map (Value.int .i64)) := World.ownsRow.mono hI.row (by have := H.out.lt; have := H.out.low; omega)
      have hput := hI.doc.putNos (Frame.refl _ _) hrow2 (fun k hk => ⟨(hI.free k hk).1, (hI.free k hk).2, fun e => by have := (H.out.run.lt k e).2; have := (hI.row.lt k hk).1; omega⟩)
      have z3 := hI.doc.froz 3
      rw [hlm] at hput
      have HQ := Lib.hid hQ
      have HPut := Lib.hid hput
      have HF := Lib.hid hf
      have HO := Lib.hid hold
      have HNew := Lib.hid (show ∀ k, (Value.slice xa MR.length xc).ownBlock = some k → w.heap.size ≤ k from fun k hk => (hI.row.lt k (by cases xa <;> exact hk)).1)
      clear hQ hf hold hrow2 hput hI HI hik hk3 hlt hlm
      go_wp2_with fail
      go_ret
      refine ⟨by rw [HQ.out]; rfl, MR.map (·.no), ⟨own', uv, _, by rw [HQ.out]; exact HPut.out, fun k hk e => ?_, ?_⟩, fun _ => by rw [HQ.out]⟩
      · rcases e with e | e | e | e
        · exact .inl (by rw [HO.out k hk] at e; exact e)
        · exact .inr (.inl e)
        · exact .inr (.inr (.inl e))
        · have := HNew.out k e; omega
      · exact (HF.out.mono (fun k _ e => by rcases e with e | e; exact .inl e; exact .inr (.inl e))).trans ((Frame.cell wr ⟨q, 3, none⟩ _).mono (fun k _ e => .inr (.inl e)))
end

end Go.Proofs.YtpgigpajpcianaaGreatDoor

namespace Go.Proofs.YtpgigpajpcianaaGreatDoor
open Go.RowKit

def EndTo (base q r : Nat) (own : Nat → Prop) (S : Script) (F : Bool) (w : World) (Z : DSt × Lines × Int) (e : Ending) (w' : World) : Prop :=
  e = .returned (.int .i64 Z.2.2) ∧ ∃ run' nos', DocLeft base q r own S F Z.1 run' nos' (joinL Z.2.1) w w'
theorem docM_tell {S : Script} {F : Bool} (f : Nat) (d : DSt) (nos : List Int) : docM S F 0 f d [] nos = if (readAll S d (nos.map fresh)).2.2 ≠ 0 then ((readAll S d (nos.map fresh)).1, [], (readAll S d (nos.map fresh)).2.2)
    else ((mergeT S F f (readAll S d (nos.map fresh)).1 (readAll S d (nos.map fresh)).2.1).1, joinL (mergeT S F f (readAll S d (nos.map fresh)).1 (readAll S d (nos.map fresh)).2.1).2.1, (mergeT S F f (readAll S d (nos.map fresh)).1 (readAll S d (nos.map fresh)).2.1).2.2) := by
  unfold docM mergeT
  rw [goA_tell, List.nil_append]
  by_cases h1 : (readAll S d (nos.map fresh)).2.2 ≠ 0
  · rw [if_pos h1, if_pos h1]
  · rw [if_neg h1, if_neg h1]
    have hn := readAll_nos (S := S) (nos.map fresh) d
    generalize readAll S d (nos.map fresh) = RA at hn ⊢
    generalize tellGo S F f RA.1 RA.2.1 = T
    have e := removeAll_nos (S := S) RA.2.1 (nos.map fresh) T.1 hn
    by_cases h2 : T.2.2 = 0
    · simp [h2, e]
    · simp [h2]
theorem ints_own {base : Nat} {W : World} {v : Value} {nos : List Int} (h : W.ownsRow base 3 1 v nos.length (nos.map (Value.int .i64))) : IsInts (fun k => v.ownBlock = some k) W v nos := by
  rcases owns_shape h with ⟨rfl, h0⟩ | ⟨g, c, rfl⟩
  · have : nos = [] := List.eq_nil_of_length_eq_zero h0
    subst this
    exact ⟨none, 0, rfl, fun j c hj => by simp at hj⟩
  · refine ⟨some ⟨g, 0, none⟩, c, rfl, fun j x hj => ⟨g, 0, rfl, rfl, ?_⟩⟩
    have := World.ownsRow.cells h (g := g) rfl j (.int .i64 x) (by rw [List.getElem?_map, hj]; rfl)
    rwa [Addr.add_mid] at this
theorem nos_fresh (nos : List Int) : nos = (nos.map fresh).map (·.no) := by
  rw [List.map_map]
  exact (List.map_id nos).symm
section
variable {base q r : Nat} {ownR : Nat → Nat} {S : Script} {F : Bool} {s : DSt} {run : Lines} {nos : List Int} {uv nv : Value} {w : World} {Ms : List Lines}
set_option maxRecDepth 100000 in
set_option maxHeartbeats 8000000 in
theorem docEnd_none (h : DocAt base q r ownR S F s run [] [] uv nv w) (hl : run.length ≤ 4501) (hf : FineL run) :
    Calls Tryz.prog 44 #[.pointer (some ⟨q, 0, none⟩)] w (EndTo base q r (ownDoc ownR q uv nv) S F w (s, sortL F run, 0)) := by
  have c3 := h.c3
  have c2 := h.c2
  obtain ⟨na, nc, rfl⟩ := owns_slice h.nos
  obtain ⟨ua, uc, rfl⟩ := owns_slice h.run
  have hsd := docSorted_any q F _ run w h.c1 (isTexts_of_owns h.run) (by omega)
  obtain ⟨L, hL⟩ : ∃ L, L = sortL F run := ⟨_, rfl⟩
  have hLl : L.length ≤ 4501 := by rw [hL, sortL_length]; exact hl
  have hLf : FineL L := by rw [hL]; exact hf.perm (sortL_perm F run).symm
  rw [← hL] at hsd ⊢
  have H := Lib.hid h
  have HSd := Lib.hid hsd
  have HLl := Lib.hid hLl
  have HLf := Lib.hid hLf
  clear h hl hf hsd hL hLl hLf
  go_enter Tryz.func44, Tryz.ntmps44
  go_wp2_with fail
  refine HSd.out.mono ?_
  rintro e w1 ⟨rv, rfl, hown, hb⟩
  obtain ⟨ra, rc, rfl⟩ := owns_slice hown
  have HTx := Lib.hid (isTexts_of_owns hown)
  have HB := Lib.hid hb
  have HD := Lib.hid (H.out.below hb)
  clear hown hb HSd c2 c3
  go_wp2_with fail
  go_loopw [4] (fun iv wr => ∃ i : Nat, iv = .int .i64 i ∧ i ≤ L.length ∧ RowKit.Hid (DocAt base q r ownR S F s run [] (joinL (L.take i)) (.slice ua run.length uc) (.slice na ([] : List Int).length nc) wr ∧ Frame (· = q) w1 wr)) (fun iv _ => L.length - (intOf iv).toNat)
  case atStart => exact ⟨0, rfl, Nat.zero_le _, Lib.hid ⟨HD.out, Frame.refl _ _⟩⟩
  case round =>
    obtain ⟨i, rfl, hi, HI⟩ := hrel
    obtain ⟨hd, hf⟩ := HI.out
    have hll := HLl.out
    have q1 : (0 : Int) ≤ (i : Int) := by omega
    have q3 : (i : Int) ≤ 4501 := by omega
    by_cases hlt : i < L.length
    · obtain ⟨l, hl⟩ : ∃ l, L[i]? = some l := ⟨L[i], by simp⟩
      have hql : q < w.heap.size := H.out.lt
      obtain ⟨_, _, e, hcl⟩ := HTx.out.frame hf (fun k hk e => by have e' : k = q := e; have hk : w.heap.size ≤ k := hk; omega)
      cases e
      obtain ⟨gb, off, rfl, -, cl⟩ := hcl i l hl
      have q2 : (i : Int) < (L.length : Int) := by omega
      obtain ⟨SL, hSL⟩ : ∃ S : ByteArray, strV l = .string S := ⟨_, rfl⟩
      rw [hSL] at cl
      have hsl : SL.size ≤ 64 := by rw [strV_size hSL]; exact (HLf.out l (List.mem_of_getElem? hl)).1
      obtain ⟨t, ht⟩ : ∃ t, t = joinL (L.take i) := ⟨_, rfl⟩
      have hnext : joinL (L.take (i + 1)) = t ++ l ++ [10] := by rw [take_snoc hl, ht]; simp [joinL]
      have htl : t.length ≤ 300000 := by
        rw [ht, weightL_join]
        have h1 := weight_le (L := L.take i) (fun x hx => (HLf.out x (List.mem_of_mem_take hx)).1)
        rw [List.length_take] at h1
        omega
      rw [← ht] at hd
      obtain ⟨ST, hST⟩ : ∃ T : ByteArray, strV t = .string T := ⟨_, rfl⟩
      have hst : ST.size ≤ 300000 := by rw [strV_size hST]; exact htl
      have c4 := hd.c4
      rw [hST] at c4
      have z4 := hd.froz 4
      have hadd := add_fits (S := ST) (T := SL) (by omega) (by omega)
      have hadd2 : (9223372036854775807 < ST.size + SL.size) = False := by simp; omega
      have hadd3 : (9223372036854775807 < ST.size + SL.size + 1) = False := by simp; omega
      have hput := hd.putTold (t ++ l ++ [10])
      have hcat : strV (t ++ l ++ [10]) = .string (ST ++ SL ++ ⟨#[10]⟩) := strV_add (strV_add hST hSL) rfl
      rw [hcat, ← hnext] at hput
      have HPut := Lib.hid (hput.below (w' := (wr.setCell ⟨q, 4, none⟩ (.string (ST ++ SL ++ ⟨#[10]⟩))).drew) (Below.refl _ _).drew)
      have HF2 := Lib.hid (hf.trans (Frame.cell wr ⟨q, 4, none⟩ (.string (ST ++ SL ++ ⟨#[10]⟩)))).drew
      have HLt := Lib.hid hlt
      clear hd hf hcl hl hSL hST hput hcat hnext ht htl hi hlt hll HI hql
      go_wp2_with fail
      go_region
      go_wp2_with fail
      go_roundw
      case rel => exact ⟨i + 1, by go_num, HLt.out, Lib.hid ⟨HPut.out, HF2.out⟩⟩
      case measure => have := HLt.out; simp [intOf]; omega
    · have q2 : ¬ (i : Int) < (L.length : Int) := by omega
      have e : L.take i = L := List.take_of_length_le (by omega)
      rw [e] at hd
      have HDd := Lib.hid hd
      have HF := Lib.hid hf
      clear hd hf e hi hlt hll HI
      go_wp2_with fail
      go_ret
      exact ⟨rfl, run, [], ⟨ownR, _, _, HDd.out, fun _ _ e => e, (Below.toFrame HB.out _).then HF.out (fun k _ e => .inr (.inl e))⟩⟩
end

end Go.Proofs.YtpgigpajpcianaaGreatDoor

namespace Go.Proofs.YtpgigpajpcianaaGreatDoor
open Go.RowKit

section
variable {base q r : Nat} {ownR : Nat → Nat} {S : Script} {F : Bool} {s : DSt} {run : Lines} {nos : List Int} {uv nv : Value} {w : World} {Ms : List Lines}
theorem RdOk.fit {x : SpD} (h : RdOk F x Ms) : FitD x.d x.run := by
  have h1 := h.smallD
  have h2 := weightL_length x.run
  have h3 := h.wr
  exact ⟨by have := h1.n; omega, h1.T, fun y hy => by have := h1.t y hy; omega, by omega, h.fine⟩
def EndAt (base q r : Nat) (own : Nat → Prop) (S : Script) (F : Bool) (P : DSt × List Rn × Int) (w : World) (f : Nat) (wr : World) : Prop :=
  ∃ d nos Ms, PassOk F d (nos.map fresh) Ms ∧ d.n + f * 33000 ≤ 152000 ∧ wsum Ms ≤ 16400 ∧ nos.length ≤ 3 ^ (f + 1) ∧ nos ≠ [] ∧ P = passesGo S F f d (nos.map fresh) ∧ DocLeft base q r own S F d [] nos [] w wr
theorem end_step {d : DSt} {rs : List Rn} {f : Nat} (h5 : PassOk F d rs Ms) (h6 : d.n + (f + 1) * 33000 ≤ 152000) (h7 : wsum Ms ≤ 16400) (h8 : rs.length ≤ 3 ^ (f + 1 + 1)) (h3r : ¬ rs.length ≤ 3) (e0 : (passGo S F d (chunks3 rs)).2.2 = 0) :
    ∃ Ws, PassOk F (passGo S F d (chunks3 rs)).1 (passGo S F d (chunks3 rs)).2.1 Ws ∧ (passGo S F d (chunks3 rs)).1.n + f * 33000 ≤ 152000 ∧ wsum Ws ≤ 16400 ∧ (passGo S F d (chunks3 rs)).2.1.length ≤ 3 ^ (f + 1) ∧ (passGo S F d (chunks3 rs)).2.1 ≠ [] := by
  have hl17 : lsum Ms ≤ fuelM := by have := lsum_le_wsum Ms; show _ ≤ 1000000; omega
  have hpi := pass_is (S := S) h5.ok h5.only h5.T hl17
  have hcl := chunks3_len rs.length rs (Nat.le_refl _)
  have hlw := lsum_le_wsum Ms
  obtain ⟨Ws, n1, n2, n3, n4, n5⟩ := hpi.ok e0
  simp only [List.nil_append] at n1 n5
  have hn := hpi.n
  have hll := h5.len
  have hww := wsum_perm n4
  have hmul : (f + 1) * 33000 = f * 33000 + 33000 := Nat.succ_mul _ _
  have hpow : 3 ^ (f + 1 + 1) = 3 * 3 ^ (f + 1) := by rw [Nat.pow_succ]; omega
  refine ⟨Ws, ⟨n1, n5, by omega, hpi.T, hpi.B 17000 h5.t h5.w, by omega, by omega⟩, by omega, by omega, by omega, fun e => ?_⟩
  rw [e] at n2
  simp at n2
  omega
set_option maxRecDepth 100000 in
set_option maxHeartbeats 8000000 in
theorem docEnd_some (h : DocAt base q r ownR S F s run nos [] uv nv w) (hok : RdOk F ⟨s, run, nos.map fresh⟩ Ms) (hne : nos ≠ []) (hS : S.length ≤ 1000000) :
    Calls Tryz.prog 44 #[.pointer (some ⟨q, 0, none⟩)] w (EndTo base q r (ownDoc ownR q uv nv) S F w (endD S F ⟨s, run, nos.map fresh⟩)) := by
  have hrs : nos.map fresh ≠ [] := fun e => hne (List.map_eq_nil_iff.1 e)
  have hrun : run ≠ [] := hok.some hrs
  have hl64 : nos.length ≤ 64 := by have := hok.T; have := hok.T64; simp at *; omega
  have hsp := docSpill_any h hok.fit hl64 hS
  have hbi := begin_is (S := S) hok hrs
  have hsi := spill_is (S := S) hok hrun
  obtain ⟨Z, hZ⟩ : ∃ Z, Z = endD S F ⟨s, run, nos.map fresh⟩ := ⟨_, rfl⟩
  have hz := hZ
  unfold endD at hz
  rw [if_neg hrs] at hz
  rw [← hZ]
  unfold SpillTo at hsp
  have hbd : ∀ B, B = beginD S F ⟨s, run, nos.map fresh⟩ → ∀ T, T = spillD S F ⟨s, run, nos.map fresh⟩ → (T.2 ≠ 0 → B = T) ∧ (T.2 = 0 → ∀ P, P = passesGo S F 4 T.1.d T.1.rs → (P.2.2 ≠ 0 → B = (⟨P.1, [], []⟩, P.2.2)) ∧ (P.2.2 = 0 → B = (⟨(readAll S P.1 P.2.1).1, [], (readAll S P.1 P.2.1).2.1⟩, (readAll S P.1 P.2.1).2.2))) := fun B hB T hT => by
    subst hB hT
    unfold beginD
    refine ⟨fun h => if_pos h, fun h P hP => ?_⟩
    subst hP
    rw [if_neg (by rw [h]; decide)]
    exact ⟨fun h2 => if_pos h2, fun h2 => if_neg (by rw [h2]; decide)⟩
  obtain ⟨B, hB⟩ : ∃ B, B = beginD S F ⟨s, run, nos.map fresh⟩ := ⟨_, rfl⟩
  obtain ⟨T, hT⟩ : ∃ T, T = spillD S F ⟨s, run, nos.map fresh⟩ := ⟨_, rfl⟩
  have hbd := hbd B hB T hT
  rw [← hB] at hz hbi
  rw [← hT] at hsp hsi
  obtain ⟨no, hno⟩ : ∃ no, no = createN S s := ⟨_, rfl⟩
  have hno' : createN S s = createN S (SpD.mk s run (nos.map fresh)).d := rfl
  rw [← hno'] at hsi
  rw [← hno] at hsp hsi
  obtain ⟨na, nc, rfl⟩ := owns_slice h.nos
  obtain ⟨ua, uc, rfl⟩ := owns_slice h.run
  have c2 := h.c2
  have c3 := h.c3
  have g0 : ((nos.length : Int) == 0) = false := by
    have : nos.length ≠ 0 := fun e => hne (List.eq_nil_of_length_eq_zero e)
    simp; omega
  have g1 : (0 : Int) < (run.length : Int) := by
    have : run.length ≠ 0 := fun e => hrun (List.eq_nil_of_length_eq_zero e)
    omega
  have hml : Ms.length = nos.length := by have := hok.ok.len; simp at this; omega
  have hT64 : nos.length < 64 ∨ nos.length ≤ 64 := .inr hl64
  have htm : B.2 = 0 → ∃ Ls, TM F B.1.d B.1.rs Ls ∧ lsum Ls < fuelT := fun h0 => by
    obtain ⟨-, Ls, b2, b3, -⟩ := hbi.2.2 h0
    refine ⟨Ls, b2, ?_⟩
    have e1 := lsum_flat Ls
    have e2 := b3.length_eq
    have e3 := lsum_flat Ms
    have e4 := lsum_le_wsum Ms
    have e5 := wsum_256 hok.w
    have e9 := weightL_length run
    have e10 := hok.wr
    have e11 : (SpD.mk s run (nos.map fresh)).run = run := rfl
    rw [e11] at e10 e2
    rw [List.length_append] at e2
    unfold fuelT
    omega
  have HSp := Lib.hid hsp
  have HSi := Lib.hid hsi
  have HBd := Lib.hid hbd
  have HZ := Lib.hid hz
  have HTm := Lib.hid htm
  have HSl := Lib.hid hS
  have HMl := Lib.hid hml
  have HL64 := Lib.hid hl64
  obtain ⟨own0, hown0⟩ : ∃ own0, own0 = ownDoc ownR q (.slice ua run.length uc) (.slice na nos.length nc) := ⟨_, rfl⟩
  rw [← hown0] at HSp ⊢
  clear h hok hrs hrun hl64 hsp hbi hsi hZ hz hbd hB hT hno hno' hml hT64 htm hS hown0
  go_enter Tryz.func44, Tryz.ntmps44
  go_wp2_with fail
  refine HSp.out.mono ?_
  rintro e w1 ⟨run1, nos1, rfl, hleft, hsp0⟩
  have HLeft := Lib.hid hleft
  have HSp0 := Lib.hid hsp0
  obtain ⟨E, hE⟩ : ∃ E, E = T.2 := ⟨_, rfl⟩
  rw [← hE]
  have HE := Lib.hid hE
  clear hleft hsp0 hE HSp c2 c3
  by_cases h0 : E = 0
  case neg =>
    have g2 : (E != 0) = true := by simpa using h0
    have hb := HBd.out.1 (by rw [← HE.out]; exact h0)
    have hz := HZ.out
    rw [if_pos (by rw [hb, ← HE.out]; exact h0), hb] at hz
    have HZ2 := Lib.hid hz
    clear h0 hb hz
    go_wp2_with fail
    go_ret
    exact ⟨by rw [HZ2.out, HE.out]; rfl, run1, nos1, by rw [HZ2.out]; exact HLeft.out⟩
  case pos =>
    have g2 : (E != 0) = false := by simpa using h0
    have hE0 : T.2 = 0 := by rw [← HE.out]; exact h0
    obtain ⟨s1, -, s3⟩ := HSi.out
    obtain ⟨t1, t2, t3, t4, t5, t6, t7⟩ := s3 hE0
    obtain ⟨e1, e2⟩ := HSp0.out hE0
    have e3 : nos1.map fresh = T.1.rs := by rw [e2, t2, List.map_append]; rfl
    have hB := HBd.out.2 hE0
    obtain ⟨P, hP⟩ : ∃ P, P = passesGo S F 4 T.1.d T.1.rs := ⟨_, rfl⟩
    have hB := hB P hP
    have hAt : EndAt base q r own0 S F P w 4 w1 := by
      have hw := wsum_each t7
      have hT64 := s1.T
      have hml : (Ms ++ [sortL F run]).length ≤ 64 := by have := t3.len; omega
      have hnl : nos1.length = T.1.rs.length := by rw [← e3, List.length_map]
      refine ⟨T.1.d, nos1, _, by rw [e3]; exact ⟨t3, t4, by have := s1.n; omega, hT64, fun t ht => by have := s1.t t ht; omega, by omega, by omega⟩, by have := s1.n; omega, by omega, Nat.le_trans (show nos1.length ≤ 243 by omega) (by decide), by rw [e2]; simp, by rw [e3]; exact hP, ?_⟩
      have := HLeft.out
      rw [e1] at this
      exact this
    have HAt := Lib.hid hAt
    have HB := Lib.hid hB
    clear h0 hE0 s1 s3 t1 t2 t3 t4 t5 t6 t7 e1 e2 e3 hB hP hAt HSi HSp0 HBd HLeft
    go_wp2_with fail
    go_loopg [] 4 (fun gh wr => RowKit.Hid (EndAt base q r own0 S F P w gh wr))
    case atStart => exact HAt
    case round =>
      clear HAt
      obtain ⟨d, nos2, Ms2, h5, h6, h7, h8, h9, hR, ownR2, uv2, nv2, hd, ho, hf⟩ := hrel.out
      clear hrel
      obtain ⟨xa, xc, rfl⟩ := owns_slice hd.nos
      have c3 := hd.c3
      by_cases h3r : nos2.length ≤ 3
      · have g3 : ¬ (3 : Int) < (nos2.length : Int) := by omega
        have hPz : P = (d, nos2.map fresh, 0) := by
          rw [hR]
          cases gk with
          | zero => rfl
          | succ f => rw [passesGo_succ, if_pos (by rw [List.length_map]; exact h3r)]
        have hB := HB.out.2 (by rw [hPz])
        rw [hPz] at hB
        simp only at hB
        have hsm : SmallD 800000 900000 d := ⟨by have := h5.n; omega, h5.T, fun y hy => by have := h5.t y hy; omega⟩
        have hmg := docMerge_any 0 (IvTell F) fuelT hd hsm HSl.out _ nos2 (ints_own hd.nos) (fun k hk => ⟨(hd.on k hk).1, (hd.on k hk).2.1⟩) h3r ivTell_ok (fun h0 => by
          obtain ⟨Ls, k1, k2⟩ := HTm.out (by rw [hB]; exact h0)
          rw [hB] at k1
          have hlt : lsum Ls < 20000 := k2
          exact ⟨lsum Ls, ⟨Ls, k1, rfl, by simp; omega⟩, k2⟩)
        rw [docM_tell] at hmg
        have hz := HZ.out
        rw [hB] at hz
        simp only at hz
        obtain ⟨RA, hRA⟩ : ∃ RA, RA = readAll S d (nos2.map fresh) := ⟨_, rfl⟩
        rw [← hRA] at hmg hz
        obtain ⟨R, hRR⟩ : ∃ R : DSt × List UInt8 × Int, R = (if RA.2.2 ≠ 0 then (RA.1, [], RA.2.2) else ((mergeT S F fuelT RA.1 RA.2.1).1, joinL (mergeT S F fuelT RA.1 RA.2.1).2.1, (mergeT S F fuelT RA.1 RA.2.1).2.2)) := ⟨_, rfl⟩
        rw [← hRR] at hmg
        have hzr : Z.1 = R.1 ∧ joinL Z.2.1 = R.2.1 ∧ Z.2.2 = R.2.2 := by
          rw [hz, hRR]
          by_cases hx : RA.2.2 ≠ 0
          · rw [if_pos hx, if_pos hx]; exact ⟨rfl, rfl, rfl⟩
          · rw [if_neg hx, if_neg hx]; exact ⟨rfl, rfl, rfl⟩
        have HMg := Lib.hid hmg
        have HZr := Lib.hid hzr
        have HO := Lib.hid ho
        have HF := Lib.hid hf
        have HD := Lib.hid hd
        clear h5 h6 h7 h8 h9 hR hd ho hf h3r hPz hB hsm hmg hz hRA hRR hzr
        go_wp2_with fail
        refine HMg.out.mono ?_
        rintro e w3 ⟨rfl, own3, k1, k2, k3⟩
        have HK1 := Lib.hid k1
        have HK2 := Lib.hid k2
        have HK3 := Lib.hid k3
        clear k1 k2 k3 HMg c3
        go_wp2_with fail
        go_ret
        obtain ⟨z1, z2, z3⟩ := HZr.out
        refine ⟨by rw [z3]; rfl, [], nos2, own3, uv2, _, by rw [z1, z2]; exact HK1.out, fun k hk e => ?_, HF.out.then HK3.out (fun k hk e => ?_)⟩
        · refine HO.out k hk (e.imp_left (fun e => ?_))
          rw [HK2.out k (Nat.lt_of_lt_of_le hk HF.out.size)] at e
          exact e
        · refine HO.out k hk ?_
          rcases e with e | e
          · exact .inl e
          · exact .inr (.inl e)
      · have g3 : (3 : Int) < (nos2.length : Int) := by omega
        obtain ⟨f, rfl⟩ : ∃ f, gk = f + 1 := by
          cases gk with
          | zero => exact absurd (by simpa using h8) h3r
          | succ f => exact ⟨f, rfl⟩
        rw [passesGo_succ, if_neg (by rw [List.length_map]; exact h3r)] at hR
        have hps := docPass_any hd (nos_fresh nos2) h5 HSl.out (by simp)
        have hst := fun e0 => end_step (S := S) h5 h6 h7 (by rw [List.length_map]; exact h8) (by rw [List.length_map]; exact h3r) e0
        obtain ⟨Q, hQ⟩ : ∃ Q, Q = passGo S F d (chunks3 (nos2.map fresh)) := ⟨_, rfl⟩
        rw [← hQ] at hR hps hst
        obtain ⟨E2, hE2⟩ : ∃ E2, E2 = Q.2.2 := ⟨_, rfl⟩
        unfold PassTo at hps
        rw [← hE2] at hps
        have HR := Lib.hid hR
        have HSt := Lib.hid hst
        have HE2 := Lib.hid hE2
        have HPs := Lib.hid hps
        have HO := Lib.hid ho
        have HF := Lib.hid hf
        clear h5 h6 h7 h8 h9 hR h3r hQ hE2 hd ho hf hst hps
        go_wp2_with fail
        refine HPs.out.mono ?_
        rintro e w3 ⟨rfl, nos3, hl3, hn3⟩
        have HL3 := Lib.hid (DocLeft.then HF.out HO.out hl3)
        have HN3 := Lib.hid hn3
        clear hl3 hn3 HPs HO HF c3
        by_cases h0 : E2 = 0
        · have f2 : (E2 != 0) = false := by simpa using h0
          have hE0 : Q.2.2 = 0 := by rw [← HE2.out]; exact h0
          obtain ⟨Ws, n1, n2, n3, n4, n5⟩ := HSt.out hE0
          have hR := HR.out
          rw [if_neg (by rw [hE0]; simp)] at hR
          have hn := HN3.out (by exact h0)
          have hfr : nos3.map fresh = Q.2.1 := by rw [hn]; exact runs_fresh n1.ok
          have hAt : EndAt base q r own0 S F P w f w3 := ⟨Q.1, nos3, Ws, by rw [hfr]; exact n1, n2, n3, by rw [← List.length_map (f := fresh), hfr]; exact n4, fun e => n5 (by rw [← hfr, e]; rfl), by rw [hfr]; exact hR, HL3.out⟩
          have HAt := Lib.hid hAt
          clear h0 hE0 n1 n2 n3 n4 n5 hR hn hfr hAt
          go_wp2_with fail
          go_roundg f
          case measure => exact Nat.lt_succ_self f
          case rel => exact HAt
        · have f2 : (E2 != 0) = true := by simpa using h0
          have hR := HR.out
          rw [if_pos (by rw [← HE2.out]; exact h0)] at hR
          have hB := HB.out.1 (by rw [hR, ← HE2.out]; exact h0)
          have hz := HZ.out
          rw [hB, hR] at hz
          simp only at hz
          rw [if_pos (by rw [← HE2.out]; exact h0)] at hz
          have HZ2 := Lib.hid hz
          clear h0 hR hB hz
          go_wp2_with fail
          go_ret
          exact ⟨by rw [HZ2.out, HE2.out]; rfl, [], nos3, by rw [HZ2.out]; exact HL3.out⟩
end

end Go.Proofs.YtpgigpajpcianaaGreatDoor
