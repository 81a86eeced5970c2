/- What all does: the lines of pieces, one behind the other, with the rest. What same does of the same texts. -/
import Derived.Test.YtgpholcooabbfaaJoins
namespace Go.Proofs.Ytgpholcooabbfaa
open Go.RowKit

/-- One list of texts behind another one that is the call's own, nil or not. -/
theorem wpList_append_texts {ops : Array Oper} {rest : List Oper} {o : Oper} {a : Act} {w : World} {Q : Exit → Act → World → Prop} (hgd : o.guard = none) (s x : Operand) (ho : o.op = .call { callee := .builtin .append, args := #[s, x], argTypes := #[36, 36] })
    (base base2 : Nat) (v vs : Value) (xs ys : Lines) (hs : a.eval s = v) (hown : w.ownsRow base 9 1 v xs.length (xs.map strV)) (hx : a.eval x = vs) (hsrc : w.ownsRow base2 9 1 vs ys.length (ys.map strV))
    (hlen : xs.length + ys.length ≤ 10000000) (hbase : base ≤ w.heap.size)
    (h : ∀ v' w', w'.ownsRow base 9 1 v' (xs ++ ys).length ((xs ++ ys).map strV) → w.grownBy w' v.ownBlock → wpList Try.prog ops Q rest (a.put o.dst v') w') : wpList Try.prog ops Q (o :: rest) a w := by
  obtain ⟨i0, hi, hz0, hz1, hz2⟩ := info_parts Try.info9
  have hsrc' := hsrc
  rcases hsrc.2 with ⟨rfl, h0⟩ | ⟨g, cap, cur, rfl, _⟩
  · have hy : ys = [] := List.eq_nil_of_length_eq_zero h0
    subst hy
    exact wpList_append_own_none hgd s x 36 ho base 9 i0 1 Try.underlying36 hi v _ _ hs hown hx (h v w (by simpa using hown) ⟨rfl, rfl, rfl, Nat.le_refl _, fun _ _ _ => rfl⟩)
  · refine wpList_append_own w hgd s x 36 ho base 9 i0 (.string ByteArray.empty) 1 16 Try.underlying36 hi hz0 hz1 hz2 rfl (by decide) v xs.length _ hs hown ⟨g, 0, none⟩ ys.length cap (ys.map strV) hx (by simp)
      (fun j u hu => hsrc'.cells (g := g) rfl j u hu) (fun u hu => by obtain ⟨y, _, rfl⟩ := List.mem_map.1 hu; rfl) (by unfold maxLen; omega) (by omega) hbase ?_
    intro v' w' ho' hg' _
    exact h v' w' (by rw [List.map_append, List.length_append]; exact ho') hg'

theorem cutL_count : ∀ (r b : List UInt8), (cutL b r).1.length ≤ r.length
  | [], b => by simp [cutL]
  | c :: r, b => by
    by_cases hc : c = 10
    · subst hc
      rw [cutL_end]
      have := cutL_count r []
      simp; omega
    · by_cases hl : b.length = 64
      · rw [cutL_long b r c hc hl]; simp
      · rw [cutL_put b r c hc hl]
        have := cutL_count r (b ++ [c])
        simp; omega

/-- The lines of bytes that have ended. -/
def restL (o : Option (List UInt8)) : Lines := match o with
  | none => []
  | some d => if d.isEmpty then [] else [d]
def allL (bs : List UInt8) : Lines := (cutL [] bs).1 ++ restL (cutL [] bs).2
def allE (bs : List UInt8) : Nat := if (cutL [] bs).2 = none then 20 else 0

def AllEnd (w : World) (bs : List UInt8) (e : Ending) (w' : World) : Prop :=
  ∃ v, e = .returned (.tuple #[v, .int .i64 (allE bs)]) ∧ w'.ownsRow (w.heap.size + 1) 9 1 v (allL bs).length ((allL bs).map strV) ∧ Below w.heap.size w w'

/-- What holds ahead of each round. -/
structure AllInv (w : World) (ps : List (List UInt8)) (ov : Value) (k : Nat) (wr : World) : Prop where
  le : k ≤ ps.length
  ex : ∃ b L, cutL [] (ps.take k).flatten = (L, some b) ∧ wr.ownsRow (w.heap.size + 1) 9 1 ov L.length (L.map strV) ∧ Spl w.heap.size false b wr
  bel : Below w.heap.size w wr

theorem take_flat {ps : List (List UInt8)} {k : Nat} {x : List UInt8} (h : ps[k]? = some x) : (ps.take (k + 1)).flatten = (ps.take k).flatten ++ x := by
  obtain ⟨hk, rfl⟩ := List.getElem?_eq_some_iff.1 h
  rw [List.take_succ_eq_append_getElem hk, List.flatten_append]
  simp
theorem flat_le (ps : List (List UInt8)) (k : Nat) : (ps.take k).flatten.length ≤ ps.flatten.length := by
  have := congrArg (fun l => (List.flatten l).length) (List.take_append_drop k ps)
  simp only [List.flatten_append, List.length_append] at this
  omega
theorem flat_split (ps : List (List UInt8)) (k : Nat) : ps.flatten = (ps.take k).flatten ++ (ps.drop k).flatten := by
  rw [← List.flatten_append, List.take_append_drop]

set_option maxRecDepth 100000 in
set_option maxHeartbeats 4000000 in
theorem all_any (v : Value) (ps : List (List UInt8)) (w : World) (hP : IsPieces (· < w.heap.size) w v ps) (hn : ps.length ≤ 1000000) (hsz : ps.flatten.length ≤ 1000000) : Calls Try.prog 19 #[v] w (AllEnd w ps.flatten) := by
  have HP := Lib.hid (show ∀ W, Below w.heap.size w W → IsPieces (· < w.heap.size) W v ps from fun W hb => hP.below hb)
  obtain ⟨a, cap, rfl, -⟩ := hP
  have hI : AllInv w ps (.slice none 0 0) 0 (w.alloc (.cells (splA false []) 29)) := ⟨Nat.zero_le _, ⟨[], [], rfl, World.ownsRow_nil _ _ 9 1, spl_new w⟩, (Below.refl _ _).alloc (Nat.le_refl _) _⟩
  have HI := Lib.hid hI
  clear hI
  obtain ⟨i0, hi, hz0, hz1, hz2⟩ := info_parts Try.info9
  go_enter Try.func19, Try.ntmps19
  go_wp2_with (with_reducible refine wpList_build0 rfl 29 rfl (splA false []) Try.built29_zero ?_)
  have hI := HI.out
  clear HI
  generalize w.alloc (.cells (splA false []) 29) = W1 at hI ⊢
  go_loopw [5, 6] (fun ov i wr => ∃ (k : Nat) (u : Value), u = ov ∧ i = .int .i64 k ∧ AllInv w ps u k wr) (fun _ i _ => ps.length - (intOf i).toNat)
  case atStart => exact ⟨0, _, rfl, rfl, hI⟩
  case round =>
    clear hI
    obtain ⟨k, ov, rfl, rfl, hk, ⟨b, L, hcut, hown, hs⟩, hbel⟩ := hrel
    have hL : L.length ≤ (ps.take k).flatten.length := by
      have := cutL_count (ps.take k).flatten []
      rwa [hcut] at this
    have hof : ∀ k, ov.ownBlock = some k → w.heap.size + 1 ≤ k := fun k e => (hown.lt k e).1
    by_cases hlt : k < ps.length
    · obtain ⟨x, hx⟩ : ∃ x, ps[k]? = some x := ⟨ps[k], by simp⟩
      have hfl := flat_le ps (k + 1)
      have htf := take_flat hx
      rw [htf, List.length_append] at hfl
      obtain ⟨_, _, e, hcell⟩ := HP.out _ hbel
      cases e
      obtain ⟨gb, off, bv, rfl, _, hc, hbv⟩ := hcell k x hx
      have hbv' : IsBytes (· ≠ w.heap.size) wr bv x := hbv.mono (fun k _ h => by omega)
      have hsl : ∃ a c, bv = .slice a x.length c := by obtain ⟨a, c, rfl, _⟩ := hbv; exact ⟨a, c, rfl⟩
      obtain ⟨a3, c3, rfl⟩ := hsl
      have hca := cutL_append (ps.take k).flatten x []
      rw [hcut, ← htf] at hca
      simp only at hca
      have hle := hs.le
      have HC := Lib.hid hca
      have HO := Lib.hid hown
      have HS := Lib.hid hs
      have HV := Lib.hid hbv'
      have HFS := Lib.hid (flat_split ps (k + 1))
      have g1 : (0 : Int) ≤ (k : Int) := by omega
      have g2 : (k : Int) < (ps.length : Int) := by omega
      have hcount := cutL_count x b
      clear hca hown hs hbv hbv' hcut hcell hx htf
      go_wp2_with fail
      refine (cut_any w.heap.size b _ x _ HS.out HV.out (by omega)).mono ?_
      rintro e w1 ⟨lv, rfl, ho1, hs1, hf1⟩
      have hown1 := hf1.owns HO.out (fun k e h => by have := hof k e; omega)
      have hbel1 : Below w.heap.size w w1 := hbel.trans (hf1.below hbel.size (fun k e => by omega))
      have hlv : ∃ a n c, lv = .slice a n c := by
        rcases ho1.2 with ⟨rfl, _⟩ | ⟨g, cap, cur, rfl, _⟩
        · exact ⟨_, _, _, rfl⟩
        · exact ⟨_, _, _, rfl⟩
      obtain ⟨a4, n4, c4, rfl⟩ := hlv
      have HO1 := Lib.hid hown1
      have HX1 := Lib.hid ho1
      have HS1 := Lib.hid hs1
      have hw1 := hbel1.size
      have hlt1 := hs1.lt
      clear hown1 ho1 hs1 hf1 hc
      obtain ⟨L2, o2, e2⟩ : ∃ L2 o2, cutL b x = (L2, o2) := ⟨_, _, rfl⟩
      rw [e2] at hcount
      simp only at hcount
      have HE := Lib.hid e2
      clear e2
      have HX2 := Lib.hid (show w1.ownsRow wr.heap.size 9 1 (.slice a4 n4 c4) L2.length (L2.map strV) from by have := HX1.out; rwa [HE.out] at this)
      have HS2 := Lib.hid (show Spl w.heap.size o2.isNone (o2.getD []) w1 from by have := HS1.out; rwa [HE.out] at this)
      have hee : (if (cutL b x).2 = none then (20 : Int) else 0) = if o2 = none then 20 else 0 := by rw [HE.out]
      have HC2 := Lib.hid (show cutL [] (ps.take (k + 1)).flatten = (L ++ L2, o2) from by rw [HC.out, HE.out])
      rw [hee]
      clear hee HC HX1 HS1 HE
      cases o2 with
      | none =>
        simp only [if_true]
        go_wp2_with (at_builtin; refine wpList_append_texts rfl (.tmp 28) (.tmp 29) rfl (w.heap.size + 1) wr.heap.size _ _ L L2 rfl HO1.out rfl HX2.out (by omega) (by omega) ?_; intro v2 w2 hown2 hgrow2)
        go_ret2
        have hcc := cutL_append (ps.take (k + 1)).flatten (ps.drop (k + 1)).flatten []
        rw [HC2.out, ← HFS.out] at hcc
        simp only at hcc
        refine ⟨v2, by rw [allE, hcc]; rfl, by rw [allL, hcc]; simpa [restL] using hown2, hbel1.grown hgrow2 hw1 (fun k e => by have := hof k e; omega)⟩
      | some d =>
        simp only [reduceCtorEq, if_false]
        go_wp2_with (at_builtin; refine wpList_append_texts rfl (.tmp 28) (.tmp 29) rfl (w.heap.size + 1) wr.heap.size _ _ L L2 rfl HO1.out rfl HX2.out (by omega) (by omega) ?_; intro v2 w2 hown2 hgrow2)
        go_roundw
        case rel =>
          refine ⟨k + 1, _, rfl, by go_num, by omega, ⟨d, L ++ L2, HC2.out, hown2, ?_⟩, hbel1.grown hgrow2 hw1 (fun k e => by have := hof k e; omega)⟩
          exact HS2.out.frame ((Frame.refl (fun k => w.heap.size + 1 ≤ k) w1).grown hgrow2 (fun k _ e => hof k e)) (by omega)
        case measure => simp [intOf]; omega
    · obtain rfl : k = ps.length := by omega
      have g2 : ¬ (ps.length : Int) < (ps.length : Int) := by omega
      rw [List.take_length] at hcut hL
      have HC := Lib.hid hcut
      have HO := Lib.hid hown
      have HS := Lib.hid hs
      clear hcut hown hs hlt
      go_wp2_with fail
      refine (rest_any w.heap.size false b _ HS.out).mono ?_
      rintro e w1 ⟨rfl, hs1, hf1⟩
      have hown1 := hf1.owns HO.out (fun k e h => by have := hof k e; omega)
      have hbel1 : Below w.heap.size w w1 := hbel.trans (hf1.below hbel.size (fun k e => by omega))
      have HO1 := Lib.hid hown1
      have hw1 := hbel1.size
      have hlt1 := hs1.lt
      clear hown1 hs1 hf1
      by_cases hb : b = []
      · subst hb
        simp only [List.isEmpty_nil, Bool.not_true]
        go_wp2_with fail
        go_ret2
        refine ⟨ov, by rw [allE, HC.out]; rfl, by rw [allL, HC.out]; simpa [restL] using HO1.out, hbel1⟩
      · have he : b.isEmpty = false := by cases b <;> simp_all
        obtain ⟨S, hS⟩ : ∃ S : ByteArray, strV b = .string S := ⟨_, rfl⟩
        rw [he, hS]
        simp only [Bool.not_false]
        have HSS := Lib.hid hS
        clear hS hb
        go_wp2_with (at_builtin; refine wpList_append_own _ rfl (.tmp 41) (.tmp 43) 36 rfl (w.heap.size + 1) 9 i0 (.string ByteArray.empty) 1 16 Try.underlying36 hi hz0 hz1 hz2 rfl (by decide) _ _ _ rfl (HO1.out.alloc _) ⟨w1.heap.size, 0, none⟩ 1 1 [.string S] rfl rfl (cell_one_new _ _ _) (by simp [Value.oneCell']) (by unfold maxLen; omega) (by omega) (by simp; omega) ?_; intro v2 w2 hown2 hgrow2 _)
        go_ret2
        refine ⟨v2, by rw [allE, HC.out]; rfl, ?_, (hbel1.alloc hw1 _).grown hgrow2 (by simp; omega) (fun k e => by have := hof k e; omega)⟩
        rw [allL, HC.out]
        simpa [restL, he, HSS.out] using hown2

end Go.Proofs.Ytgpholcooabbfaa
