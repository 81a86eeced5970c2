/- What same does: one call of both disks, which come to the same state again. -/
import Derived.Test.YtpengkkbmenkpaaFssame
namespace Go.Proofs.Ytpengkkbmenkpaa
open Go.RowKit

/-- What one call of the law's does. -/
def doS (S : Script) (s : DSt) (c : FCall) : DSt :=
  if whatOf c.op = 0 then createS S s else if whatOf c.op = 1 then writeS S s c.no c.b else if whatOf c.op = 2 then readS S (readS S s c.no c.at' c.most) c.no c.at' c.most else removeS S s c.no
theorem Did.does {a b : Nat} {s : DSt} (h : Did a b s) (S : Script) (c : FCall) : Did (a + 2) (b + 1024) (doS S s c) := by
  unfold doS
  split
  · exact (h.create S).mono (by omega) (by omega)
  · split
    · exact (h.write S c.no c.b).mono (by omega) (by omega)
    · split
      · exact ((h.read S c.no c.at' c.most).read S c.no c.at' c.most).mono (by omega) (by omega)
      · exact (h.remove S c.no).mono (by omega) (by omega)

/-- A row of bytes, whatever they are. -/
def RowU8 (w : World) (g n : Nat) : Prop := ∃ cur : Array Value, w.heap[g]? = some (.cells cur 5 (0, 0)) ∧ ∀ j, j < n → ∃ m : Int, cur[j]? = some (.int .u8 m)
theorem RowU8.set {w : World} {g n : Nat} (h : RowU8 w g n) (j : Nat) (x : Int) : RowU8 (w.setCell ⟨g, j, none⟩ (.int .u8 x)) g n := by
  obtain ⟨cur, hh, hc⟩ := h
  refine ⟨_, setCell_row hh j _, fun i hi => ?_⟩
  by_cases hij : j = i
  · subst hij
    obtain ⟨m, hm⟩ := hc j hi
    have hlt := (Array.getElem?_eq_some_iff.1 hm).1
    exact ⟨x, by simp [hlt]⟩
  · obtain ⟨m, hm⟩ := hc i hi
    exact ⟨m, by rw [Array.getElem?_setIfInBounds_ne (by exact hij)]; exact hm⟩
theorem RowU8.frame {p : Nat → Prop} {w w' : World} {g n : Nat} (h : RowU8 w g n) (hf : Frame p w w') (hp : ¬ p g) : RowU8 w' g n := by
  obtain ⟨cur, hh, hc⟩ := h
  exact ⟨cur, hf.heap hh hp, hc⟩
theorem rowU8_of {w : World} {base g c : Nat} {bs : List UInt8} (h : w.ownsRow base 5 1 (.slice (some ⟨g, 0, none⟩) bs.length c) bs.length (bytesL bs)) : RowU8 w g bs.length := by
  have h' := h
  rcases h.2 with ⟨e, _⟩ | ⟨g', cap', cur, e, _, h5, _⟩
  · cases e
  · cases e
    refine ⟨cur, h5, fun j hj => ⟨bs[j].toNat, ?_⟩⟩
    have := World.ownsRow.cells h' (g := g) rfl j (.int .u8 bs[j].toNat) (by simp [bytesL, hj])
    rwa [Addr.add_mid, Nat.zero_add, cell_of_row _ _ _ _ _ _ h5] at this
/-- What may be turned: nothing, or a row of bytes. -/
def Turnable (lo : Nat) (w : World) (a : Option Addr) (n : Nat) : Prop := n = 0 ∨ ∃ g, a = some ⟨g, 0, none⟩ ∧ lo ≤ g ∧ RowU8 w g n
theorem turnable_of {w : World} {base : Nat} {a : Option Addr} {c : Nat} {bs : List UInt8} (h : w.ownsRow base 5 1 (.slice a bs.length c) bs.length (bytesL bs)) : Turnable base w a bs.length := by
  rcases h.2 with ⟨_, h0⟩ | ⟨g, cap, cur, e, hb, _⟩
  · exact .inl h0
  · simp only [Value.slice.injEq] at e
    obtain ⟨rfl, -, rfl⟩ := e
    exact .inr ⟨g, rfl, hb, rowU8_of h⟩

def SameEnd (base g r : Nat) (S : Script) (s' : DSt) (w : World) (e : Ending) (w' : World) : Prop :=
  e = .returned (.bool true) ∧ ∃ ownD ownR, Both base g r ownD ownR S s' s' w' ∧ Below base w w'
theorem SR.end {w : World} {base lo hi g r cb : Nat} {c : FCall} {bv bv2 : Value} {ownD ownR : Nat → Nat} {S : Script} {s' : DSt} {W : World} (h : SR w base lo hi g r cb c bv bv2 ownD ownR S s' s' W) : SameEnd base g r S s' w (.returned (.bool true)) W :=
  ⟨rfl, _, _, h.both, h.bel⟩

set_option maxRecDepth 100000 in
set_option maxHeartbeats 8000000 in
theorem same_any {base g r : Nat} {ownD ownR : Nat → Nat} {S : Script} {s : DSt} {w : World} (h : Both base g r ownD ownR S s s w) {a b : Nat} (hd : Did a b s) (ha : a ≤ 900000) (hb : b ≤ 900000) (hS : S.length ≤ 1000000) (c : FCall) (bv : Value)
    (hB : IsBytes (· < base) w bv c.b) (hl : c.b.length ≤ 3000) (hno : I64 c.no) :
    Calls Try.prog 9 #[.pointer (some ⟨g, 0, none⟩), .pointer (some ⟨r, 0, none⟩), .agg #[.int .i64 c.op, .int .i64 c.no, .int .i64 c.at', .int .i64 c.most, bv]] w (SameEnd base g r S (doS S s c) w) := by
  obtain ⟨ba, bc, rfl, -⟩ := id hB
  have HH := Lib.hid h
  have HB := Lib.hid hB
  have hsm : Small s := hd.small (by omega) (by omega)
  have hsm1 : ∀ at' most, Small (readS S s c.no at' most) := fun at' most => (hd.read S c.no at' most).small (by omega) (by omega)
  have HSM := Lib.hid hsm
  have HSM1 := Lib.hid hsm1
  have HS := Lib.hid hS
  have HNO := Lib.hid hno
  have HL := Lib.hid hl
  have HBASE := Lib.hid (show base ≤ w.heap.size by have := h.disk.bnd g (by rw [h.disk.atG]; omega); omega)
  obtain ⟨sx, hsx⟩ : ∃ sx, sx = doS S s c := ⟨_, rfl⟩
  rw [← hsx]
  have HSX := Lib.hid hsx
  clear h hd ha hb hB hsm hsm1 hS hno hl hsx
  go_enter Try.func9, Try.ntmps9
  go_upto_region 1 with fail
  have hh := heap_alloc_last w (.cells #[.int .i64 c.op, .int .i64 c.no, .int .i64 c.at', .int .i64 c.most, .slice ba c.b.length bc] 36)
  have hb1 : Below w.heap.size w (w.alloc (.cells #[.int .i64 c.op, .int .i64 c.no, .int .i64 c.at', .int .i64 c.most, .slice ba c.b.length bc] 36)) := (Below.refl _ _).alloc (Nat.le_refl _) _
  have hsz : (w.alloc (.cells #[.int .i64 c.op, .int .i64 c.no, .int .i64 c.at', .int .i64 c.most, .slice ba c.b.length bc] 36)).heap.size = w.heap.size + 1 := by simp
  generalize w.alloc (.cells #[.int .i64 c.op, .int .i64 c.no, .int .i64 c.at', .int .i64 c.most, .slice ba c.b.length bc] 36) = W1 at hh hb1 hsz ⊢
  obtain ⟨cb, hcb⟩ : ∃ cb, cb = w.heap.size := ⟨_, rfl⟩
  rw [← hcb] at hh ⊢
  have k4 : (W1.alloc (.cells #[] 5)).cell? ⟨cb, 4, none⟩ = some (.slice ba c.b.length bc) := by
    rw [Below.cell ((Below.refl W1.heap.size W1).alloc (Nat.le_refl _) _) (show cb < W1.heap.size by omega), cell_of_row _ _ _ _ _ _ hh]
    rfl
  have hown := World.ownsRow_made (base := w.heap.size) (e := 5) (size := 1) W1 #[] 0 (by omega) (Nat.zero_le _) rfl
  have hb1' : Below w.heap.size w (W1.alloc (.cells #[] 5)) := hb1.alloc (by omega) _
  have HOW := Lib.hid hown
  have HBY1 := Lib.hid (HB.out.below hb1')
  have HHH := Lib.hid hh
  have HB1 := Lib.hid hb1'
  have HCB := Lib.hid hcb
  have HSZ := Lib.hid hsz
  clear hh hb1 hb1' hown hcb hsz
  go_upto_region 2 with (at_builtin; refine wpList_append_row rfl (.tmp 25) (.tmp 27) 34 34 rfl Try.underlying34 Try.underlying34 w.heap.size _ _ [] c.b rfl HOW.out rfl HBY1.out (by have := HL.out; simp; omega) (by have := HSZ.out; simp; omega) ?_; intro v2 W2 ho2 hg2 hl2)
  simp only [List.nil_append] at ho2
  have hb2 : Below w.heap.size w W2 := owns_below_of HOW.out HB1.out hg2
  have hb12 : Below W1.heap.size W1 W2 := ((Below.refl W1.heap.size W1).alloc (Nat.le_refl _) (.cells #[] 5)).grown hg2 (by simp) (fun k e => by have := (HOW.out.lt k e); cases e; exact Nat.le_refl _)
  have hr2 : SR w base w.heap.size W2.heap.size g r cb c (.slice ba c.b.length bc) v2 ownD ownR S s s W2 := by
    have hz : ∀ k, w.heap.size ≤ k → ownD k = 0 ∧ ownR k = 0 := fun k hk => ⟨Classical.byContradiction fun h0 => by have := (HH.out.disk.bnd k h0).2; omega, Classical.byContradiction fun h0 => by have := (HH.out.ref.bnd k h0).2; omega⟩
    have hc := HCB.out
    have hs1 := HSZ.out
    have hs2 := hb12.size
    exact ⟨HH.out.below hb2, (hb12.block cb (by omega)).trans HHH.out, HB.out.below hb2, (isBytes_of_owns ho2).mono (fun k hk h => ⟨h, hk⟩), fun k h1 _ => hz k h1, ⟨by omega, by omega⟩, Nat.le_refl _, HBASE.out, hb2.mono HBASE.out⟩
  obtain ⟨hi, hhi⟩ : ∃ hi, hi = W2.heap.size := ⟨_, rfl⟩
  obtain ⟨lo, hlo⟩ : ∃ lo, lo = w.heap.size := ⟨_, rfl⟩
  rw [← hhi, ← hlo] at hr2
  obtain ⟨va2, vc2, rfl⟩ := owns_slice ho2
  have k0 : W2.cell? ⟨cb, 0, none⟩ = some (.int .i64 c.op) := by rw [cell_of_row _ _ _ _ _ _ hr2.call]; rfl
  have k1 := hr2.k1
  have k2 := hr2.k2
  have k3 := hr2.k3
  have k4 := hr2.k4
  have HR2 := Lib.hid hr2
  clear ho2 hg2 hl2 hb2 hb12 hr2 hhi hlo HOW HBY1 HHH HB1 HCB HSZ
  go_wp2_with fail
  refine (what_any c.op c.no c.at' c.most ba c.b.length bc W2).mono ?_
  rintro e W3 ⟨rfl, hb3⟩
  have hr3 := HR2.out.below hb3
  clear hb3 k0 k1 k2 k3 k4
  have k1 := hr3.k1
  have k2 := hr3.k2
  have k3 := hr3.k3
  have k4 := hr3.k4
  have HR3 := Lib.hid hr3
  clear hr3 HR2
  have hwr := whatOf_range c.op
  have hsx := HSX.out
  unfold doS at hsx
  obtain hw | hw | hw | hw : whatOf c.op = 0 ∨ whatOf c.op = 1 ∨ whatOf c.op = 2 ∨ whatOf c.op = 3 := by omega
  · -- Create
    rw [hw] at hsx ⊢
    rw [if_pos rfl] at hsx
    clear hw hwr k1 k2 k3 k4
    have hs' : sx = createS S s := hsx
    obtain ⟨n, hn⟩ : ∃ n, n = createN S s := ⟨_, rfl⟩
    obtain ⟨E, hE⟩ : ∃ E, E = createE S s := ⟨_, rfl⟩
    have HC := Lib.hid (create_any HR3.out.both.disk HSM.out)
    rw [← hs', ← hn, ← hE] at HC
    have HE := Lib.hid (show sx = createS S s ∧ n = createN S s ∧ E = createE S s from ⟨hs', hn, hE⟩)
    clear hsx hs' hn hE
    go_wp2_with fail
    refine HC.out.mono ?_
    rintro e W4 ⟨rfl, hl⟩
    obtain ⟨ownD4, hr4⟩ := HR3.out.leftD hl
    have hc4 := refCreate_any hr4.both.ref HSM.out HS.out
    rw [← HE.out.1, ← HE.out.2.1, ← HE.out.2.2] at hc4
    have HC4 := Lib.hid hc4
    have HR4 := Lib.hid hr4
    clear hl hr4 hc4 HC HR3
    go_wp2_with fail
    refine HC4.out.mono ?_
    rintro e W5 ⟨rfl, hl⟩
    obtain ⟨ownR5, hr5⟩ := HR4.out.leftR hl
    have HR5 := Lib.hid hr5
    clear hl hr5 HC4 HR4
    go_wp2_with fail
    go_ret
    exact HR5.out.end
  · -- Write
    rw [hw] at hsx ⊢
    rw [if_neg (by decide), if_pos rfl] at hsx
    clear hw hwr k2 k3
    have hs' : sx = writeS S s c.no c.b := hsx
    obtain ⟨E, hE⟩ : ∃ E, E = writeE S s c.no c.b := ⟨_, rfl⟩
    have HC := Lib.hid (write_any HR3.out.both.disk HSM.out HNO.out _ c.b HR3.out.cpy (fun k hk => (HR3.out.zone k hk.1 hk.2).1))
    rw [← hs', ← hE] at HC
    have HE := Lib.hid (show sx = writeS S s c.no c.b ∧ E = writeE S s c.no c.b from ⟨hs', hE⟩)
    clear hsx hs' hE
    go_wp2_with fail
    refine HC.out.mono ?_
    rintro e W4 ⟨rfl, hl⟩
    obtain ⟨ownD4, hr4⟩ := HR3.out.leftD hl
    have hc4 := refWrite_any hr4.both.ref HSM.out HS.out c.no _ c.b hr4.byt (fun k hk => hr4.lowR hk)
    rw [← HE.out.1, ← HE.out.2] at hc4
    clear k1 k4
    have k1 := hr4.k1
    have k4 := hr4.k4
    have HC4 := Lib.hid hc4
    have HR4 := Lib.hid hr4
    clear hl hr4 hc4 HC HR3
    go_wp2_with fail
    refine HC4.out.mono ?_
    rintro e W5 ⟨rfl, hl⟩
    obtain ⟨ownR5, hr5⟩ := HR4.out.leftR hl
    clear k1 k4
    have k4 := hr5.k4
    have hv1 := conv_any hr5.byt
    have hv2 := conv_any hr5.cpy
    obtain ⟨X, hX⟩ : ∃ X : ByteArray, strV c.b = .string X := ⟨_, rfl⟩
    rw [hX] at hv1 hv2
    have HR5 := Lib.hid hr5
    clear hl hr5 hX HC4 HR4
    go_wp2_with fail
    go_ret
    exact HR5.out.end
  · -- Read
    rw [hw] at hsx ⊢
    rw [if_neg (by decide), if_neg (by decide), if_pos rfl] at hsx
    clear hw hwr k4
    have hz3 : ∀ k, W3.heap.size ≤ k → ownD k = 0 ∧ ownR k = 0 := fun k hk => ⟨Classical.byContradiction fun h0 => by have := (HR3.out.both.disk.bnd k h0).2; omega, Classical.byContradiction fun h0 => by have := (HR3.out.both.ref.bnd k h0).2; omega⟩
    have hhi := HR3.out.hb
    have HZ3 := Lib.hid hz3
    have HHI := Lib.hid hhi
    obtain ⟨s1, hs1⟩ : ∃ s1, s1 = readS S s c.no c.at' c.most := ⟨_, rfl⟩
    obtain ⟨E1, hE1⟩ : ∃ E, E = readE S s c.no c.at' c.most := ⟨_, rfl⟩
    obtain ⟨B1, hB1⟩ : ∃ B, B = readB S s c.no c.at' c.most := ⟨_, rfl⟩
    rw [← hs1] at hsx
    have hc1 := read_any HR3.out.both.disk HSM.out HNO.out c.at' c.most
    rw [← hs1, ← hE1, ← hB1] at hc1
    have HC1 := Lib.hid hc1
    have hsm1 := HSM1.out c.at' c.most
    rw [← hs1] at hsm1
    have HS1 := Lib.hid hs1
    have HE1 := Lib.hid hE1
    have HB1' := Lib.hid hB1
    have HSM2 := Lib.hid hsm1
    have HSX2 := Lib.hid hsx
    have hbl : B1.length ≤ 1000000 := by
      rw [hB1]
      unfold readB
      split
      · rename_i h0
        obtain ⟨k, j, m, -, -, -, -, -, hB⟩ := read_text h0
        have h1 := HSM.out.t
        have h2 : ((fileAt s.T c.no).getD []).length ≤ 1000000 := by
          cases hf : fileAt s.T c.no with
          | none => simp
          | some t => obtain ⟨k, -, hk⟩ := fileAt_mem hf; exact h1 _ (List.mem_of_getElem? hk)
        simp only [List.length_take, List.length_drop]
        omega
      · simp
    have HBL := Lib.hid hbl
    clear hz3 hhi hs1 hE1 hB1 hc1 hsm1 hsx hbl
    go_wp2_with fail
    refine HC1.out.mono ?_
    rintro e W4 ⟨v1, rfl, ho1, hd1, hf1⟩
    have hr4 := HR3.out.readD hd1 hf1
    obtain ⟨a1, c1, rfl⟩ := owns_slice ho1
    have ht4 := turnable_of ho1
    clear k1 k2 k3
    have k1 := hr4.k1
    have k2 := hr4.k2
    have k3 := hr4.k3
    have hc2 := refRead_any hr4.both.ref HSM.out HS.out c.no c.at' c.most
    rw [← HS1.out, ← HE1.out, ← HB1'.out] at hc2
    have HC2 := Lib.hid hc2
    have HR4 := Lib.hid hr4
    have HT4 := Lib.hid ht4
    clear ho1 hd1 hf1 hr4 ht4 hc2 HC1
    go_wp2_with fail
    refine HC2.out.mono ?_
    rintro e W5 ⟨y1, rfl, hy1, hd2, hf2⟩
    have hr5 := HR4.out.readR hd2 hf2
    obtain ⟨ya, yc, rfl, -⟩ := hy1
    have hrlt : r < W3.heap.size := (HR3.out.both.ref.bnd r (by rw [HR3.out.both.ref.atR]; omega)).2
    have ht5 : Turnable W3.heap.size W5 a1 B1.length := by
      rcases HT4.out with h0 | ⟨gx, e1, h1, h2⟩
      · exact .inl h0
      · exact .inr ⟨gx, e1, h1, h2.frame hf2 (fun e => by have e' : gx = r := e; omega)⟩
    have HR5 := Lib.hid hr5
    have HT5 := Lib.hid ht5
    clear k1 k2 k3 hr5 ht5 hd2 hf2 hrlt HC2 HR4 HT4 HR3
    obtain ⟨n1, hn1⟩ : ∃ n, n = B1.length := ⟨_, rfl⟩
    rw [← hn1] at HT5 HBL ⊢
    clear hn1
    go_wp2_with fail
    go_loopw [18] (fun i wr => ∃ k : Nat, k ≤ n1 ∧ i = .int .i64 k ∧ SR w base lo hi g r cb c (.slice ba c.b.length bc) (.slice va2 c.b.length vc2) ownD ownR S s1 s1 wr ∧ Turnable W3.heap.size wr a1 n1) (fun i _ => n1 - (intOf i).toNat)
    case atStart => exact ⟨0, Nat.zero_le _, rfl, HR5.out, HT5.out⟩
    case round =>
      clear HR5 HT5
      obtain ⟨k, hk, rfl, hr6, ht6⟩ := hrel
      have q5 : (n1 : Int) ≤ 1000000 := by have := HBL.out; omega
      by_cases hlt : k < n1
      · rcases ht6 with h0 | ⟨gx, rfl, hgx, hU⟩
        · omega
        obtain ⟨cur, hh, hcur⟩ := id hU
        obtain ⟨m, hm⟩ := hcur k hlt
        have hc7 : wr.cell? ⟨gx, k, none⟩ = some (.int .u8 m) := by rw [cell_of_row _ _ _ _ _ _ hh]; exact hm
        have hf7 : wr.frozen? ⟨gx, k, none⟩ = false := frozen_of_row _ _ _ _ _ hh
        have HR6 := Lib.hid hr6
        have HU := Lib.hid hU
        have HGX := Lib.hid hgx
        have HLT := Lib.hid hlt
        have q1 : (0 : Int) ≤ (k : Int) := by omega
        have q2 : (k : Int) < (n1 : Int) := by omega
        clear hh hcur hm hr6 hU hgx hlt hk
        go_wp2_with fail
        refine ⟨⟨k + 1, HLT.out, by go_num, HR6.out.frame (Frame.cell _ _ _) (fun j e => ?_), .inr ⟨gx, rfl, HGX.out, HU.out.set _ _⟩⟩, by have := HLT.out; simp [intOf]; omega⟩
        have e' : j = gx := e
        rw [e']
        exact ⟨Nat.le_trans HHI.out HGX.out, HZ3.out gx HGX.out⟩
      · have q2 : ¬ (k : Int) < (n1 : Int) := by omega
        have k1 := hr6.k1
        have k2 := hr6.k2
        have k3 := hr6.k3
        obtain ⟨E2, hE2⟩ : ∃ E, E = readE S s1 c.no c.at' c.most := ⟨_, rfl⟩
        obtain ⟨B2, hB2⟩ : ∃ B, B = readB S s1 c.no c.at' c.most := ⟨_, rfl⟩
        have hc3 := read_any hr6.both.disk HSM2.out HNO.out c.at' c.most
        rw [← HSX2.out, ← hE2, ← hB2] at hc3
        have HC3 := Lib.hid hc3
        have HE2 := Lib.hid hE2
        have HB2 := Lib.hid hB2
        have HR6 := Lib.hid hr6
        clear hr6 ht6 hc3 hE2 hB2 hlt hk
        go_wp2_with fail
        refine HC3.out.mono ?_
        rintro e W7 ⟨v3, rfl, ho3, hd3, hf3⟩
        have hr7 := HR6.out.readD hd3 hf3
        have hz := isBytes_of_owns ho3
        have hrlt : r < wr.heap.size := (HR6.out.both.ref.bnd r (by rw [HR6.out.both.ref.atR]; omega)).2
        obtain ⟨a3, c3, rfl⟩ := owns_slice ho3
        clear k1 k2 k3
        have k1 := hr7.k1
        have k2 := hr7.k2
        have k3 := hr7.k3
        have hc4 := refRead_any hr7.both.ref HSM2.out HS.out c.no c.at' c.most
        rw [← HSX2.out, ← HE2.out, ← HB2.out] at hc4
        have HC4 := Lib.hid hc4
        have HR7 := Lib.hid hr7
        have HZ := Lib.hid hz
        have HRLT := Lib.hid hrlt
        clear ho3 hd3 hf3 hr7 hz hrlt hc4 HC3 HR6
        go_wp2_with fail
        refine HC4.out.mono ?_
        rintro e W8 ⟨y2, rfl, hy2, hd4, hf4⟩
        have hr8 := HR7.out.readR hd4 hf4
        have hv1 := conv_any (HZ.out.frame hf4 (fun k hk e => by have e' : k = r := e; have := HRLT.out; omega))
        have hv2 := conv_any hy2
        obtain ⟨ya2, yc2, rfl, -⟩ := hy2
        obtain ⟨X, hX⟩ : ∃ X : ByteArray, strV B2 = .string X := ⟨_, rfl⟩
        rw [hX] at hv1 hv2
        have HR8 := Lib.hid hr8
        clear k1 k2 k3 hr8 hd4 hf4 hX HC4 HR7
        go_wp2_with fail
        go_ret
        exact HR8.out.end
  · -- Remove
    rw [hw] at hsx ⊢
    rw [if_neg (by decide), if_neg (by decide), if_neg (by decide)] at hsx
    clear hw hwr k2 k3 k4
    have hs' : sx = removeS S s c.no := hsx
    obtain ⟨E, hE⟩ : ∃ E, E = removeE S s c.no := ⟨_, rfl⟩
    have HC := Lib.hid (remove_any HR3.out.both.disk HSM.out HNO.out)
    rw [← hs', ← hE] at HC
    have HE := Lib.hid (show sx = removeS S s c.no ∧ E = removeE S s c.no from ⟨hs', hE⟩)
    clear hsx hs' hE
    go_wp2_with fail
    refine HC.out.mono ?_
    rintro e W4 ⟨rfl, hl⟩
    obtain ⟨ownD4, hr4⟩ := HR3.out.leftD hl
    have hc4 := refRemove_any hr4.both.ref HSM.out HS.out c.no
    rw [← HE.out.1, ← HE.out.2] at hc4
    clear k1
    have k1 := hr4.k1
    have HC4 := Lib.hid hc4
    have HR4 := Lib.hid hr4
    clear hl hr4 hc4 HC HR3
    go_wp2_with fail
    refine HC4.out.mono ?_
    rintro e W5 ⟨rfl, hl⟩
    obtain ⟨ownR5, hr5⟩ := HR4.out.leftR hl
    have HR5 := Lib.hid hr5
    clear hl hr5 HC4 HR4
    go_wp2_with fail
    go_ret
    exact HR5.out.end

end Go.Proofs.Ytpengkkbmenkpaa
