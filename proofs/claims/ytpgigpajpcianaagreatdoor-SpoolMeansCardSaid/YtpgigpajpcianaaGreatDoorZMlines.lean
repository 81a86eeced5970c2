/- What the document's Lines does. -/
import Derived.Test.YtpgigpajpcianaaGreatDoorZDlines
import Derived.Test.YtpgigpajpcianaaGreatDoorZPB
import Derived.Outline
namespace Go.Proofs.YtpgigpajpcianaaGreatDoor
open Go.RowKit

def readV (lv : Value) (all : Bool) (e : Int × Int × Int) : Array Value := #[lv, .bool all, .int .i64 e.1, .int .i64 e.2.1, .int .i64 e.2.2]
def ReadEnd (w : World) (x : List UInt8) (ended : Bool) (er : Int × Int × Int) (e : Ending) (w' : World) : Prop :=
  ∃ v, e = .returned (.agg (readV v (readL x ended er).2.1 (readL x ended er).2.2)) ∧ w'.ownsRow w.heap.size 9 1 v (readL x ended er).1.length ((readL x ended er).1.map strV) ∧ Below w.heap.size w w'
structure ReadInv (bs : List UInt8) (w : World) (sv : Array Value) (lv : Value) (t k : Nat) (wr : World) : Prop where
  le : k ≤ bs.length
  at_le : t ≤ k
  short : k - t ≤ 64
  ex : ∃ L, cutL [] bs = (L ++ (cutL ((bs.drop t).take (k - t)) (bs.drop k)).1, (cutL ((bs.drop t).take (k - t)) (bs.drop k)).2) ∧ wr.ownsRow (w.heap.size + 3) 9 1 lv L.length (L.map strV) ∧ L.length ≤ k
  box : wr.heap[w.heap.size]? = some (.cells sv 59 (0, 0))
  res : wr.heap[w.heap.size + 1]? = some (.cells (readV (.slice none 0 0) false (0, 0, 0)) 70 (0, 0))
  row : wr.heap[w.heap.size + 2]? = some (.cells (readV lv false (0, 0, 0)) 70 (0, 0))
  bel : Below w.heap.size w wr
theorem part_succ {bs : List UInt8} {t k : Nat} {c : UInt8} (h : bs[k]? = some c) (ht : t ≤ k) : (bs.drop t).take (k + 1 - t) = (bs.drop t).take (k - t) ++ [c] := by
  have hk : k < bs.length := (List.getElem?_eq_some_iff.1 h).1
  have e : (bs.drop t)[k - t]? = some c := by rw [List.getElem?_drop, show t + (k - t) = k by omega]; exact h
  obtain ⟨h1, h2⟩ := List.getElem?_eq_some_iff.1 e
  rw [show k + 1 - t = (k - t) + 1 by omega, List.take_succ_eq_append_getElem h1, h2]
theorem drop_at' {bs : List UInt8} {k : Nat} {c : UInt8} (h : bs[k]? = some c) : bs.drop k = c :: bs.drop (k + 1) := by
  obtain ⟨h1, h2⟩ := List.getElem?_eq_some_iff.1 h
  rw [List.drop_eq_getElem_cons h1, h2]
theorem ret_read {fn : Func} {p : Tmp} (hr : fn.results = #[.cell p 70]) {a : Act} {w : World} {R : Ending → World → Prop} {B : Nat} {cs : Array Value}
    (hd : a.defers = []) (hp : a.tmps.getD p undef = .pointer (some ⟨B, 0, none⟩)) (hg : w.heap[B]? = some (.cells cs 70 (0, 0))) (hs : cs.size = 5)
    (h : R (.returned (.agg cs)) w) : bodyPost Tryz.prog fn R .ret a w := by
  refine bodyPost_ret (v := .agg cs) ?_ hd h
  have hp' : a.tmps[p]?.getD undef = .pointer (some ⟨B, 0, none⟩) := by simpa using hp
  have hl := run_loadVar_row (P := Tryz.prog) w B 70 70 cs (0, 0) _ hg Tryz.underlying70 rfl (by rw [hs]; kernel_rfl)
  simp [results, hr, hp', asAddr, hl]
theorem put_err {w : World} {g : Nat} {lv b x y z : Value} (p q r : Value) (h : w.heap[g]? = some (.cells #[lv, b, x, y, z] 70 (0, 0))) :
    (w.setCells g 2 [p, q, r]).heap[g]? = some (.cells #[lv, b, p, q, r] 70 (0, 0)) :=
  heap_setCells [p, q, r] 2 w g [lv, b] [x, y, z] [] _ _ h rfl rfl
theorem put_all {w : World} {g : Nat} {lv b x y z : Value} (h : w.heap[g]? = some (.cells #[lv, b, x, y, z] 70 (0, 0))) :
    (w.setCell ⟨g, 1, none⟩ (.bool true)).heap[g]? = some (.cells #[lv, .bool true, x, y, z] 70 (0, 0)) :=
  heap_setCells [.bool true] 1 w g [lv] [b] [x, y, z] _ _ h rfl rfl
theorem piece {W : World} {gb off cap : Nat} {bs : List UInt8} (h : ∀ j c, bs[j]? = some c → W.cell? ⟨gb, off + j, none⟩ = some (.int .u8 c.toNat)) (hcap : bs.length ≤ cap) (m n : Nat) (hn : m + n ≤ bs.length) :
    IsBytes (fun _ => True) W (.slice (some ⟨gb, off + m, none⟩) n (cap - m)) ((bs.drop m).take n) := by
  have hl : ((bs.drop m).take n).length = n := by simp; omega
  refine ⟨_, _, by rw [hl], by rw [hl]; omega, fun j c hj => ⟨gb, off + m, rfl, trivial, ?_⟩⟩
  have hj' : j < n := by have := (List.getElem?_eq_some_iff.1 hj).1; omega
  have := h (m + j) c (by rw [List.getElem?_take_of_lt hj', List.getElem?_drop] at hj; exact hj)
  rwa [← Nat.add_assoc] at this
theorem box0 {W : World} {g : Nat} {v a b c d : Value} {t : TypeId} {fr : Nat × Nat} (h : W.heap[g]? = some (.cells #[v, a, b, c, d] t fr)) : W.cell? ⟨g, 0, none⟩ = some v := by
  rw [cell_of_row _ _ _ _ _ _ h]
  rfl
theorem row_there {w : World} {g : Nat} {lv b x y z : Value} (h : w.heap[g]? = some (.cells #[lv, b, x, y, z] 70 (0, 0))) : w.there g 2 3 := fun j hj => by
  have hc : j = 0 ∨ j = 1 ∨ j = 2 := by omega
  refine ⟨?_, by simp [World.frozen?, h]⟩
  rw [cell_of_row _ _ _ _ _ _ h]
  rcases hc with rfl | rfl | rfl <;> rfl
theorem _root_.Go.World.ownsRow.heap_kept {W W' : World} {base : Nat} {e : TypeId} {size : Nat} {v : Value} {n : Nat} {xs : List Value} (h : W.ownsRow base e size v n xs) (hk : ∀ j, base ≤ j → W'.heap[j]? = W.heap[j]?) : W'.ownsRow base e size v n xs :=
  Pm.owns_keep h fun k hk' => hk k (h.lt k hk').1
theorem put_below {w : World} {g B : Nat} (p q r : Value) (hB : B ≤ g) : Below B w (w.setCells g 2 [p, q, r]) :=
  ⟨by simp [World.setCells, World.setCell], by simp [World.setCells, World.setCell], by simp [World.setCells, World.setCell], by simp [World.setCells, World.setCell], fun k hk => other_setCells _ _ _ _ _ (by omega)⟩
theorem owns_lower {W : World} {b b' : Nat} {e : TypeId} {size : Nat} {v : Value} {n : Nat} {xs : List Value} (h : W.ownsRow b e size v n xs) (hb : b' ≤ b) : W.ownsRow b' e size v n xs := by
  obtain ⟨h1, h2⟩ := h
  refine ⟨h1, ?_⟩
  rcases h2 with h2 | ⟨k, cap, cur, rfl, h4, h5⟩
  · exact .inl h2
  · exact .inr ⟨k, cap, cur, rfl, Nat.le_trans hb h4, h5⟩
theorem read_ends {bs : List UInt8} {ended : Bool} {er : Int × Int × Int} {w W : World} {L : Lines} {all : Bool} {p q r : Int} {la : Option Addr} {lc : Nat} {old : Array Value} {fn : Func} {t : Tmp} {a : Act}
    (hrd : readL bs ended er = (L, all, (p, q, r))) (ho : W.ownsRow (w.heap.size + 3) 9 1 (.slice la (List.length L) lc) (List.length L) (List.map strV L)) (hb : Below w.heap.size w W) (hres : W.heap[w.heap.size + 1]? = some (.cells old 70 (0, 0)))
    (hr : fn.results = #[.cell t 70]) (hd : a.defers = []) (hp : a.tmps.getD t undef = .pointer (some ⟨w.heap.size + 1, 0, none⟩)) :
    bodyPost Tryz.prog fn (ReadEnd w bs ended er) .ret a (W.setRow (w.heap.size + 1) #[.slice la (List.length L) lc, .bool all, .int .i64 p, .int .i64 q, .int .i64 r]) := by
  refine ret_read hr hd hp (setRow_heap _ _ _ _ _ _ hres) rfl ?_
  refine ⟨.slice la (List.length L) lc, by rw [hrd]; rfl, ?_, hb.trans ⟨rfl, rfl, rfl, by simp, fun j hj => setRow_other _ _ _ _ (by omega)⟩⟩
  rw [hrd]
  exact owns_lower (ho.heap_kept fun j hj => setRow_other _ _ _ _ (by omega)) (by omega)
theorem wp_append_text {o : Oper} {a : Act} {w : World} {K : Act → World → Prop} {Q : Exit → Act → World → Prop} (s x : Operand) (ho : o.op = .call { callee := .builtin .append, args := #[s, x], argTypes := #[50, 50] })
    (base : Nat) (v : Value) (L : Lines) (l : List UInt8) (g : Nat) (hs : a.eval s = v) (hown : w.ownsRow base 9 1 v L.length (L.map strV)) (hx : a.eval x = .slice (some ⟨g, 0, none⟩) 1 1) (hl : w.cell? ⟨g, 0, none⟩ = some (strV l)) (hlen : L.length ≤ 2000000) (hbase : base ≤ w.heap.size) (d : Tmp) (hd : o.dst = some d)
    (h : ∀ v' w', w'.ownsRow base 9 1 v' (L ++ [l]).length ((L ++ [l]).map strV) → w.grownBy w' v.ownBlock → K (a.put (some d) v') w') : o.wp Tryz.prog a w K Q := by
  rw [← hd] at h
  obtain ⟨i0, hi, hz0, hz1, hz2⟩ := info_parts Tryz.info9
  obtain ⟨v', w', hr, h2, h3, -, -⟩ := run_append_own_at (P := Tryz.prog) w base 50 o.type 9 i0 (.string ByteArray.empty) 1 16 (by kernel_rfl) hi hz0 hz1 hz2 rfl (by decide) v L.length _ hown ⟨g, 0, none⟩ 1 1 [strV l] rfl
    (fun j u hu => by
      match j, hu with
      | 0, hu => simp at hu; subst hu; rw [Addr.add_mid]; exact hl
      | j + 1, hu => simp at hu) (by intro u hu; rw [List.mem_singleton.1 hu]; rfl) (by unfold maxLen; omega) (by omega) hbase
  unfold Oper.wp execOp
  simp only [ho, resolve, invoke, builtin, Sem.run_bind, Sem.run_pure, Result.andThen_ok, List.map_toArray, List.map_cons, List.map_nil, hs, hx, hr]
  exact h v' w' (by simpa using h2) h3
set_option maxRecDepth 100000 in
set_option maxHeartbeats 8000000 in
theorem lines_some (gb off cap : Nat) (bs : List UInt8) (ended : Bool) (c1 c2 c3 : Int) (w : World) (hB : ∀ j c, bs[j]? = some c → w.cell? ⟨gb, off + j, none⟩ = some (.int .u8 c.toNat)) (hcap : bs.length ≤ cap) (hsz : bs.length ≤ 2000000) :
    Calls Tryz.prog 30 #[.agg #[.slice (some ⟨gb, off, none⟩) bs.length cap, .bool ended, .int .i64 c1, .int .i64 c2, .int .i64 c3]] w (ReadEnd w bs ended (c1, c2, c3)) := by
  have HB := Lib.hid (show ∀ W, Below w.heap.size w W → ∀ j c, bs[j]? = some c → W.cell? ⟨gb, off + j, none⟩ = some (.int .u8 c.toNat) from fun W hb j c hj => by
    have := hB j c hj
    rw [hb.cell (block_lt_of_cell this)]
    exact this)
  clear hB
  go_enter Tryz.func30, Tryz.ntmps30
  go_wp2_with fail
  have hI : ReadInv bs w #[.slice (some ⟨gb, off, none⟩) bs.length cap, .bool ended, .int .i64 c1, .int .i64 c2, .int .i64 c3] (.slice none 0 0) 0 0 (((w.alloc (.cells #[.slice (some ⟨gb, off, none⟩) bs.length cap, .bool ended, .int .i64 c1, .int .i64 c2, .int .i64 c3] 59)).alloc (.cells #[.slice none 0 0, .bool false, .int .i64 0, .int .i64 0, .int .i64 0] 70)).alloc (.cells #[.slice none 0 0, .bool false, .int .i64 0, .int .i64 0, .int .i64 0] 70)) := by
    refine ⟨Nat.zero_le _, Nat.le_refl _, by omega, ⟨[], by simp, World.ownsRow_nil _ _ 9 1, by simp⟩, ?_, ?_, ?_, (((Below.refl _ _).alloc (Nat.le_refl _) _).alloc (by simp) _).alloc (by simp; omega) _⟩
    · rw [Below.heap_alloc _ _ _ (by simp; omega), Below.heap_alloc _ _ _ (by simp)]; exact heap_alloc_last w _
    · rw [Below.heap_alloc _ _ _ (by simp)]
      have := heap_alloc_last (w.alloc (.cells #[.slice (some ⟨gb, off, none⟩) bs.length cap, .bool ended, .int .i64 c1, .int .i64 c2, .int .i64 c3] 59)) (.cells (readV (.slice none 0 0) false (0, 0, 0)) 70)
      rw [World.size_alloc] at this
      exact this
    · have := heap_alloc_last ((w.alloc (.cells #[.slice (some ⟨gb, off, none⟩) bs.length cap, .bool ended, .int .i64 c1, .int .i64 c2, .int .i64 c3] 59)).alloc (.cells (readV (.slice none 0 0) false (0, 0, 0)) 70)) (.cells (readV (.slice none 0 0) false (0, 0, 0)) 70)
      rw [World.size_alloc, World.size_alloc] at this
      exact this
  generalize ((w.alloc (.cells #[.slice (some ⟨gb, off, none⟩) bs.length cap, .bool ended, .int .i64 c1, .int .i64 c2, .int .i64 c3] 59)).alloc (.cells #[.slice none 0 0, .bool false, .int .i64 0, .int .i64 0, .int .i64 0] 70)).alloc (.cells #[.slice none 0 0, .bool false, .int .i64 0, .int .i64 0, .int .i64 0] 70) = W0 at hI ⊢
  go_loopw [4, 5] (fun t i wr => ∃ (lv : Value) (m k : Nat), t = .int .i64 m ∧ i = .int .i64 k ∧ ReadInv bs w #[.slice (some ⟨gb, off, none⟩) bs.length cap, .bool ended, .int .i64 c1, .int .i64 c2, .int .i64 c3] lv m k wr) (fun _ i _ => bs.length - (intOf i).toNat)
  case atStart => exact ⟨_, 0, 0, rfl, rfl, hI⟩
  case round =>
    clear hI
    obtain ⟨lv, m, k, rfl, rfl, hk, hmk, h64, ⟨L, hcut, hown, hLk⟩, hbox, hres, hrow, hbel⟩ := hrel
    have b0 : wr.cell? ⟨w.heap.size, 0, none⟩ = some (.slice (some ⟨gb, off, none⟩) bs.length cap) := by rw [cell_of_row _ _ _ _ _ _ hbox]; rfl
    obtain ⟨la, lc, rfl⟩ := Pm.owns_slice hown
    have HO := Lib.hid hown
    have HBX := Lib.hid hbox
    have HRS := Lib.hid hres
    have HRW := Lib.hid hrow
    have HBL := Lib.hid hbel
    clear hown hbox hres hrow hbel
    by_cases hlt : k < bs.length
    · obtain ⟨c, hc⟩ : ∃ c, bs[k]? = some c := ⟨bs[k], by simp⟩
      have hx := HB.out wr HBL.out k c hc
      have hd := drop_at' hc
      have hps := part_succ hc hmk
      rw [hd] at hcut
      have HC := Lib.hid hcut
      have HPS := Lib.hid hps
      have g1 : (0 : Int) ≤ (k : Int) := by omega
      have g2 : (k : Int) < (bs.length : Int) := by omega
      have hpl : ((bs.drop m).take (k - m)).length = k - m := by simp; omega
      by_cases hten : c = 10
      · have t1 : ((c.toNat : Int) == 10) = true := by simp [hten]
        clear hcut hps hd hc hpl
        have hpart := fun (W : World) (hb : Below w.heap.size w W) => piece (HB.out W hb) hcap m (k - m) (by omega)
        obtain ⟨S, hS⟩ : ∃ S : ByteArray, strV ((bs.drop m).take (k - m)) = .string S := ⟨_, rfl⟩
        have g3 : (0 : Int) ≤ (m : Int) := by omega
        have g4 : (m : Int) ≤ (k : Int) := by omega
        have g5 : (k : Int) ≤ (cap : Int) := by omega
        have g6 : ¬ cap = m := by omega
        go_upto_region 7 with fail
        refine wp_region_noPanic ?_
        refine wp_region_held (S := fun W => W.heap[w.heap.size]? = some (.cells #[.slice (some ⟨gb, off, none⟩) bs.length cap, .bool ended, .int .i64 c1, .int .i64 c2, .int .i64 c3] 59 (0, 0)) ∧ Below w.heap.size w W) (by kernel_rfl) ?_
        change wpAnyH _ _ _ _ _ _ _ _ wr.drew
        have hM : (fun W : World => W.heap[w.heap.size]? = some (.cells #[.slice (some ⟨gb, off, none⟩) bs.length cap, .bool ended, .int .i64 c1, .int .i64 c2, .int .i64 c3] 59 (0, 0)) ∧ Below w.heap.size w W) wr.drew := ⟨HBX.out, HBL.out.drew⟩
        have hrow : wr.drew.heap[w.heap.size + 2]? = _ := HRW.out
        have ho2 : wr.drew.ownsRow (w.heap.size + 3) 9 1 (.slice la L.length lc) L.length (L.map strV) := HO.out
        have hres2 : wr.drew.heap[w.heap.size + 1]? = _ := HRS.out
        unfold readV at hrow
        generalize wr.drew = W2 at hM hrow ho2 hres2 ⊢
        refine Pm.take_at (i := 0) 20 (.pointer (some ⟨w.heap.size + 1 + 1, 0, none⟩)) rfl rfl (by kernel_rfl) (by kernel_rfl) (by kernel_rfl) rfl (fun _ _ => by go_simp) hM ?_
        refine Pm.take_at (i := 2) 22 (.pointer (some ⟨w.heap.size, 0, none⟩)) rfl rfl (by kernel_rfl) (by kernel_rfl) (by kernel_rfl) rfl (fun _ _ => by go_simp) hM ?_
        refine Pm.take_at (i := 3) 23 (.slice (some ⟨gb, off, none⟩) bs.length cap) rfl rfl (by kernel_rfl) (by kernel_rfl) (by kernel_rfl) rfl (fun W h => by have hc := box0 h.1; go_simp) hM ?_
        refine Pm.take_at (i := 4) 24 (.int .i64 m) rfl rfl (by kernel_rfl) (by kernel_rfl) (by kernel_rfl) rfl (fun _ _ => rfl) hM ?_
        refine Pm.take_at (i := 5) 25 (.int .i64 k) rfl rfl (by kernel_rfl) (by kernel_rfl) (by kernel_rfl) rfl (fun _ _ => rfl) hM ?_
        refine Pm.take_at (i := 6) 26 (.slice (some ⟨gb, off + m, none⟩) (k - m) (cap - m)) rfl rfl (by kernel_rfl) (by kernel_rfl) (by kernel_rfl) rfl (fun _ _ => by go_simp) hM ?_
        refine Pm.take_at (i := 7) 27 (.string S) rfl rfl (by kernel_rfl) (by kernel_rfl) (by kernel_rfl) rfl (fun W h => by have hc := conv_any (hpart W h.2); rw [hS] at hc; go_simp) hM ?_
        have k2 := box0 hrow
        have hlt2 := (Array.getElem?_eq_some_iff.1 hrow).1
        have hal : Below W2.heap.size W2 (W2.alloc (.cells #[.string S] 9)) := (Below.refl _ _).alloc (Nat.le_refl _) _
        have hM3 : (fun W : World => W.heap[w.heap.size]? = some (.cells #[.slice (some ⟨gb, off, none⟩) bs.length cap, .bool ended, .int .i64 c1, .int .i64 c2, .int .i64 c3] 59 (0, 0)) ∧ Below w.heap.size w W) (W2.alloc (.cells #[.string S] 9)) := ⟨by rw [Below.heap_alloc _ _ _ (by omega)]; exact hM.1, hM.2.trans (hal.mono hM.2.size)⟩
        have hrow3 := (hal.block (w.heap.size + 2) (by omega)).trans hrow
        have hres3 := (hal.block (w.heap.size + 1) (by omega)).trans hres2
        have k3 := box0 hrow3
        have ho3 : (W2.alloc (.cells #[.string S] 9)).ownsRow (w.heap.size + 3) 9 1 (.slice la L.length lc) L.length (L.map strV) := ho2.alloc _
        have k4 : (W2.alloc (.cells #[.string S] 9)).cell? ⟨W2.heap.size, 0, none⟩ = some (strV ((bs.drop m).take (k - m))) := by rw [hS, cell_of_row _ _ _ _ _ _ (heap_alloc_last W2 _)]; rfl
        refine wpAnyH_all (rs := [1, 8]) (by kernel_rfl) (by decide) ?_
        intro i hi
        rcases List.mem_cons.1 hi with rfl | hi
        · clear hi
          refine Pm.wpOp_at rfl rfl ?_
          go_wp2_with fail
          refine Pm.one_now (i := 8) rfl (by kernel_rfl) rfl ?_
          go_wp2_with fail
          refine Pm.one_now (i := 9) rfl (by kernel_rfl) rfl ?_
          refine wp_append_text (.tmp 21) (.tmp 28) rfl (w.heap.size + 3) (.slice la L.length lc) L ((bs.drop m).take (k - m)) W2.heap.size rfl ho3 rfl k4 (by omega) (by have := hal.size; omega) 29 rfl ?_
          intro v5 W5 ho5 hg5
          have hb5 : Below (w.heap.size + 3) (W2.alloc (.cells #[.string S] 9)) W5 := (Below.refl _ _).grown hg5 (by have := hal.size; omega) (fun j ej => (ho3.lt j ej).1)
          obtain ⟨a5, l5, rfl⟩ := Pm.owns_slice ho5
          have hbx5 := (hb5.block w.heap.size (by omega)).trans hM3.1
          have hrw5 := (hb5.block (w.heap.size + 2) (by omega)).trans hrow3
          have hrs5 := (hb5.block (w.heap.size + 1) (by omega)).trans hres3
          have hM5 : (fun W : World => W.heap[w.heap.size]? = some (.cells #[.slice (some ⟨gb, off, none⟩) bs.length cap, .bool ended, .int .i64 c1, .int .i64 c2, .int .i64 c3] 59 (0, 0)) ∧ Below w.heap.size w W) W5 := ⟨hbx5, hM3.2.trans (hb5.mono (by omega))⟩
          refine ⟨hM5, ?_⟩
          simp only [Act.put]
          refine Pm.take_at (i := 10) 30 (.pointer (some ⟨w.heap.size + 1 + 1, 0, none⟩)) rfl rfl (by kernel_rfl) (by kernel_rfl) (by kernel_rfl) rfl (fun _ _ => by go_simp) hM5 ?_
          refine Pm.one_now (i := 11) rfl (by kernel_rfl) rfl ?_
          have k5 := box0 hrw5
          have z5 : W5.frozen? ⟨w.heap.size + 1 + 1, 0, none⟩ = false := by simp [World.frozen?, hrw5]
          go_wp2_with fail
          have hc6 := fun x => Below.heap_setCell W5 ⟨w.heap.size + 2, 0, none⟩ x
          have hrw6 := setCell_row (o := 0) (v := .slice a5 (List.length L + 1) l5) hrw5
          have hb6 : Below (w.heap.size + 2) W5 (W5.setCell ⟨w.heap.size + 1 + 1, 0, none⟩ (.slice a5 (List.length L + 1) l5)) := Below.setCell (B := w.heap.size + 2) (p := ⟨w.heap.size + 2, 0, none⟩) (Below.refl _ _) (Nat.le_refl _) _
          have hbx6 := (hc6 (.slice a5 (List.length L + 1) l5) w.heap.size (by simp)).trans hbx5
          have hrs6 := (hc6 (.slice a5 (List.length L + 1) l5) (w.heap.size + 1) (by simp)).trans hrs5
          have ho6 := ho5.heap_kept (W' := W5.setCell ⟨w.heap.size + 1 + 1, 0, none⟩ (.slice a5 (List.length L + 1) l5)) (fun j hj => hc6 (.slice a5 (List.length L + 1) l5) j (by simp; omega))
          refine ⟨⟨hbx6, hM5.2.trans (hb6.mono (by omega))⟩, ?_⟩
          have hbel6 := hM5.2.trans (hb6.mono (by omega))
          clear hb6 hc6 k5 z5 hrw5 hrs5 hbx5 hb5 ho5 hg5 hM5
          generalize W5.setCell ⟨w.heap.size + 1 + 1, 0, none⟩ (.slice a5 (List.length L + 1) l5) = W6 at hrw6 hbx6 hrs6 ho6 hbel6 ⊢
          refine wpAnyH_done (by kernel_rfl) (NoPanic.normal ?_) _
          go_wp2_with fail
          refine ⟨⟨_, k + 1, k + 1, by go_num, by go_num, by omega, by omega, by omega, ⟨L ++ [(bs.drop m).take (k - m)], ?_, by simpa using ho6, by simp; omega⟩, hbx6, hrs6, hrw6, hbel6⟩, by simp [intOf]; omega⟩
          rw [HC.out, hten, cutL_end]
          simp
        · obtain rfl : i = 8 := by simpa using hi
          clear hi
          refine Pm.wpOp_at rfl rfl ?_
          go_wp2_with fail
          refine Pm.one_now (i := 1) rfl (by kernel_rfl) rfl ?_
          go_wp2_with fail
          refine Pm.one_now (i := 9) rfl (by kernel_rfl) rfl ?_
          refine wp_append_text (.tmp 21) (.tmp 28) rfl (w.heap.size + 3) (.slice la L.length lc) L ((bs.drop m).take (k - m)) W2.heap.size rfl ho3 rfl k4 (by omega) (by have := hal.size; omega) 29 rfl ?_
          intro v5 W5 ho5 hg5
          have hb5 : Below (w.heap.size + 3) (W2.alloc (.cells #[.string S] 9)) W5 := (Below.refl _ _).grown hg5 (by have := hal.size; omega) (fun j ej => (ho3.lt j ej).1)
          obtain ⟨a5, l5, rfl⟩ := Pm.owns_slice ho5
          have hbx5 := (hb5.block w.heap.size (by omega)).trans hM3.1
          have hrw5 := (hb5.block (w.heap.size + 2) (by omega)).trans hrow3
          have hrs5 := (hb5.block (w.heap.size + 1) (by omega)).trans hres3
          have hM5 : (fun W : World => W.heap[w.heap.size]? = some (.cells #[.slice (some ⟨gb, off, none⟩) bs.length cap, .bool ended, .int .i64 c1, .int .i64 c2, .int .i64 c3] 59 (0, 0)) ∧ Below w.heap.size w W) W5 := ⟨hbx5, hM3.2.trans (hb5.mono (by omega))⟩
          refine ⟨hM5, ?_⟩
          simp only [Act.put]
          refine Pm.take_at (i := 10) 30 (.pointer (some ⟨w.heap.size + 1 + 1, 0, none⟩)) rfl rfl (by kernel_rfl) (by kernel_rfl) (by kernel_rfl) rfl (fun _ _ => by go_simp) hM5 ?_
          refine Pm.one_now (i := 11) rfl (by kernel_rfl) rfl ?_
          have k5 := box0 hrw5
          have z5 : W5.frozen? ⟨w.heap.size + 1 + 1, 0, none⟩ = false := by simp [World.frozen?, hrw5]
          go_wp2_with fail
          have hc6 := fun x => Below.heap_setCell W5 ⟨w.heap.size + 2, 0, none⟩ x
          have hrw6 := setCell_row (o := 0) (v := .slice a5 (List.length L + 1) l5) hrw5
          have hb6 : Below (w.heap.size + 2) W5 (W5.setCell ⟨w.heap.size + 1 + 1, 0, none⟩ (.slice a5 (List.length L + 1) l5)) := Below.setCell (B := w.heap.size + 2) (p := ⟨w.heap.size + 2, 0, none⟩) (Below.refl _ _) (Nat.le_refl _) _
          have hbx6 := (hc6 (.slice a5 (List.length L + 1) l5) w.heap.size (by simp)).trans hbx5
          have hrs6 := (hc6 (.slice a5 (List.length L + 1) l5) (w.heap.size + 1) (by simp)).trans hrs5
          have ho6 := ho5.heap_kept (W' := W5.setCell ⟨w.heap.size + 1 + 1, 0, none⟩ (.slice a5 (List.length L + 1) l5)) (fun j hj => hc6 (.slice a5 (List.length L + 1) l5) j (by simp; omega))
          refine ⟨⟨hbx6, hM5.2.trans (hb6.mono (by omega))⟩, ?_⟩
          have hbel6 := hM5.2.trans (hb6.mono (by omega))
          clear hb6 hc6 k5 z5 hrw5 hrs5 hbx5 hb5 ho5 hg5 hM5
          generalize W5.setCell ⟨w.heap.size + 1 + 1, 0, none⟩ (.slice a5 (List.length L + 1) l5) = W6 at hrw6 hbx6 hrs6 ho6 hbel6 ⊢
          refine wpAnyH_done (by kernel_rfl) (NoPanic.normal ?_) _
          go_wp2_with fail
          refine ⟨⟨_, k + 1, k + 1, by go_num, by go_num, by omega, by omega, by omega, ⟨L ++ [(bs.drop m).take (k - m)], ?_, by simpa using ho6, by simp; omega⟩, hbx6, hrs6, hrw6, hbel6⟩, by simp [intOf]; omega⟩
          rw [HC.out, hten, cutL_end]
          simp
      · have t1 : ((c.toNat : Int) == 10) = false := by
          simp
          intro e
          exact hten (UInt8.toNat_inj.1 (by simp; omega))
        clear hcut hps hd hc
        by_cases hfull : k - m = 64
        · have t2 : (64 : Int) ≤ (k : Int) - (m : Int) := by omega
          have t3 : ((k : Int) - (m : Int) == 64) = true := by simp; omega
          have hrow := HRW.out
          have hres := HRS.out
          unfold readV at hrow hres
          have hth : wr.there (w.heap.size + 1 + 1) 2 (#[Value.int .i64 20, .int .i64 (-1), .int .i64 0] : Array Value).size := row_there hrow
          have hput := put_err (.int .i64 20) (.int .i64 (-1)) (.int .i64 0) hrow
          have hpb : Below (w.heap.size + 2) wr (wr.setCells (w.heap.size + 2) 2 [.int .i64 20, .int .i64 (-1), .int .i64 0]) := put_below _ _ _ (Nat.le_refl _)
          have hoth := fun k hk => other_setCells [.int .i64 20, .int .i64 (-1), .int .i64 0] 2 wr (w.heap.size + 2) k hk
          go_upto_region 11 with (refine wpList_store_mid rfl 57 (.tmp 38) (.tmp 37) rfl (w.heap.size + 1 + 1) 2 #[.int .i64 20, .int .i64 (-1), .int .i64 0] rfl rfl hth (by kernel_rfl) (by kernel_rfl) ?_)
          have hres1 := (hoth (w.heap.size + 1) (by omega)).trans hres
          have hb1 := HBL.out.trans (hpb.mono (by omega))
          have ho1 := HO.out.heap_kept (W' := wr.setCells (w.heap.size + 2) 2 [.int .i64 20, .int .i64 (-1), .int .i64 0]) (fun j hj => hoth j (by omega))
          change Code.wp _ _ _ _ (wr.setCells (w.heap.size + 2) 2 [.int .i64 20, .int .i64 (-1), .int .i64 0])
          clear hpb hoth hth hrow hres
          generalize wr.setCells (w.heap.size + 2) 2 [.int .i64 20, .int .i64 (-1), .int .i64 0] = W1 at hput hres1 hb1 ho1 ⊢
          have HO1 := Lib.hid ho1
          have HB1 := Lib.hid hb1
          clear ho1 hb1
          go_wp2_with (first | (refine wpList_load_row rfl 70 (.tmp 3) rfl (w.heap.size + 1 + 1) rfl _ _ _ _ hput Tryz.underlying70 rfl (by kernel_rfl) ?_) | (refine wpList_store_row rfl 70 (.tmp 2) (.tmp 39) rfl (w.heap.size + 1) #[.slice la (List.length L) lc, .bool false, .int .i64 20, .int .i64 (-1), .int .i64 0] rfl rfl _ _ hres1 (by kernel_rfl) rfl (by simp [Value.oneCell']) ?_))
          have hrd : readL bs ended (c1, c2, c3) = (L, false, (20, -1, 0)) := by
            rw [readL, HC.out, cutL_long _ _ c hten (by rw [hpl]; exact hfull)]
            simp
          exact read_ends hrd HO1.out HB1.out hres1 rfl rfl rfl
        · have t3 : ((k : Int) - (m : Int) == 64) = false := by simp; omega
          go_wp2_with fail
          refine ⟨⟨_, m, k + 1, by go_num, by go_num, by omega, by omega, by omega, ⟨L, ?_, HO.out, by omega⟩, HBX.out, HRS.out, HRW.out, HBL.out⟩, by simp [intOf]; omega⟩
          rw [HC.out, cutL_put _ _ c hten (by rw [hpl]; exact hfull), HPS.out]
    · obtain rfl : k = bs.length := by omega
      have g2 : ¬ (bs.length : Int) < (bs.length : Int) := by omega
      have b1 : wr.cell? ⟨w.heap.size, 1, none⟩ = some (.bool ended) := by rw [cell_of_row _ _ _ _ _ _ HBX.out]; rfl
      have hrow := HRW.out
      have hres := HRS.out
      unfold readV at hrow hres
      rw [List.drop_length] at hcut
      simp only [cutL, List.append_nil] at hcut
      have HC := Lib.hid hcut
      clear hcut
      cases ended with
      | false =>
        have hrd : readL bs false (c1, c2, c3) = (L, false, (c1, c2, c3)) := by
          rw [readL, HC.out]
          rfl
        have hth : wr.there (w.heap.size + 1 + 1) 2 (#[Value.int .i64 c1, .int .i64 c2, .int .i64 c3] : Array Value).size := row_there hrow
        have hmid : wr.rangeAt w.heap.size 2 [Value.int .i64 c1, .int .i64 c2, .int .i64 c3] := fun j v hv => by
          rw [cell_of_row _ _ _ _ _ _ HBX.out]
          rcases j with _ | _ | _ | j
          · exact hv
          · exact hv
          · exact hv
          · simp at hv
        have hput := put_err (.int .i64 c1) (.int .i64 c2) (.int .i64 c3) hrow
        have hpb : Below (w.heap.size + 2) wr (wr.setCells (w.heap.size + 2) 2 [.int .i64 c1, .int .i64 c2, .int .i64 c3]) := put_below _ _ _ (Nat.le_refl _)
        have hoth := fun k hk => other_setCells [.int .i64 c1, .int .i64 c2, .int .i64 c3] 2 wr (w.heap.size + 2) k hk
        go_upto_region 18 with (first | (refine wpList_load_mid rfl 57 (.tmp 59) rfl w.heap.size 2 rfl _ _ hmid Tryz.underlying57 rfl (by kernel_rfl) ?_) | (refine wpList_store_mid rfl 57 (.tmp 61) (.tmp 60) rfl (w.heap.size + 1 + 1) 2 #[.int .i64 c1, .int .i64 c2, .int .i64 c3] rfl rfl hth (by kernel_rfl) (by kernel_rfl) ?_))
        have hres1 := (hoth (w.heap.size + 1) (by omega)).trans hres
        have hb1 := HBL.out.trans (hpb.mono (by omega))
        have ho1 := HO.out.heap_kept (W' := wr.setCells (w.heap.size + 2) 2 [.int .i64 c1, .int .i64 c2, .int .i64 c3]) (fun j hj => hoth j (by omega))
        change Code.wp _ _ _ _ (wr.setCells (w.heap.size + 2) 2 [.int .i64 c1, .int .i64 c2, .int .i64 c3])
        clear hpb hoth hth hrow hres
        generalize wr.setCells (w.heap.size + 2) 2 [.int .i64 c1, .int .i64 c2, .int .i64 c3] = W1 at hput hres1 hb1 ho1 ⊢
        have HO1 := Lib.hid ho1
        have HB1 := Lib.hid hb1
        clear ho1 hb1
        go_wp2_with (first | (refine wpList_load_row rfl 70 (.tmp 3) rfl (w.heap.size + 1 + 1) rfl _ _ _ _ hput Tryz.underlying70 rfl (by kernel_rfl) ?_) | (refine wpList_store_row rfl 70 (.tmp 2) (.tmp 62) rfl (w.heap.size + 1) #[.slice la (List.length L) lc, .bool false, .int .i64 c1, .int .i64 c2, .int .i64 c3] rfl rfl _ _ hres1 (by kernel_rfl) rfl (by simp [Value.oneCell']) ?_))
        exact read_ends hrd HO1.out HB1.out hres1 rfl rfl rfl
      | true =>
        by_cases hm : m = bs.length
        · subst hm
          have hrd : readL bs true (c1, c2, c3) = (L, true, (0, 0, 0)) := by
            rw [readL, HC.out]
            simp
          have p0 : wr.cell? ⟨w.heap.size + 1 + 1, 1, none⟩ = some (.bool false) := by rw [cell_of_row _ _ _ _ _ _ hrow]; rfl
          have z0 : wr.frozen? ⟨w.heap.size + 1 + 1, 1, none⟩ = false := by simp [World.frozen?, hrow]
          have hput := put_all hrow
          have hpb : Below (w.heap.size + 2) wr (wr.setCell ⟨w.heap.size + 2, 1, none⟩ (.bool true)) := Below.setCell (B := w.heap.size + 2) (p := ⟨w.heap.size + 2, 1, none⟩) (Below.refl _ _) (Nat.le_refl _) _
          have hoth := fun k (hk : k ≠ w.heap.size + 2) => Below.heap_setCell wr ⟨w.heap.size + 2, 1, none⟩ (.bool true) k hk
          go_upto_region 16 with fail
          have hres1 := (hoth (w.heap.size + 1) (by omega)).trans hres
          have hb1 := HBL.out.trans (hpb.mono (by omega))
          have ho1 := HO.out.heap_kept (W' := wr.setCell ⟨w.heap.size + 2, 1, none⟩ (.bool true)) (fun j hj => hoth j (by omega))
          change Code.wp _ _ _ _ (wr.setCell ⟨w.heap.size + 2, 1, none⟩ (.bool true))
          clear hpb hoth hrow hres p0 z0 b0 b1
          generalize wr.setCell ⟨w.heap.size + 2, 1, none⟩ (.bool true) = W1 at hput hres1 hb1 ho1 ⊢
          have HO1 := Lib.hid ho1
          have HB1 := Lib.hid hb1
          clear ho1 hb1
          go_wp2_with (first | (refine wpList_load_row rfl 70 (.tmp 3) rfl (w.heap.size + 1 + 1) rfl _ _ _ _ hput Tryz.underlying70 rfl (by kernel_rfl) ?_) | (refine wpList_store_row rfl 70 (.tmp 2) (.tmp 58) rfl (w.heap.size + 1) #[.slice la (List.length L) lc, .bool true, .int .i64 0, .int .i64 0, .int .i64 0] rfl rfl _ _ hres1 (by kernel_rfl) rfl (by simp [Value.oneCell']) ?_))
          exact read_ends hrd HO1.out HB1.out hres1 rfl rfl rfl
        · have g3 : (m : Int) < (bs.length : Int) := by omega
          have hpart := fun (W : World) (hb : Below w.heap.size w W) => piece (HB.out W hb) hcap m (bs.length - m) (by omega)
          have hwhole : (bs.drop m).take (bs.length - m) = bs.drop m := List.take_of_length_le (by simp)
          rw [hwhole] at hpart
          obtain ⟨S, hS⟩ : ∃ S : ByteArray, strV (bs.drop m) = .string S := ⟨_, rfl⟩
          have g4 : (0 : Int) ≤ (m : Int) := by omega
          have g5 : (m : Int) ≤ (bs.length : Int) := by omega
          have g6 : ¬ cap = m := by omega
          have g7 : (bs.length : Int) ≤ (cap : Int) := by omega
          go_upto_region 14 with fail
          refine wp_region_noPanic ?_
          refine wp_region_held (S := fun W => W.heap[w.heap.size]? = some (.cells #[.slice (some ⟨gb, off, none⟩) bs.length cap, .bool true, .int .i64 c1, .int .i64 c2, .int .i64 c3] 59 (0, 0)) ∧ Below w.heap.size w W) (by kernel_rfl) ?_
          change wpAnyH _ _ _ _ _ _ _ _ wr.drew
          have hM : (fun W : World => W.heap[w.heap.size]? = some (.cells #[.slice (some ⟨gb, off, none⟩) bs.length cap, .bool true, .int .i64 c1, .int .i64 c2, .int .i64 c3] 59 (0, 0)) ∧ Below w.heap.size w W) wr.drew := ⟨HBX.out, HBL.out.drew⟩
          have hrow' : wr.drew.heap[w.heap.size + 2]? = _ := hrow
          have ho2 : wr.drew.ownsRow (w.heap.size + 3) 9 1 (.slice la L.length lc) L.length (L.map strV) := HO.out
          have hres2 : wr.drew.heap[w.heap.size + 1]? = _ := hres
          clear hrow hres
          generalize wr.drew = W2 at hM hrow' ho2 hres2 ⊢
          refine Pm.take_at (i := 0) 47 (.pointer (some ⟨w.heap.size + 1 + 1, 0, none⟩)) rfl rfl (by kernel_rfl) (by kernel_rfl) (by kernel_rfl) rfl (fun _ _ => by go_simp) hM ?_
          refine Pm.take_at (i := 2) 49 (.pointer (some ⟨w.heap.size, 0, none⟩)) rfl rfl (by kernel_rfl) (by kernel_rfl) (by kernel_rfl) rfl (fun _ _ => by go_simp) hM ?_
          refine Pm.take_at (i := 3) 50 (.slice (some ⟨gb, off, none⟩) bs.length cap) rfl rfl (by kernel_rfl) (by kernel_rfl) (by kernel_rfl) rfl (fun W h => by have hc := box0 h.1; go_simp) hM ?_
          refine Pm.take_at (i := 4) 51 (.int .i64 m) rfl rfl (by kernel_rfl) (by kernel_rfl) (by kernel_rfl) rfl (fun _ _ => rfl) hM ?_
          refine Pm.take_at (i := 5) 52 (.slice (some ⟨gb, off + m, none⟩) (bs.length - m) (cap - m)) rfl rfl (by kernel_rfl) (by kernel_rfl) (by kernel_rfl) rfl (fun _ _ => by go_simp) hM ?_
          refine Pm.take_at (i := 6) 53 (.string S) rfl rfl (by kernel_rfl) (by kernel_rfl) (by kernel_rfl) rfl (fun W h => by have hc := conv_any (hpart W h.2); rw [hS] at hc; go_simp) hM ?_
          have k2 := box0 hrow'
          have hlt2 := (Array.getElem?_eq_some_iff.1 hrow').1
          have hal : Below W2.heap.size W2 (W2.alloc (.cells #[.string S] 9)) := (Below.refl _ _).alloc (Nat.le_refl _) _
          have hM3 : (fun W : World => W.heap[w.heap.size]? = some (.cells #[.slice (some ⟨gb, off, none⟩) bs.length cap, .bool true, .int .i64 c1, .int .i64 c2, .int .i64 c3] 59 (0, 0)) ∧ Below w.heap.size w W) (W2.alloc (.cells #[.string S] 9)) := ⟨by rw [Below.heap_alloc _ _ _ (by omega)]; exact hM.1, hM.2.trans (hal.mono hM.2.size)⟩
          have hrow3 := (hal.block (w.heap.size + 2) (by omega)).trans hrow'
          have hres3 := (hal.block (w.heap.size + 1) (by omega)).trans hres2
          have k3 := box0 hrow3
          have ho3 : (W2.alloc (.cells #[.string S] 9)).ownsRow (w.heap.size + 3) 9 1 (.slice la L.length lc) L.length (L.map strV) := ho2.alloc _
          have k4 : (W2.alloc (.cells #[.string S] 9)).cell? ⟨W2.heap.size, 0, none⟩ = some (strV (bs.drop m)) := by rw [hS, cell_of_row _ _ _ _ _ _ (heap_alloc_last W2 _)]; rfl
          refine wpAnyH_all (rs := [1, 7]) (by kernel_rfl) (by decide) ?_
          intro i hi
          rcases List.mem_cons.1 hi with rfl | hi
          · clear hi
            refine Pm.wpOp_at rfl rfl ?_
            go_wp2_with fail
            refine Pm.one_now (i := 7) rfl (by kernel_rfl) rfl ?_
            go_wp2_with fail
            refine Pm.one_now (i := 8) rfl (by kernel_rfl) rfl ?_
            refine wp_append_text (.tmp 48) (.tmp 54) rfl (w.heap.size + 3) (.slice la L.length lc) L (bs.drop m) W2.heap.size rfl ho3 rfl k4 (by omega) (by have := hal.size; omega) 55 rfl ?_
            intro v5 W5 ho5 hg5
            have hb5 : Below (w.heap.size + 3) (W2.alloc (.cells #[.string S] 9)) W5 := (Below.refl _ _).grown hg5 (by have := hal.size; omega) (fun j ej => (ho3.lt j ej).1)
            obtain ⟨a5, l5, rfl⟩ := Pm.owns_slice ho5
            have hbx5 := (hb5.block w.heap.size (by omega)).trans hM3.1
            have hrw5 := (hb5.block (w.heap.size + 2) (by omega)).trans hrow3
            have hrs5 := (hb5.block (w.heap.size + 1) (by omega)).trans hres3
            have hM5 : (fun W : World => W.heap[w.heap.size]? = some (.cells #[.slice (some ⟨gb, off, none⟩) bs.length cap, .bool true, .int .i64 c1, .int .i64 c2, .int .i64 c3] 59 (0, 0)) ∧ Below w.heap.size w W) W5 := ⟨hbx5, hM3.2.trans (hb5.mono (by omega))⟩
            refine ⟨hM5, ?_⟩
            simp only [Act.put]
            refine Pm.take_at (i := 9) 56 (.pointer (some ⟨w.heap.size + 1 + 1, 0, none⟩)) rfl rfl (by kernel_rfl) (by kernel_rfl) (by kernel_rfl) rfl (fun _ _ => by go_simp) hM5 ?_
            refine Pm.one_now (i := 10) rfl (by kernel_rfl) rfl ?_
            have k5 := box0 hrw5
            have z5 : W5.frozen? ⟨w.heap.size + 1 + 1, 0, none⟩ = false := by simp [World.frozen?, hrw5]
            go_wp2_with fail
            have hc6 := fun x => Below.heap_setCell W5 ⟨w.heap.size + 2, 0, none⟩ x
            have hrw6 := setCell_row (o := 0) (v := .slice a5 (List.length L + 1) l5) hrw5
            have hb6 : Below (w.heap.size + 2) W5 (W5.setCell ⟨w.heap.size + 1 + 1, 0, none⟩ (.slice a5 (List.length L + 1) l5)) := Below.setCell (B := w.heap.size + 2) (p := ⟨w.heap.size + 2, 0, none⟩) (Below.refl _ _) (Nat.le_refl _) _
            have hbx6 := (hc6 (.slice a5 (List.length L + 1) l5) w.heap.size (by simp)).trans hbx5
            have hrs6 := (hc6 (.slice a5 (List.length L + 1) l5) (w.heap.size + 1) (by simp)).trans hrs5
            have ho6 := ho5.heap_kept (W' := W5.setCell ⟨w.heap.size + 1 + 1, 0, none⟩ (.slice a5 (List.length L + 1) l5)) (fun j hj => hc6 (.slice a5 (List.length L + 1) l5) j (by simp; omega))
            refine ⟨⟨hbx6, hM5.2.trans (hb6.mono (by omega))⟩, ?_⟩
            have hbel6 := hM5.2.trans (hb6.mono (by omega))
            clear hb6 hc6 k5 z5 hrw5 hrs5 hbx5 hb5 ho5 hg5 hM5
            generalize W5.setCell ⟨w.heap.size + 1 + 1, 0, none⟩ (.slice a5 (List.length L + 1) l5) = W6 at hrw6 hbx6 hrs6 ho6 hbel6 ⊢
            refine wpAnyH_done (by kernel_rfl) (NoPanic.normal ?_) _
            have hput := put_all hrw6
            have hpb : Below (w.heap.size + 2) W6 (W6.setCell ⟨w.heap.size + 2, 1, none⟩ (.bool true)) := Below.setCell (B := w.heap.size + 2) (p := ⟨w.heap.size + 2, 1, none⟩) (Below.refl _ _) (Nat.le_refl _) _
            have hoth := fun k (hk : k ≠ w.heap.size + 2) => Below.heap_setCell W6 ⟨w.heap.size + 2, 1, none⟩ (.bool true) k hk
            have p0 : W6.cell? ⟨w.heap.size + 1 + 1, 1, none⟩ = some (.bool false) := by rw [cell_of_row _ _ _ _ _ _ hrw6]; rfl
            have z0 : W6.frozen? ⟨w.heap.size + 1 + 1, 1, none⟩ = false := by simp [World.frozen?, hrw6]
            go_upto_region 16 with fail
            have hres1 := (hoth (w.heap.size + 1) (by omega)).trans hrs6
            have hb1 := hbel6.trans (hpb.mono (by omega))
            have ho1 := ho6.heap_kept (W' := W6.setCell ⟨w.heap.size + 2, 1, none⟩ (.bool true)) (fun j hj => hoth j (by omega))
            change Code.wp _ _ _ _ (W6.setCell ⟨w.heap.size + 2, 1, none⟩ (.bool true))
            clear hpb hoth p0 z0 hrs6 hrw6 ho6 hbel6 hbx6
            generalize W6.setCell ⟨w.heap.size + 2, 1, none⟩ (.bool true) = W1 at hput hres1 hb1 ho1 ⊢
            have HO1 := Lib.hid ho1
            have HB1 := Lib.hid hb1
            clear ho1 hb1
            go_wp2_with (first | (refine wpList_load_row rfl 70 (.tmp 3) rfl (w.heap.size + 1 + 1) rfl _ _ _ _ hput Tryz.underlying70 rfl (by kernel_rfl) ?_) | (refine wpList_store_row rfl 70 (.tmp 2) (.tmp 58) rfl (w.heap.size + 1) #[.slice a5 (List.length L + 1) l5, .bool true, .int .i64 0, .int .i64 0, .int .i64 0] rfl rfl _ _ hres1 (by kernel_rfl) rfl (by simp [Value.oneCell']) ?_))
            have hne : bs.drop m ≠ [] := fun e => by
              have := congrArg List.length e
              simp at this
              omega
            have hrd : readL bs true (c1, c2, c3) = (L ++ [bs.drop m], true, (0, 0, 0)) := by
              rw [readL, HC.out, hwhole]
              simp only [if_true, if_neg hne]
            have hlen1 : L.length + 1 = (L ++ [bs.drop m]).length := by simp
            have ho7 := HO1.out
            rw [hlen1]
            exact read_ends hrd ho7 HB1.out hres1 rfl rfl rfl
          · obtain rfl : i = 7 := by simpa using hi
            clear hi
            refine Pm.wpOp_at rfl rfl ?_
            go_wp2_with fail
            refine Pm.one_now (i := 1) rfl (by kernel_rfl) rfl ?_
            go_wp2_with fail
            refine Pm.one_now (i := 8) rfl (by kernel_rfl) rfl ?_
            refine wp_append_text (.tmp 48) (.tmp 54) rfl (w.heap.size + 3) (.slice la L.length lc) L (bs.drop m) W2.heap.size rfl ho3 rfl k4 (by omega) (by have := hal.size; omega) 55 rfl ?_
            intro v5 W5 ho5 hg5
            have hb5 : Below (w.heap.size + 3) (W2.alloc (.cells #[.string S] 9)) W5 := (Below.refl _ _).grown hg5 (by have := hal.size; omega) (fun j ej => (ho3.lt j ej).1)
            obtain ⟨a5, l5, rfl⟩ := Pm.owns_slice ho5
            have hbx5 := (hb5.block w.heap.size (by omega)).trans hM3.1
            have hrw5 := (hb5.block (w.heap.size + 2) (by omega)).trans hrow3
            have hrs5 := (hb5.block (w.heap.size + 1) (by omega)).trans hres3
            have hM5 : (fun W : World => W.heap[w.heap.size]? = some (.cells #[.slice (some ⟨gb, off, none⟩) bs.length cap, .bool true, .int .i64 c1, .int .i64 c2, .int .i64 c3] 59 (0, 0)) ∧ Below w.heap.size w W) W5 := ⟨hbx5, hM3.2.trans (hb5.mono (by omega))⟩
            refine ⟨hM5, ?_⟩
            simp only [Act.put]
            refine Pm.take_at (i := 9) 56 (.pointer (some ⟨w.heap.size + 1 + 1, 0, none⟩)) rfl rfl (by kernel_rfl) (by kernel_rfl) (by kernel_rfl) rfl (fun _ _ => by go_simp) hM5 ?_
            refine Pm.one_now (i := 10) rfl (by kernel_rfl) rfl ?_
            have k5 := box0 hrw5
            have z5 : W5.frozen? ⟨w.heap.size + 1 + 1, 0, none⟩ = false := by simp [World.frozen?, hrw5]
            go_wp2_with fail
            have hc6 := fun x => Below.heap_setCell W5 ⟨w.heap.size + 2, 0, none⟩ x
            have hrw6 := setCell_row (o := 0) (v := .slice a5 (List.length L + 1) l5) hrw5
            have hb6 : Below (w.heap.size + 2) W5 (W5.setCell ⟨w.heap.size + 1 + 1, 0, none⟩ (.slice a5 (List.length L + 1) l5)) := Below.setCell (B := w.heap.size + 2) (p := ⟨w.heap.size + 2, 0, none⟩) (Below.refl _ _) (Nat.le_refl _) _
            have hbx6 := (hc6 (.slice a5 (List.length L + 1) l5) w.heap.size (by simp)).trans hbx5
            have hrs6 := (hc6 (.slice a5 (List.length L + 1) l5) (w.heap.size + 1) (by simp)).trans hrs5
            have ho6 := ho5.heap_kept (W' := W5.setCell ⟨w.heap.size + 1 + 1, 0, none⟩ (.slice a5 (List.length L + 1) l5)) (fun j hj => hc6 (.slice a5 (List.length L + 1) l5) j (by simp; omega))
            refine ⟨⟨hbx6, hM5.2.trans (hb6.mono (by omega))⟩, ?_⟩
            have hbel6 := hM5.2.trans (hb6.mono (by omega))
            clear hb6 hc6 k5 z5 hrw5 hrs5 hbx5 hb5 ho5 hg5 hM5
            generalize W5.setCell ⟨w.heap.size + 1 + 1, 0, none⟩ (.slice a5 (List.length L + 1) l5) = W6 at hrw6 hbx6 hrs6 ho6 hbel6 ⊢
            refine wpAnyH_done (by kernel_rfl) (NoPanic.normal ?_) _
            have hput := put_all hrw6
            have hpb : Below (w.heap.size + 2) W6 (W6.setCell ⟨w.heap.size + 2, 1, none⟩ (.bool true)) := Below.setCell (B := w.heap.size + 2) (p := ⟨w.heap.size + 2, 1, none⟩) (Below.refl _ _) (Nat.le_refl _) _
            have hoth := fun k (hk : k ≠ w.heap.size + 2) => Below.heap_setCell W6 ⟨w.heap.size + 2, 1, none⟩ (.bool true) k hk
            have p0 : W6.cell? ⟨w.heap.size + 1 + 1, 1, none⟩ = some (.bool false) := by rw [cell_of_row _ _ _ _ _ _ hrw6]; rfl
            have z0 : W6.frozen? ⟨w.heap.size + 1 + 1, 1, none⟩ = false := by simp [World.frozen?, hrw6]
            go_upto_region 16 with fail
            have hres1 := (hoth (w.heap.size + 1) (by omega)).trans hrs6
            have hb1 := hbel6.trans (hpb.mono (by omega))
            have ho1 := ho6.heap_kept (W' := W6.setCell ⟨w.heap.size + 2, 1, none⟩ (.bool true)) (fun j hj => hoth j (by omega))
            change Code.wp _ _ _ _ (W6.setCell ⟨w.heap.size + 2, 1, none⟩ (.bool true))
            clear hpb hoth p0 z0 hrs6 hrw6 ho6 hbel6 hbx6
            generalize W6.setCell ⟨w.heap.size + 2, 1, none⟩ (.bool true) = W1 at hput hres1 hb1 ho1 ⊢
            have HO1 := Lib.hid ho1
            have HB1 := Lib.hid hb1
            clear ho1 hb1
            go_wp2_with (first | (refine wpList_load_row rfl 70 (.tmp 3) rfl (w.heap.size + 1 + 1) rfl _ _ _ _ hput Tryz.underlying70 rfl (by kernel_rfl) ?_) | (refine wpList_store_row rfl 70 (.tmp 2) (.tmp 58) rfl (w.heap.size + 1) #[.slice a5 (List.length L + 1) l5, .bool true, .int .i64 0, .int .i64 0, .int .i64 0] rfl rfl _ _ hres1 (by kernel_rfl) rfl (by simp [Value.oneCell']) ?_))
            have hne : bs.drop m ≠ [] := fun e => by
              have := congrArg List.length e
              simp at this
              omega
            have hrd : readL bs true (c1, c2, c3) = (L ++ [bs.drop m], true, (0, 0, 0)) := by
              rw [readL, HC.out, hwhole]
              simp only [if_true, if_neg hne]
            have hlen1 : L.length + 1 = (L ++ [bs.drop m]).length := by simp
            have ho7 := HO1.out
            rw [hlen1]
            exact read_ends hrd ho7 HB1.out hres1 rfl rfl rfl
end Go.Proofs.YtpgigpajpcianaaGreatDoor
