/- What the reader's calls do: Need, Stop, More, mayEnd, mayFeed. -/
import Derived.Test.YtmmhpjhmobhdiaaDoorLB
import Derived.Handy
import Derived.Test.YtmmhpjhmobhdiaaDoorLjoin
import Derived.Test.YtmmhpjhmobhdiaaDoorLcut
import Derived.Lib.BytesEntry
namespace Go.Proofs.YtmmhpjhmobhdiaaDoor
open Go.RowKit

/-- The call answers this; nothing has turned at all. -/
def Says (w : World) (v : Value) (e : Ending) (w' : World) : Prop := e = .returned v ∧ w = w'

/-! The reader: a cell that holds what is needed next. -/
set_option maxRecDepth 100000 in
set_option maxHeartbeats 400000 in
theorem need_any {g o : Nat} {n : Int} {w : World} (h : w.cell? ⟨g, o, none⟩ = some (.int .i64 n)) :
    Calls Tryd.prog 93 #[.pointer (some ⟨g, o, none⟩)] w (Says w (.int .i64 n)) := by
  go_enter Tryd.func93, Tryd.ntmps93
  go_wp2
  go_ret
  exact ⟨rfl, rfl⟩

set_option maxRecDepth 100000 in
set_option maxHeartbeats 400000 in
theorem stop_any {g o : Nat} {n : Int} {w : World} (h : w.cell? ⟨g, o, none⟩ = some (.int .i64 n)) (hf : w.frozen? ⟨g, o, none⟩ = false) :
    Calls Tryd.prog 94 #[.pointer (some ⟨g, o, none⟩)] w fun e w' => e = .returned (.tuple #[]) ∧ w' = w.setCell ⟨g, o, none⟩ (.int .i64 (-1)) := by
  go_enter Tryd.func94, Tryd.ntmps94
  go_wp2
  go_returns
  exact ⟨rfl, rfl⟩

def moreE (n : Int) : Int := if n = -1 then 4 else 1
def endE (n port : Int) : Int := if n = -1 then 4 else if n = -2 ∨ port ≠ n then 1 else 0
def feedE (n port : Int) (l : Nat) : Int := if endE n port ≠ 0 then endE n port else if l = 0 ∨ 32 < l then 1 else 0

set_option maxRecDepth 100000 in
set_option maxHeartbeats 400000 in
theorem more_any {g o : Nat} {n : Int} {w : World} (h : w.cell? ⟨g, o, none⟩ = some (.int .i64 n)) (h2 : n ≠ -2) :
    Calls Tryd.prog 92 #[.pointer (some ⟨g, o, none⟩)] w (Says w (.tuple #[.slice none 0 0, .int .i64 (moreE n)])) := by
  by_cases hn : n = -1
  · subst hn
    rw [moreE, if_pos rfl]
    go_enter Tryd.func92, Tryd.ntmps92
    go_wp2
    go_ret2
    exact ⟨rfl, rfl⟩
  · rw [moreE, if_neg hn]
    have g1 : (n == -1) = false := by simpa using hn
    have g2 : (n == -2) = false := by simpa using h2
    clear hn h2
    go_enter Tryd.func92, Tryd.ntmps92
    go_wp2
    go_ret2
    exact ⟨rfl, rfl⟩

set_option maxRecDepth 100000 in
set_option maxHeartbeats 400000 in
theorem mayEnd_any {g o : Nat} {n : Int} {w : World} (port : Int) (h : w.cell? ⟨g, o, none⟩ = some (.int .i64 n)) :
    Calls Tryd.prog 95 #[.pointer (some ⟨g, o, none⟩), .int .i64 port] w (Says w (.int .i64 (endE n port))) := by
  by_cases hn : n = -1
  · subst hn
    rw [endE, if_pos rfl]
    go_enter Tryd.func95, Tryd.ntmps95
    go_wp2
    go_ret
    exact ⟨rfl, rfl⟩
  · rw [endE, if_neg hn]
    have g1 : (n == -1) = false := by simpa using hn
    by_cases hm : n = -2
    · subst hm
      rw [if_pos (.inl rfl)]
      clear hn
      go_enter Tryd.func95, Tryd.ntmps95
      go_wp2
      go_ret
      exact ⟨rfl, rfl⟩
    · have g3 : (n == -2) = false := by simpa using hm
      by_cases hp : port = n
      · subst hp
        rw [if_neg (by simp [hm])]
        have g2 : (port != port) = false := by simp
        clear hn hm
        go_enter Tryd.func95, Tryd.ntmps95
        go_wp2
        go_ret
        exact ⟨rfl, rfl⟩
      · rw [if_pos (.inr hp)]
        have g2 : (port != n) = true := by simpa using hp
        clear hn hp hm
        go_enter Tryd.func95, Tryd.ntmps95
        go_wp2
        go_ret
        exact ⟨rfl, rfl⟩

set_option maxRecDepth 100000 in
set_option maxHeartbeats 400000 in
theorem mayFeed_any {g o : Nat} {n : Int} {w : World} (port : Int) (a : Option Addr) (l c : Nat) (h : w.cell? ⟨g, o, none⟩ = some (.int .i64 n)) :
    Calls Tryd.prog 101 #[.pointer (some ⟨g, o, none⟩), .int .i64 port, .slice a l c] w (Says w (.int .i64 (feedE n port l))) := by
  have H := Lib.hid h
  clear h
  obtain ⟨E, hE⟩ : ∃ E, E = endE n port := ⟨_, rfl⟩
  have HE := Lib.hid hE
  by_cases h0 : E = 0
  · subst h0
    rw [feedE, ← hE, if_neg (by simp)]
    clear hE
    by_cases h1 : l = 0
    · subst h1
      rw [if_pos (.inl rfl)]
      go_enter Tryd.func101, Tryd.ntmps101
      go_wp2_with fail
      refine (mayEnd_any port H.out).mono ?_
      rintro e w' ⟨rfl, rfl⟩
      rw [← HE.out]
      go_wp2
      go_ret
      exact ⟨rfl, rfl⟩
    · have g1 : ((l : Int) == 0) = false := by simpa using h1
      by_cases h2 : (32 : Int) < (l : Int)
      · rw [if_pos (.inr (by omega))]
        clear h1
        go_enter Tryd.func101, Tryd.ntmps101
        go_wp2_with fail
        refine (mayEnd_any port H.out).mono ?_
        rintro e w' ⟨rfl, rfl⟩
        rw [← HE.out]
        go_wp2
        go_ret
        exact ⟨rfl, rfl⟩
      · rw [if_neg (by omega)]
        clear h1
        go_enter Tryd.func101, Tryd.ntmps101
        go_wp2_with fail
        refine (mayEnd_any port H.out).mono ?_
        rintro e w' ⟨rfl, rfl⟩
        rw [← HE.out]
        go_wp2
        go_ret
        exact ⟨rfl, rfl⟩
  · rw [feedE, ← hE, if_pos h0]
    have g1 : (E != 0) = true := by simpa using h0
    clear hE h0
    go_enter Tryd.func101, Tryd.ntmps101
    go_wp2_with fail
    refine (mayEnd_any port H.out).mono ?_
    rintro e w' ⟨rfl, rfl⟩
    rw [← HE.out]
    go_wp2
    go_ret
    exact ⟨rfl, rfl⟩

end Go.Proofs.YtmmhpjhmobhdiaaDoor

namespace Go.Proofs.YtmmhpjhmobhdiaaDoor
open Go.RowKit

theorem indexByte_through : ∀ x : List UInt8, (if Lib.indexByte x 10 = -1 then (x.length : Int) else Lib.indexByte x 10 + 1) = through x
  | [] => by simp [Lib.indexByte, through]
  | c :: r => by
    have ih := indexByte_through r
    have hg := Lib.indexByte_ge r 10
    rw [Lib.indexByte, through]
    by_cases hc : c = 10
    · subst hc; simp
    · have h1 : (c == 10) = false := by simpa using hc
      simp only [h1, Bool.false_eq_true, if_false, beq_iff_eq, hc]
      by_cases h2 : Lib.indexByte r 10 = -1
      · rw [if_pos h2] at ih ⊢
        simp [← ih]
      · rw [if_neg h2] at ih ⊢
        rw [if_neg (by omega)]
        push_cast
        omega

set_option maxRecDepth 100000 in
set_option maxHeartbeats 1000000 in
theorem indexByte_any (v : Value) (bs : List UInt8) (w : World) (hB : IsBytes (fun _ => True) w v bs) :
    Calls Tryd.prog 104 #[v, .int .u8 10] w (Says w (.int .i64 (Lib.indexByte bs 10))) := by
  obtain ⟨a, cap, rfl, -, hc⟩ := hB
  have hrun : ∀ w', w' = w → (Extern.BytealgIndexByte.indexByte #[.slice a bs.length cap, .int .u8 10]).run Tryd.prog w' = .ok (.int .i64 (Lib.indexByte bs 10)) w' := by
    rintro w' rfl
    cases a with
    | none =>
      have hb : bs = [] := by
        cases bs with
        | nil => rfl
        | cons x r =>
          obtain ⟨_, _, e, _⟩ := hc 0 x rfl
          cases e
      subst hb
      exact Lib.run_indexByteNil (P := Tryd.prog) w' 0 cap 10
    | some ad =>
      by_cases hne : bs = []
      · subst hne
        obtain ⟨b, o, sp⟩ := ad
        have hs := Lib.run_indexByteNil (P := Tryd.prog) w' 0 cap 10
        exact hs
      · obtain ⟨x, r, rfl⟩ := List.exists_cons_of_ne_nil hne
        obtain ⟨gb, off, e, -, -⟩ := hc 0 x rfl
        cases e
        have := Lib.run_indexByteSlice (P := Tryd.prog) w' gb off (x :: r).length cap ((x :: r).map fun c => (c.toNat : Int)) (by simp) (fun i hi => by
          have hi' : (x :: r)[i]? = some ((x :: r)[i]) := List.getElem?_eq_getElem hi
          obtain ⟨_, _, e, _, hcell⟩ := hc i _ hi'
          cases e
          rw [hcell, List.getD_eq_getElem?_getD, List.getElem?_map, hi']
          rfl) 10
        have e2 : Lib.bytesOf ((x :: r).map fun c => (c.toNat : Int)) = x :: r := by
          have e3 : ((fun n : Int => UInt8.ofNat n.toNat) ∘ fun c : UInt8 => (c.toNat : Int)) = id := by
            funext c
            simp
          simp [Lib.bytesOf, e3]
        rw [e2] at this
        exact this
  have HR := Lib.hid hrun
  clear hrun hc
  go_enter Tryd.func104, Tryd.ntmps104
  go_wp2
  rw [run_callFunc_extern Tryd.func105 (by kernel_rfl) (by kernel_rfl) (by kernel_rfl) (e := Extern.BytealgIndexByte.indexByte) (by kernel_rfl), HR.out w rfl]
  simp only [Result.andThen]
  rw [Oper.upon_value]
  go_wp2
  go_ret
  exact ⟨rfl, rfl⟩

set_option maxRecDepth 100000 in
set_option maxHeartbeats 400000 in
theorem through_any (v : Value) (bs : List UInt8) (w : World) (hB : IsBytes (fun _ => True) w v bs) (hs : bs.length ≤ 1000000) :
    Calls Tryd.prog 102 #[v] w (Says w (.int .i64 (through bs))) := by
  have HB := Lib.hid hB
  obtain ⟨a, cap, rfl, -, -⟩ := hB
  have ht := indexByte_through bs
  have hg := Lib.indexByte_ge bs 10
  have hl := through_le bs
  obtain ⟨i, hi⟩ : ∃ i, i = Lib.indexByte bs 10 := ⟨_, rfl⟩
  rw [← hi] at ht hg
  obtain ⟨n, hn⟩ : ∃ n, n = through bs := ⟨_, rfl⟩
  rw [← hn] at ht hl ⊢
  have HI := Lib.hid hi
  by_cases h : i = -1
  · rw [if_pos h] at ht
    subst h
    have HT := Lib.hid ht
    clear ht hi hn hg
    go_enter Tryd.func102, Tryd.ntmps102
    go_wp2_with fail
    refine (indexByte_any _ bs w HB.out).mono ?_
    rintro e w' ⟨rfl, rfl⟩
    rw [← HI.out]
    go_wp2
    go_ret
    exact ⟨by rw [HT.out]; rfl, rfl⟩
  · rw [if_neg h] at ht
    have g1 : 0 ≤ i := by omega
    have g2 : i ≤ 1000000 := by omega
    have HT := Lib.hid ht
    clear ht hi hn h
    go_enter Tryd.func102, Tryd.ntmps102
    go_wp2_with fail
    refine (indexByte_any _ bs w HB.out).mono ?_
    rintro e w' ⟨rfl, rfl⟩
    rw [← HI.out]
    go_wp2
    go_ret
    exact ⟨by rw [← HT.out]; rfl, rfl⟩

set_option maxRecDepth 100000 in
set_option maxHeartbeats 400000 in
theorem held_any {g o : Nat} {T : TypeId} {pre post : List Value} {f : Bool} {b : List UInt8} {w : World} (h : Spl g (o + 2) T pre post f b w) :
    Calls Tryd.prog 98 #[.pointer (some ⟨g, o, none⟩)] w (Says w (.int .i64 b.length)) := by
  have H := Lib.hid h
  clear h
  go_enter Tryd.func98, Tryd.ntmps98
  go_wp2_with fail
  refine (begun_any H.out).mono ?_
  rintro e w' ⟨rfl, rfl⟩
  go_wp2
  go_ret
  exact ⟨rfl, rfl⟩

end Go.Proofs.YtmmhpjhmobhdiaaDoor
