/- What the reader's calls do: Need, Stop, More, mayEnd, mayFeed. -/
import Derived.Test.YtlflhjgfegflfaaDoorLB
import Derived.Handy
namespace Go.Proofs.YtlflhjgfegflfaaDoor
open Go.RowKit

/-- The call answers this; nothing has turned at all. -/
def Says (w : World) (v : Value) (e : Ending) (w' : World) : Prop := e = .returned v ∧ w = w'

/-! The reader: a cell that holds what is needed next. -/
set_option maxRecDepth 100000 in
set_option maxHeartbeats 400000 in
theorem need_any {g o : Nat} {n : Int} {w : World} (h : w.cell? ⟨g, o, none⟩ = some (.int .i64 n)) :
    Calls Tryd.prog 82 #[.pointer (some ⟨g, o, none⟩)] w (Says w (.int .i64 n)) := by
  go_enter Tryd.func82, Tryd.ntmps82
  go_wp2
  go_ret
  exact ⟨rfl, rfl⟩

set_option maxRecDepth 100000 in
set_option maxHeartbeats 400000 in
theorem stop_any {g o : Nat} {n : Int} {w : World} (h : w.cell? ⟨g, o, none⟩ = some (.int .i64 n)) (hf : w.frozen? ⟨g, o, none⟩ = false) :
    Calls Tryd.prog 83 #[.pointer (some ⟨g, o, none⟩)] w fun e w' => e = .returned (.tuple #[]) ∧ w' = w.setCell ⟨g, o, none⟩ (.int .i64 (-1)) := by
  go_enter Tryd.func83, Tryd.ntmps83
  go_wp2
  go_returns
  exact ⟨rfl, rfl⟩

def moreE (n : Int) : Int := if n = -1 then 4 else 1
def endE (n port : Int) : Int := if n = -1 then 4 else if n = -2 ∨ port ≠ n then 1 else 0
def feedE (n port : Int) (l : Nat) : Int := if endE n port ≠ 0 then endE n port else if l = 0 ∨ 32 < l then 1 else 0

set_option maxRecDepth 100000 in
set_option maxHeartbeats 400000 in
theorem more_any {g o : Nat} {n : Int} {w : World} (h : w.cell? ⟨g, o, none⟩ = some (.int .i64 n)) (h2 : n ≠ -2) :
    Calls Tryd.prog 81 #[.pointer (some ⟨g, o, none⟩)] w (Says w (.tuple #[.slice none 0 0, .int .i64 (moreE n)])) := by
  by_cases hn : n = -1
  · subst hn
    rw [moreE, if_pos rfl]
    go_enter Tryd.func81, Tryd.ntmps81
    go_wp2
    go_ret2
    exact ⟨rfl, rfl⟩
  · rw [moreE, if_neg hn]
    have g1 : (n == -1) = false := by simpa using hn
    have g2 : (n == -2) = false := by simpa using h2
    clear hn h2
    go_enter Tryd.func81, Tryd.ntmps81
    go_wp2
    go_ret2
    exact ⟨rfl, rfl⟩

set_option maxRecDepth 100000 in
set_option maxHeartbeats 400000 in
theorem mayEnd_any {g o : Nat} {n : Int} {w : World} (port : Int) (h : w.cell? ⟨g, o, none⟩ = some (.int .i64 n)) :
    Calls Tryd.prog 88 #[.pointer (some ⟨g, o, none⟩), .int .i64 port] w (Says w (.int .i64 (endE n port))) := by
  by_cases hn : n = -1
  · subst hn
    rw [endE, if_pos rfl]
    go_enter Tryd.func88, Tryd.ntmps88
    go_wp2
    go_ret
    exact ⟨rfl, rfl⟩
  · rw [endE, if_neg hn]
    have g1 : (n == -1) = false := by simpa using hn
    by_cases hm : n = -2
    · subst hm
      rw [if_pos (.inl rfl)]
      clear hn
      go_enter Tryd.func88, Tryd.ntmps88
      go_wp2
      go_ret
      exact ⟨rfl, rfl⟩
    · have g3 : (n == -2) = false := by simpa using hm
      by_cases hp : port = n
      · subst hp
        rw [if_neg (by simp [hm])]
        have g2 : (port != port) = false := by simp
        clear hn hm
        go_enter Tryd.func88, Tryd.ntmps88
        go_wp2
        go_ret
        exact ⟨rfl, rfl⟩
      · rw [if_pos (.inr hp)]
        have g2 : (port != n) = true := by simpa using hp
        clear hn hp hm
        go_enter Tryd.func88, Tryd.ntmps88
        go_wp2
        go_ret
        exact ⟨rfl, rfl⟩

set_option maxRecDepth 100000 in
set_option maxHeartbeats 400000 in
theorem mayFeed_any {g o : Nat} {n : Int} {w : World} (port : Int) (a : Option Addr) (l c : Nat) (h : w.cell? ⟨g, o, none⟩ = some (.int .i64 n)) :
    Calls Tryd.prog 87 #[.pointer (some ⟨g, o, none⟩), .int .i64 port, .slice a l c] w (Says w (.int .i64 (feedE n port l))) := by
  have H := Lib.hid h
  clear h
  obtain ⟨E, hE⟩ : ∃ E, E = endE n port := ⟨_, rfl⟩
  have HE := Lib.hid hE
  by_cases h0 : E = 0
  · subst h0
    rw [feedE, ← hE, if_neg (by simp)]
    clear hE
    by_cases h1 : l = 0
    · subst h1
      rw [if_pos (.inl rfl)]
      go_enter Tryd.func87, Tryd.ntmps87
      go_wp2_with fail
      refine (mayEnd_any port H.out).mono ?_
      rintro e w' ⟨rfl, rfl⟩
      rw [← HE.out]
      go_wp2
      go_ret
      exact ⟨rfl, rfl⟩
    · have g1 : ((l : Int) == 0) = false := by simpa using h1
      by_cases h2 : (32 : Int) < (l : Int)
      · rw [if_pos (.inr (by omega))]
        clear h1
        go_enter Tryd.func87, Tryd.ntmps87
        go_wp2_with fail
        refine (mayEnd_any port H.out).mono ?_
        rintro e w' ⟨rfl, rfl⟩
        rw [← HE.out]
        go_wp2
        go_ret
        exact ⟨rfl, rfl⟩
      · rw [if_neg (by omega)]
        clear h1
        go_enter Tryd.func87, Tryd.ntmps87
        go_wp2_with fail
        refine (mayEnd_any port H.out).mono ?_
        rintro e w' ⟨rfl, rfl⟩
        rw [← HE.out]
        go_wp2
        go_ret
        exact ⟨rfl, rfl⟩
  · rw [feedE, ← hE, if_pos h0]
    have g1 : (E != 0) = true := by simpa using h0
    clear hE h0
    go_enter Tryd.func87, Tryd.ntmps87
    go_wp2_with fail
    refine (mayEnd_any port H.out).mono ?_
    rintro e w' ⟨rfl, rfl⟩
    rw [← HE.out]
    go_wp2
    go_ret
    exact ⟨rfl, rfl⟩

end Go.Proofs.YtlflhjgfegflfaaDoor
