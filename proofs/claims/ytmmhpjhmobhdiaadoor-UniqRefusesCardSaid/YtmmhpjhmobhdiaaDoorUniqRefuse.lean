/- Uniq refuses calls that are not due. -/
import Derived.Test.YtmmhpjhmobhdiaaDoorRC
import Derived.Test.YtmmhpjhmobhdiaaDoorUniqFace
namespace Go.Proofs.YtmmhpjhmobhdiaaDoor
open Go.RowKit

set_option maxRecDepth 100000 in
set_option maxHeartbeats 2000000 in
theorem uniqFeed_no (g : Nat) (n port : Int) (a : Option Addr) (l c : Nat) (w : World) (hn : w.cell? ⟨g, 0, none⟩ = some (.int .i64 n)) (hr : port ≠ n ∨ l = 0 ∨ 32 < l) :
    Calls Tryd.prog 90 #[.pointer (some ⟨g, 0, none⟩), .int .i64 port, .slice a l c] w (Says w (.tuple #[.slice none 0 0, .int .i64 (errN n)])) := by
  have he := feedE_err hr
  have hf := feed_no g n port a l c w hn (by rw [he]; exact (errN_ne _).1)
  rw [he] at hf
  obtain ⟨h1, h2⟩ := errN_ne n
  obtain ⟨E, hE⟩ : ∃ E, E = errN n := ⟨_, rfl⟩
  rw [← hE] at hf h2 ⊢
  have q1 : (E == 20) = false := by simpa using h2
  have HF := Lib.hid hf
  clear hf hn hr he h1 h2 hE
  go_enter Tryd.func90, Tryd.ntmps90
  go_wp2_with fail
  refine HF.out.mono ?_
  rintro e w' ⟨rfl, rfl⟩
  go_wp2_with fail
  go_ret2
  exact ⟨rfl, rfl⟩

theorem uniq_pokes (N : Nat) (A B : List UInt8) (g : Nat) : ∃ fN fH fF fE fM rN rH rF rE rM, Driven (uniqF N A B) uniqBase (uniqR N A B g) 73 (.pointer (some ⟨g, 0, none⟩)) fN fH fF fE fM rN rH rF rE rM ∧ Refusing (uniqF N A B) (uniqR N A B g) fF fE fM rF rE rM :=
  ⟨_, _, _, _, _, _, _, _, _, _, uniq_driven _ g, fun s own w port a l c h hr => by
    obtain ⟨X, h, rfl⟩ := h
    exact uniqFeed_no g (needOf s) port a l c w h.rep.need hr, fun s own w port h hr => by
    obtain ⟨X, h, rfl⟩ := h
    have he : endE (needOf s) port = errN (needOf s) := endE_err hr
    have := end_no g (needOf s) port w h.rep.need (by rw [he]; exact (errN_ne _).1)
    rw [he] at this
    exact this, fun s own w h hr => by
    obtain ⟨X, h, rfl⟩ := h
    exact more_any h.rep.need hr⟩

end Go.Proofs.YtmmhpjhmobhdiaaDoor
