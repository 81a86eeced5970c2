/- What the law's own joined does. -/
import Derived.Test.YtdpjopemdhbgpaaDoorDenote
import Derived.Outline
namespace Go.Proofs.YtdpjopemdhbgpaaDoor
open Go.RowKit

set_option maxRecDepth 100000 in
set_option maxHeartbeats 4000000 in
theorem joinedOf_any {p : Nat → Prop} (v : Value) (L : Lines) (w : World) (hL : IsTexts p w v L) (h64 : ∀ l ∈ L, l.length ≤ 64) (hl : L.length ≤ 100000) : Calls Tryd.prog 26 #[v] w (Says w (strV (joinL L))) := by
  have hjl := joinL_len h64
  have HTx := Lib.hid hL
  have HR := Lib.hid h64
  obtain ⟨a, c, rfl, -⟩ := hL
  clear h64
  go_enter Tryd.func26, Tryd.ntmps26
  go_wp2_with fail
  have hst : strV (joinL (L.take 0)) = .string { data := #[] } := rfl
  rw [← hst]
  clear hst
  go_loopw [3, 4] (fun sv iv wr => ∃ j : Nat, sv = strV (joinL (L.take j)) ∧ iv = .int .i64 j ∧ j ≤ L.length ∧ wr = w) (fun _ i _ => L.length - (intOf i).toNat)
  case atStart => exact ⟨0, rfl, rfl, Nat.zero_le _, rfl⟩
  case round =>
    obtain ⟨j, rfl, rfl, hjL, rfl⟩ := hrel
    have hjl2 := joinL_le L j
    obtain ⟨S0, hS0⟩ : ∃ S : ByteArray, strV (joinL (L.take j)) = .string S := ⟨_, rfl⟩
    rw [hS0]
    have z0 := strV_size hS0
    have HS0 := Lib.hid hS0
    clear hS0
    by_cases hlt : j < L.length
    · obtain ⟨l, hl2⟩ : ∃ l, L[j]? = some l := ⟨L[j]'hlt, List.getElem?_eq_getElem hlt⟩
      obtain ⟨_, _, e, hcs⟩ := HTx.out
      cases e
      obtain ⟨gx, ox, rfl, -, hx⟩ := hcs j l hl2
      obtain ⟨S1, hS1⟩ : ∃ S : ByteArray, strV l = .string S := ⟨_, rfl⟩
      rw [hS1] at hx
      have z1 := strV_size hS1
      have hl64 := HR.out l (List.mem_of_getElem? hl2)
      have a1 := add_fits (S := S0) (T := S1) (by omega) (by omega)
      have hS01 := strV_add HS0.out hS1
      have z01 := strV_size hS01
      rw [List.length_append] at z01
      have a2 := add_fits (S := S0 ++ S1) (T := { data := #[10] }) (by omega) (by decide)
      have hfin := strV_add hS01 strV_end
      rw [List.append_assoc, ← joinL_take hl2] at hfin
      have HFin := Lib.hid hfin
      have q0 : (0 : Int) ≤ (j : Int) := by omega
      have q1 : (j : Int) < (L.length : Int) := by omega
      clear hcs hfin hS01 hS1 hl2
      go_wp2_with fail
      exact ⟨⟨j + 1, by rw [HFin.out], by go_num, by omega, trivial⟩, by simp [intOf]; omega⟩
    · obtain rfl : j = L.length := by omega
      have q1 : ¬ (L.length : Int) < (L.length : Int) := by omega
      have htk := HS0.out
      rw [List.take_length] at htk
      have HTk := Lib.hid htk
      clear htk hlt
      go_wp2_with fail
      go_ret
      exact ⟨by rw [HTk.out]; rfl, rfl⟩

end Go.Proofs.YtdpjopemdhbgpaaDoor
