/- Plainly: turn. -/
import Derived.Test.YtacmbjamnmpmoaaDoorBytem
import Derived.Test.YtacmbjamnmpmoaaDoorTurnTell
import Derived.Test.YtacmbjamnmpmoaaDoorRB
namespace Go.Proofs.YtacmbjamnmpmoaaDoor

def turnMach (A B : List UInt8) : Mach Bool where
  need s := if s then 0 else -1
  held _ := 0
  feed s x := (s, turnO A B x, 0)
  fin _ := (false, [], 0)
  more s := (s, [], 0)
/-- The same, byte by byte. -/
def turnEach (A B : List UInt8) : Mach Bool where
  need s := if s then 0 else -1
  held _ := 0
  feed s x := (s, (turnL A B x).map fun b => (0, [b]), 0)
  fin _ := (false, [], 0)
  more s := (s, [], 0)
theorem turn_alike (A B : List UInt8) : Alike (turnMach A B) (turnEach A B) where
  need _ := rfl
  held _ := rfl
  feed _ x := ⟨rfl, rfl, fun f => (putOuts_single 0 (turnL A B x) f).trans (putOuts_each 0 (turnL A B x) f).symm⟩
  fin _ := ⟨rfl, rfl, fun _ => rfl⟩
  more _ := ⟨rfl, rfl, fun _ => rfl⟩
theorem turnL_append (A B x y : List UInt8) : turnL A B (x ++ y) = turnL A B x ++ turnL A B y := by simp [turnL]
theorem turn_one (A B : List UInt8) : One (turnEach A B) where
  nil s _ := rfl
  app s x y h := by
    have h1 : (turnEach A B).need ((turnEach A B).feed s x).1 = 0 ∧ ((turnEach A B).feed s x).2.2 = 0 := ⟨h, rfl⟩
    rw [if_pos h1]
    show (s, (turnL A B (x ++ y)).map (fun b => (0, [b])), (0 : Int)) = (s, (turnL A B x).map (fun b => (0, [b])) ++ (turnL A B y).map (fun b => (0, [b])), 0)
    rw [turnL_append, List.map_append]
  fed s x h := .inl h

def turnFin (_ : Nat) (A B : List UInt8) (i : Strm) : Fin := ⟨fun j => if j = 0 then turnL A B i.bytes else [], if i.ended then -1 else 0, 0⟩
theorem turn_final (A B x : List UInt8) (e : Bool) : finalM (turnEach A B) 0 true x e = (!e, (turnL A B x).map (fun b => (0, [b])), 0) := by
  unfold finalM
  cases e with
  | true =>
    rw [if_pos ⟨rfl, rfl, rfl⟩]
    show moreAll (turnEach A B) 0 (false, (turnL A B x).map (fun b => (0, [b])) ++ [], (0 : Int)) = _
    rw [List.append_nil]
    rfl
  | false => rw [if_neg (fun h => by cases h.2.2)]; rfl
theorem turn_driven_to (A B : List UInt8) (i : Strm) (cuts : List Int) (hl : i.bytes.length ≤ 4000) :
    (drive (turnMach A B) [i] cuts 100000 0 (start (turnMach A B) true)).got.outs = (turnFin 0 A B i).outs ∧ (drive (turnMach A B) [i] cuts 100000 0 (start (turnMach A B) true)).got.need = (turnFin 0 A B i).need ∧
    (drive (turnMach A B) [i] cuts 100000 0 (start (turnMach A B) true)).got.err = (turnFin 0 A B i).err := by
  rw [alike_drive (turn_alike A B), alike_start (turn_alike A B)]
  obtain ⟨h1, h2, h3⟩ := drive_one (turnEach A B) (turn_one A B) i cuts 0 100000 0 (start (turnEach A B) true) rfl rfl rfl (Nat.zero_le _) rfl (by show i.bytes.length - 0 + 2 + 0 ≤ 100000; omega) (fun _ => by
    show Done (turnEach A B) (finalM (turnEach A B) 0 true (i.bytes.drop 0) true)
    rw [turn_final]
    exact .inl rfl)
  have hf : finalM (turnEach A B) 0 (start (turnEach A B) true).s (i.bytes.drop ((start (turnEach A B) true).got.taken 0)) i.ended = (!i.ended, (turnL A B i.bytes).map (fun b => (0, [b])), 0) := turn_final A B i.bytes i.ended
  rw [hf] at h1 h2 h3
  refine ⟨?_, ?_, h2⟩
  · rw [h1]
    simp only
    rw [putOuts_each]
    funext j
    simp [start, turnFin]
  · rw [h3]
    show (if (!i.ended) = true then (0 : Int) else -1) = if i.ended then -1 else 0
    cases i.ended <;> rfl
theorem turn_kept (A B : List UInt8) (ins : List Strm) (cuts : List Int) : (drive (turnMach A B) ins cuts 100000 0 (start (turnMach A B) true)).got.held ≤ 0 :=
  (drive_inv (turnMach A B) (fun _ => True) 0 (fun _ _ => Int.le_refl 0) (fun _ _ _ => trivial) (fun _ _ => trivial) (fun _ _ => trivial) ins cuts 100000 0 (start (turnMach A B) true) trivial (Int.le_refl 0)).2

end Go.Proofs.YtacmbjamnmpmoaaDoor
