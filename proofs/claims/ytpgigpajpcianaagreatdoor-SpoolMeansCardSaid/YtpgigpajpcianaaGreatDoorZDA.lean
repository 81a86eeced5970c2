/- What a machine answers, in memory: a slice of ports and bytes. -/
import Derived.Test.YtpgigpajpcianaaGreatDoorZIA
import Derived.Test.YtpgigpajpcianaaGreatDoorZLB
namespace Go.Proofs.YtpgigpajpcianaaGreatDoor
open Go.RowKit

abbrev Outs := List (Nat × List UInt8)
abbrev OutX := List ((Nat × List UInt8) × Value)
def outCells (X : OutX) : List Value := X.flatMap fun t => [.int .i64 t.1.1, t.2]
theorem outCells_at : ∀ (X : OutX) (j : Nat) t, X[j]? = some t → (outCells X)[j * 2]? = some (.int .i64 t.1.1) ∧ (outCells X)[j * 2 + 1]? = some t.2
  | [], j, t, h => by simp at h
  | x :: X, 0, t, h => by
    simp at h
    subst h
    simp [outCells]
  | x :: X, j + 1, t, h => by
    simp only [List.getElem?_cons_succ] at h
    have := outCells_at X j t h
    rw [show (j + 1) * 2 = j * 2 + 1 + 1 by omega]
    simpa [outCells] using this
def IsOuts (p : Nat → Prop) (w : World) (v : Value) (L : Outs) : Prop :=
  ∃ X : OutX, X.map (·.1) = L ∧ (∃ a cap, v = .slice a X.length cap ∧ ∀ (j : Nat) t, X[j]? = some t → ∃ gb off, a = some ⟨gb, off, none⟩ ∧ p gb ∧ w.cell? ⟨gb, off + j * 2, none⟩ = some (.int .i64 t.1.1) ∧ w.cell? ⟨gb, off + j * 2 + 1, none⟩ = some t.2) ∧
    ∀ t ∈ X, IsBytes p w t.2 t.1.2
theorem IsOuts.frame {p q : Nat → Prop} {w w' : World} {v : Value} {L : Outs} (h : IsOuts p w v L) (hf : Frame q w w') (hpq : ∀ k, p k → ¬ q k) : IsOuts p w' v L := by
  obtain ⟨X, hX, ⟨a, cap, rfl, hc⟩, hb⟩ := h
  refine ⟨X, hX, ⟨a, cap, rfl, fun j t hj => ?_⟩, fun t ht => (hb t ht).frame hf hpq⟩
  obtain ⟨gb, off, rfl, hp, h1, h2⟩ := hc j t hj
  exact ⟨gb, off, rfl, hp, hf.cell? h1 (hpq _ hp), hf.cell? h2 (hpq _ hp)⟩
theorem IsOuts.mono {p q : Nat → Prop} {w : World} {v : Value} {L : Outs} (h : IsOuts p w v L) (hpq : ∀ k, k < w.heap.size → p k → q k) : IsOuts q w v L := by
  obtain ⟨X, hX, ⟨a, cap, rfl, hc⟩, hb⟩ := h
  refine ⟨X, hX, ⟨a, cap, rfl, fun j t hj => ?_⟩, fun t ht => (hb t ht).mono hpq⟩
  obtain ⟨gb, off, rfl, hp, h1, h2⟩ := hc j t hj
  exact ⟨gb, off, rfl, hpq _ (block_lt_of_cell h1) hp, h1, h2⟩
def OwnOuts (base : Nat) (w : World) (v : Value) (L : Outs) : Prop :=
  ∃ X : OutX, X.map (·.1) = L ∧ w.ownsRow base 128 2 v X.length (outCells X) ∧ ∀ t ∈ X, IsBytes (fun k => base ≤ k ∧ v.ownBlock ≠ some k) w t.2 t.1.2
theorem OwnOuts.nil (base : Nat) (w : World) : OwnOuts base w (.slice none 0 0) [] := ⟨[], rfl, World.ownsRow_nil w base _ 2, fun t ht => by cases ht⟩
theorem OwnOuts.is {base : Nat} {w : World} {v : Value} {L : Outs} (h : OwnOuts base w v L) : IsOuts (base ≤ ·) w v L := by
  obtain ⟨X, hX, ho, hb⟩ := h
  refine ⟨X, hX, ?_, fun t ht => (hb t ht).mono (fun k _ hk => hk.1)⟩
  have ho' := ho
  rcases ho.2 with ⟨rfl, h0⟩ | ⟨g, cap, cur, rfl, hb, _⟩
  · refine ⟨none, 0, by rw [h0], fun j t hj => ?_⟩
    rw [List.eq_nil_of_length_eq_zero h0] at hj
    simp at hj
  · refine ⟨_, cap, rfl, fun j t hj => ⟨g, 0, rfl, hb, ?_⟩⟩
    obtain ⟨h1, h2⟩ := outCells_at X j t hj
    have c1 := World.ownsRow.cells ho' (g := g) rfl _ _ h1
    have c2 := World.ownsRow.cells ho' (g := g) rfl _ _ h2
    rw [Addr.add_mid] at c1 c2
    refine ⟨c1, ?_⟩
    rw [Nat.add_assoc]
    exact c2
theorem OwnOuts.frame {q : Nat → Prop} {base : Nat} {w w' : World} {v : Value} {L : Outs} (h : OwnOuts base w v L) (hf : Frame q w w') (hq : ∀ k, base ≤ k → k < w.heap.size → ¬ q k) : OwnOuts base w' v L := by
  obtain ⟨X, hX, ho, hb⟩ := h
  refine ⟨X, hX, hf.owns ho (fun g hg => hq g (ho.lt g hg).1 (ho.lt g hg).2), fun t ht => ?_⟩
  exact ((hb t ht).mono (q := fun k => (base ≤ k ∧ k < w.heap.size) ∧ v.ownBlock ≠ some k) (fun k hk h => ⟨⟨h.1, hk⟩, h.2⟩)).frame hf (fun k hk => hq k hk.1.1 hk.1.2) |>.mono (fun k _ h => ⟨h.1.1, h.2⟩)
theorem OwnOuts.below {base : Nat} {w w' : World} {v : Value} {L : Outs} (h : OwnOuts base w v L) (hb : Below w.heap.size w w') : OwnOuts base w' v L := h.frame (Below.toFrame hb fun _ => False) (fun _ _ _ h => h)
theorem OwnOuts.mono {base base' : Nat} {w : World} {v : Value} {L : Outs} (h : OwnOuts base w v L) (hb : base' ≤ base) : OwnOuts base' w v L := by
  obtain ⟨X, hX, ho, hx⟩ := h
  refine ⟨X, hX, ⟨ho.1, ?_⟩, fun t ht => (hx t ht).mono (fun k _ h => ⟨Nat.le_trans hb h.1, h.2⟩)⟩
  rcases ho.2 with h0 | ⟨g, cap, cur, e, h1, h2⟩
  · exact .inl h0
  · exact .inr ⟨g, cap, cur, e, Nat.le_trans hb h1, h2⟩
theorem OwnOuts.lt {base : Nat} {w : World} {v : Value} {L : Outs} (h : OwnOuts base w v L) : ∀ k, v.ownBlock = some k → base ≤ k ∧ k < w.heap.size := by
  obtain ⟨X, -, ho, -⟩ := h
  exact ho.lt
theorem OwnOuts.slice {base : Nat} {w : World} {v : Value} {L : Outs} (h : OwnOuts base w v L) : ∃ a cap, v = .slice a L.length cap := by
  obtain ⟨X, rfl, ho, -⟩ := h
  rcases ho.2 with ⟨rfl, h0⟩ | ⟨g, cap, cur, rfl, _⟩
  · exact ⟨none, 0, by rw [List.length_map, h0]⟩
  · exact ⟨_, cap, by rw [List.length_map]⟩
end Go.Proofs.YtpgigpajpcianaaGreatDoor

namespace Go.Proofs.YtpgigpajpcianaaGreatDoor

structure LS (U : Type) where
  live : Bool
  fail : Bool
  b : List UInt8
  u : U
abbrev Teller (U : Type) := U → List UInt8 → U × Outs × Bool
section
variable {U : Type}
def feedB (tell : Teller U) : List UInt8 → LS U → LS U × Outs × Int
  | [], s => (s, [], 0)
  | c :: r, s =>
    if s.live = false then (s, [], 0)
    else if c = 10 then
      let n := feedB tell r ⟨!(tell s.u s.b).2.2, s.fail, [], (tell s.u s.b).1⟩
      (n.1, (tell s.u s.b).2.1 ++ n.2.1, n.2.2)
    else if s.b.length = 64 then (⟨false, true, [], s.u⟩, [], 20)
    else feedB tell r ⟨true, s.fail, s.b ++ [c], s.u⟩
inductive Round (tell : Teller U) (s : LS U) (r : List UInt8) : Prop
  | fails (hc : cutL s.b (r.take (through r)) = ([], none)) (hf : feedB tell r s = (⟨false, true, [], s.u⟩, [], 20))
  | more (d : List UInt8) (hc : cutL s.b (r.take (through r)) = ([], some d)) (hd : d.length ≤ 64) (hf : feedB tell r s = feedB tell (r.drop (through r)) ⟨true, s.fail, d, s.u⟩)
  | tells (l : List UInt8) (hc : cutL s.b (r.take (through r)) = ([l], some [])) (hl : l.length ≤ 64)
      (hf : feedB tell r s = ((feedB tell (r.drop (through r)) ⟨!(tell s.u l).2.2, s.fail, [], (tell s.u l).1⟩).1, (tell s.u l).2.1 ++ (feedB tell (r.drop (through r)) ⟨!(tell s.u l).2.2, s.fail, [], (tell s.u l).1⟩).2.1, (feedB tell (r.drop (through r)) ⟨!(tell s.u l).2.2, s.fail, [], (tell s.u l).1⟩).2.2))
end

structure Strm where
  bytes : List UInt8
  ended : Bool
  code : Int
  stage : Int
  id : Int
structure Mach (S : Type) where
  need : S → Int
  held : S → Int
  feed : S → List UInt8 → S × Outs × Int
  fin : S → S × Outs × Int
  more : S → S × Outs × Int
structure GotL where
  outs : Nat → List UInt8
  need : Int
  err : Int
  held : Int
  taken : Nat → Nat
def putOuts (f : Nat → List UInt8) (o : Outs) : Nat → List UInt8 := o.foldl (fun f t i => if i = t.1 then f i ++ t.2 else f i) f
def cutAt (cuts : List Int) (n : Nat) : Nat := if cuts = [] then 32 else ((cuts.getD (n % cuts.length) 0).tmod 32).natAbs + 1
structure DS (S : Type) where
  got : GotL
  told : Nat → Bool
  s : S
section
variable {S : Type} (M : Mach S) (ins : List Strm) (cuts : List Int)
def after (x : DS S) (r : S × Outs × Int) : DS S :=
  { x with s := r.1, got := { x.got with outs := putOuts x.got.outs r.2.1, err := r.2.2, held := max x.got.held (M.held r.1), need := M.need r.1 } }
def toAt (x : DS S) (n : Nat) (k : Nat) (b : List UInt8) : Nat := min b.length (x.got.taken k + cutAt cuts n)
def chunkAt (x : DS S) (n : Nat) (k : Nat) (b : List UInt8) : List UInt8 := (b.take (toAt cuts x n k b)).drop (x.got.taken k)
def took (x : DS S) (k q : Nat) : DS S := { x with got := { x.got with taken := fun i => if i = k then q else x.got.taken i } }
def tells (x : DS S) (k : Nat) : DS S := { x with told := fun i => if i = k then true else x.told i }
def step (n : Nat) (x : DS S) : Option (DS S) :=
  if x.got.need = -2 then some (after M x (M.more x.s))
  else match ins[x.got.need.toNat]? with
    | none => none
    | some i =>
      if x.got.taken x.got.need.toNat < i.bytes.length then some (after M (took x x.got.need.toNat (toAt cuts x n x.got.need.toNat i.bytes)) (M.feed x.s (chunkAt cuts x n x.got.need.toNat i.bytes)))
      else if i.ended = true ∧ x.told x.got.need.toNat = false then some (after M (tells x x.got.need.toNat) (M.fin x.s))
      else none
def drive : Nat → Nat → DS S → DS S
  | 0, _, x => x
  | f + 1, n, x => if x.got.err = 0 ∧ x.got.need ≠ -1 then match step M ins cuts n x with
      | none => x
      | some y => drive f (n + 1) y
    else x
def start (s : S) : DS S := { got := { outs := fun _ => [], need := M.need s, err := 0, held := 0, taken := fun _ => 0 }, told := fun _ => false, s := s }
end

end Go.Proofs.YtpgigpajpcianaaGreatDoor

namespace Go.Proofs.YtpgigpajpcianaaGreatDoor
open Go.RowKit

def Enters (F : FuncId) : Prop := ∀ (args : Array Value) (w : World), (callFunc F args).run Tryz.prog w = .ok (.enter F args) w
end Go.Proofs.YtpgigpajpcianaaGreatDoor
