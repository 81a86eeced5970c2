/- The plain model: machines of lines, and how they are driven. No conditions. -/
import Derived.Test.YtbanofgigfdlnaaDoorDouts
namespace Go.Proofs.YtbanofgigfdlnaaDoor

/-! A machine of lines. -/
structure LS (U : Type) where
  live : Bool
  fail : Bool
  b : List UInt8
  u : U
/-- What comes of a line: the state behind it, what is told, whether it stops. -/
abbrev Teller (U : Type) := U → List UInt8 → U × Outs × Bool
section
variable {U : Type}
def feedB (tell : Teller U) : List UInt8 → LS U → LS U × Outs × Int
  | [], s => (s, [], 0)
  | c :: r, s =>
    if s.live = false then (s, [], 0)
    else if c = 10 then
      let n := feedB tell r ⟨!(tell s.u s.b).2.2, s.fail, [], (tell s.u s.b).1⟩
      (n.1, (tell s.u s.b).2.1 ++ n.2.1, n.2.2)
    else if s.b.length = 64 then (⟨false, true, [], s.u⟩, [], 20)
    else feedB tell r ⟨true, s.fail, s.b ++ [c], s.u⟩
def endB (tell : Teller U) (s : LS U) : LS U × Outs × Int :=
  if s.b = [] then (⟨false, s.fail, [], s.u⟩, [], 0) else (⟨false, s.fail, [], (tell s.u s.b).1⟩, (tell s.u s.b).2.1, 0)

theorem feedB_dead (tell : Teller U) (x : List UInt8) (s : LS U) (h : s.live = false) : feedB tell x s = (s, [], 0) := by
  cases x with
  | nil => rfl
  | cons c r => rw [feedB, if_pos h]
theorem feedB_end (tell : Teller U) (r : List UInt8) (s : LS U) (h : s.live = true) :
    feedB tell (10 :: r) s = ((feedB tell r ⟨!(tell s.u s.b).2.2, s.fail, [], (tell s.u s.b).1⟩).1, (tell s.u s.b).2.1 ++ (feedB tell r ⟨!(tell s.u s.b).2.2, s.fail, [], (tell s.u s.b).1⟩).2.1, (feedB tell r ⟨!(tell s.u s.b).2.2, s.fail, [], (tell s.u s.b).1⟩).2.2) := by
  rw [feedB, if_neg (by rw [h]; decide), if_pos rfl]
theorem feedB_long (tell : Teller U) (c : UInt8) (r : List UInt8) (s : LS U) (h : s.live = true) (hc : c ≠ 10) (hl : s.b.length = 64) : feedB tell (c :: r) s = (⟨false, true, [], s.u⟩, [], 20) := by
  rw [feedB, if_neg (by rw [h]; decide), if_neg hc, if_pos hl]
theorem feedB_put (tell : Teller U) (c : UInt8) (r : List UInt8) (s : LS U) (h : s.live = true) (hc : c ≠ 10) (hl : s.b.length ≠ 64) : feedB tell (c :: r) s = feedB tell r ⟨true, s.fail, s.b ++ [c], s.u⟩ := by
  rw [feedB, if_neg (by rw [h]; decide), if_neg hc, if_neg hl]
theorem feedB_append (tell : Teller U) : ∀ (x y : List UInt8) (s : LS U), feedB tell (x ++ y) s =
    ((feedB tell y (feedB tell x s).1).1, (feedB tell x s).2.1 ++ (feedB tell y (feedB tell x s).1).2.1, if (feedB tell x s).2.2 = 0 then (feedB tell y (feedB tell x s).1).2.2 else (feedB tell x s).2.2)
  | [], y, s => by simp [feedB]
  | c :: x, y, s => by
    by_cases hl : s.live = true
    · rw [List.cons_append]
      by_cases hc : c = 10
      · subst hc
        rw [feedB_end tell _ s hl, feedB_end tell _ s hl, feedB_append tell x y]
        simp [List.append_assoc]
      · by_cases h64 : s.b.length = 64
        · rw [feedB_long tell c _ s hl hc h64, feedB_long tell c _ s hl hc h64]
          simp [feedB_dead]
        · rw [feedB_put tell c _ s hl hc h64, feedB_put tell c _ s hl hc h64, feedB_append tell x y]
    · have hd : s.live = false := by simpa using hl
      rw [feedB_dead tell _ s hd, feedB_dead tell _ s hd, feedB_dead tell _ s hd]
      simp

/-- What a round of Feed's loop comes to: up to the first end of a line. -/
inductive Round (tell : Teller U) (s : LS U) (r : List UInt8) : Prop
  | fails (hc : cutL s.b (r.take (through r)) = ([], none)) (hf : feedB tell r s = (⟨false, true, [], s.u⟩, [], 20))
  | more (d : List UInt8) (hc : cutL s.b (r.take (through r)) = ([], some d)) (hd : d.length ≤ 64) (hf : feedB tell r s = feedB tell (r.drop (through r)) ⟨true, s.fail, d, s.u⟩)
  | tells (l : List UInt8) (hc : cutL s.b (r.take (through r)) = ([l], some [])) (hl : l.length ≤ 64)
      (hf : feedB tell r s = ((feedB tell (r.drop (through r)) ⟨!(tell s.u l).2.2, s.fail, [], (tell s.u l).1⟩).1, (tell s.u l).2.1 ++ (feedB tell (r.drop (through r)) ⟨!(tell s.u l).2.2, s.fail, [], (tell s.u l).1⟩).2.1, (feedB tell (r.drop (through r)) ⟨!(tell s.u l).2.2, s.fail, [], (tell s.u l).1⟩).2.2))
theorem round_of (tell : Teller U) : ∀ (r : List UInt8) (s : LS U), s.live = true → s.b.length ≤ 64 → Round tell s r
  | [], s, h, hb => .more s.b (by simp [through, cutL]) hb (by
      cases s
      simp at h
      subst h
      rfl)
  | c :: r, s, h, hb => by
    by_cases hc : c = 10
    · subst hc
      refine .tells s.b ?_ hb ?_
      · simp [through, cutL]
      · rw [feedB_end tell r s h]
        simp [through]
    · have ht : (c :: r).take (through (c :: r)) = c :: r.take (through r) := by rw [through, if_neg hc, List.take_succ_cons]
      have hd : (c :: r).drop (through (c :: r)) = r.drop (through r) := by rw [through, if_neg hc, List.drop_succ_cons]
      by_cases h64 : s.b.length = 64
      · refine .fails ?_ (feedB_long tell c r s h hc h64)
        rw [ht, cutL_long _ _ _ hc h64]
      · have hp := feedB_put tell c r s h hc h64
        have hcut := cutL_put s.b (r.take (through r)) c hc h64
        rcases round_of tell r ⟨true, s.fail, s.b ++ [c], s.u⟩ rfl (by simp; omega) with ⟨h1, h2⟩ | ⟨d, h1, h2, h3⟩ | ⟨l, h1, h2, h3⟩
        · exact .fails (by rw [ht, hcut]; exact h1) (by rw [hp, h2])
        · exact .more d (by rw [ht, hcut]; exact h1) h2 (by rw [hp, h3, hd])
        · exact .tells l (by rw [ht, hcut]; exact h1) h2 (by rw [hp, h3, hd])

theorem feedB_le (tell : Teller U) : ∀ (x : List UInt8) (s : LS U), s.b.length ≤ 64 → (feedB tell x s).1.b.length ≤ 64
  | [], s, h => h
  | c :: r, s, h => by
    by_cases hl : s.live = true
    · by_cases hc : c = 10
      · subst hc
        rw [feedB_end tell r s hl]
        exact feedB_le tell r _ (by simp)
      · by_cases h64 : s.b.length = 64
        · rw [feedB_long tell c r s hl hc h64]; simp
        · rw [feedB_put tell c r s hl hc h64]
          exact feedB_le tell r _ (by simp; omega)
    · rw [feedB_dead tell _ s (by simpa using hl)]
      exact h
end

/-! Streams, and machines that are driven. -/
structure Strm where
  bytes : List UInt8
  ended : Bool
  code : Int
  stage : Int
  id : Int
structure Mach (S : Type) where
  need : S → Int
  held : S → Int
  feed : S → List UInt8 → S × Outs × Int
  fin : S → S × Outs × Int
  more : S → S × Outs × Int
def needOf {U : Type} (s : LS U) : Int := if s.live then 0 else -1
def linesM {U : Type} (tell : Teller U) : Mach (LS U) where
  need := needOf
  held s := s.b.length
  feed s x := feedB tell x s
  fin := endB tell
  more s := (s, [], 1)

/-- What a machine did. -/
structure GotL where
  outs : Nat → List UInt8
  need : Int
  err : Int
  held : Int
  taken : Nat → Nat
def putOuts (f : Nat → List UInt8) (o : Outs) : Nat → List UInt8 := o.foldl (fun f t i => if i = t.1 then f i ++ t.2 else f i) f
def cutAt (cuts : List Int) (n : Nat) : Nat := if cuts = [] then 32 else ((cuts.getD (n % cuts.length) 0).tmod 32).natAbs + 1
structure DS (S : Type) where
  got : GotL
  told : Nat → Bool
  s : S
section
variable {S : Type} (M : Mach S) (ins : List Strm) (cuts : List Int)
def after (x : DS S) (r : S × Outs × Int) : DS S :=
  { x with s := r.1, got := { x.got with outs := putOuts x.got.outs r.2.1, err := r.2.2, held := max x.got.held (M.held r.1), need := M.need r.1 } }
/-- More: what is taken; the chunk's end. -/
def toAt (x : DS S) (n : Nat) (k : Nat) (b : List UInt8) : Nat := min b.length (x.got.taken k + cutAt cuts n)
def chunkAt (x : DS S) (n : Nat) (k : Nat) (b : List UInt8) : List UInt8 := (b.take (toAt cuts x n k b)).drop (x.got.taken k)
def took (x : DS S) (k q : Nat) : DS S := { x with got := { x.got with taken := fun i => if i = k then q else x.got.taken i } }
def tells (x : DS S) (k : Nat) : DS S := { x with told := fun i => if i = k then true else x.told i }
def step (n : Nat) (x : DS S) : Option (DS S) :=
  if x.got.need = -2 then some (after M x (M.more x.s))
  else match ins[x.got.need.toNat]? with
    | none => none
    | some i =>
      if x.got.taken x.got.need.toNat < i.bytes.length then some (after M (took x x.got.need.toNat (toAt cuts x n x.got.need.toNat i.bytes)) (M.feed x.s (chunkAt cuts x n x.got.need.toNat i.bytes)))
      else if i.ended = true ∧ x.told x.got.need.toNat = false then some (after M (tells x x.got.need.toNat) (M.fin x.s))
      else none
def drive : Nat → Nat → DS S → DS S
  | 0, _, x => x
  | f + 1, n, x => if x.got.err = 0 ∧ x.got.need ≠ -1 then match step M ins cuts n x with
      | none => x
      | some y => drive f (n + 1) y
    else x
def start (s : S) : DS S := { got := { outs := fun _ => [], need := M.need s, err := 0, held := 0, taken := fun _ => 0 }, told := fun _ => false, s := s }
end

end Go.Proofs.YtbanofgigfdlnaaDoor
