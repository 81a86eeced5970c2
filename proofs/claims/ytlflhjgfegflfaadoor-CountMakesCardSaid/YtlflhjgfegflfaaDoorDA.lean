/- What a machine answers, in memory: a slice of ports and bytes. -/
import Derived.Test.YtlflhjgfegflfaaDoorIA
import Derived.Test.YtlflhjgfegflfaaDoorLB
namespace Go.Proofs.YtlflhjgfegflfaaDoor
open Go.RowKit

abbrev Outs := List (Nat × List UInt8)
abbrev OutX := List ((Nat × List UInt8) × Value)
def outCells (X : OutX) : List Value := X.flatMap fun t => [.int .i64 t.1.1, t.2]
theorem length_outCells (X : OutX) : (outCells X).length = X.length * 2 := by
  induction X with
  | nil => rfl
  | cons t X ih => simp only [outCells, List.flatMap_cons, List.length_append, List.length_cons] at ih ⊢; simp at ih ⊢; omega
theorem outCells_append (X Y : OutX) : outCells (X ++ Y) = outCells X ++ outCells Y := by simp [outCells]
theorem outCells_at : ∀ (X : OutX) (j : Nat) t, X[j]? = some t → (outCells X)[j * 2]? = some (.int .i64 t.1.1) ∧ (outCells X)[j * 2 + 1]? = some t.2
  | [], j, t, h => by simp at h
  | x :: X, 0, t, h => by
    simp at h
    subst h
    simp [outCells]
  | x :: X, j + 1, t, h => by
    simp only [List.getElem?_cons_succ] at h
    have := outCells_at X j t h
    rw [show (j + 1) * 2 = j * 2 + 1 + 1 by omega]
    simpa [outCells] using this

/-- The value is a slice of these answers, in blocks of p. -/
def IsOuts (p : Nat → Prop) (w : World) (v : Value) (L : Outs) : Prop :=
  ∃ X : OutX, X.map (·.1) = L ∧ (∃ a cap, v = .slice a X.length cap ∧ ∀ (j : Nat) t, X[j]? = some t → ∃ gb off, a = some ⟨gb, off, none⟩ ∧ p gb ∧ w.cell? ⟨gb, off + j * 2, none⟩ = some (.int .i64 t.1.1) ∧ w.cell? ⟨gb, off + j * 2 + 1, none⟩ = some t.2) ∧
    ∀ t ∈ X, IsBytes p w t.2 t.1.2
theorem IsOuts.frame {p q : Nat → Prop} {w w' : World} {v : Value} {L : Outs} (h : IsOuts p w v L) (hf : Frame q w w') (hpq : ∀ k, p k → ¬ q k) : IsOuts p w' v L := by
  obtain ⟨X, hX, ⟨a, cap, rfl, hc⟩, hb⟩ := h
  refine ⟨X, hX, ⟨a, cap, rfl, fun j t hj => ?_⟩, fun t ht => (hb t ht).frame hf hpq⟩
  obtain ⟨gb, off, rfl, hp, h1, h2⟩ := hc j t hj
  exact ⟨gb, off, rfl, hp, hf.cell? h1 (hpq _ hp), hf.cell? h2 (hpq _ hp)⟩

theorem IsOuts.mono {p q : Nat → Prop} {w : World} {v : Value} {L : Outs} (h : IsOuts p w v L) (hpq : ∀ k, k < w.heap.size → p k → q k) : IsOuts q w v L := by
  obtain ⟨X, hX, ⟨a, cap, rfl, hc⟩, hb⟩ := h
  refine ⟨X, hX, ⟨a, cap, rfl, fun j t hj => ?_⟩, fun t ht => (hb t ht).mono hpq⟩
  obtain ⟨gb, off, rfl, hp, h1, h2⟩ := hc j t hj
  exact ⟨gb, off, rfl, hpq _ (block_lt_of_cell h1) hp, h1, h2⟩

/-- .. that is the call's own: from block 'base' on. -/
def OwnOuts (base : Nat) (w : World) (v : Value) (L : Outs) : Prop :=
  ∃ X : OutX, X.map (·.1) = L ∧ w.ownsRow base 100 2 v X.length (outCells X) ∧ ∀ t ∈ X, IsBytes (fun k => base ≤ k ∧ v.ownBlock ≠ some k) w t.2 t.1.2
theorem OwnOuts.nil (base : Nat) (w : World) : OwnOuts base w (.slice none 0 0) [] := ⟨[], rfl, World.ownsRow_nil w base _ 2, fun t ht => by cases ht⟩
theorem OwnOuts.is {base : Nat} {w : World} {v : Value} {L : Outs} (h : OwnOuts base w v L) : IsOuts (base ≤ ·) w v L := by
  obtain ⟨X, hX, ho, hb⟩ := h
  refine ⟨X, hX, ?_, fun t ht => (hb t ht).mono (fun k _ hk => hk.1)⟩
  have ho' := ho
  rcases ho.2 with ⟨rfl, h0⟩ | ⟨g, cap, cur, rfl, hb, _⟩
  · refine ⟨none, 0, by rw [h0], fun j t hj => ?_⟩
    rw [List.eq_nil_of_length_eq_zero h0] at hj
    simp at hj
  · refine ⟨_, cap, rfl, fun j t hj => ⟨g, 0, rfl, hb, ?_⟩⟩
    obtain ⟨h1, h2⟩ := outCells_at X j t hj
    have c1 := World.ownsRow.cells ho' (g := g) rfl _ _ h1
    have c2 := World.ownsRow.cells ho' (g := g) rfl _ _ h2
    rw [Addr.add_mid] at c1 c2
    refine ⟨c1, ?_⟩
    rw [Nat.add_assoc]
    exact c2
theorem OwnOuts.frame {q : Nat → Prop} {base : Nat} {w w' : World} {v : Value} {L : Outs} (h : OwnOuts base w v L) (hf : Frame q w w') (hq : ∀ k, base ≤ k → k < w.heap.size → ¬ q k) : OwnOuts base w' v L := by
  obtain ⟨X, hX, ho, hb⟩ := h
  refine ⟨X, hX, hf.owns ho (fun g hg => hq g (ho.lt g hg).1 (ho.lt g hg).2), fun t ht => ?_⟩
  exact ((hb t ht).mono (q := fun k => (base ≤ k ∧ k < w.heap.size) ∧ v.ownBlock ≠ some k) (fun k hk h => ⟨⟨h.1, hk⟩, h.2⟩)).frame hf (fun k hk => hq k hk.1.1 hk.1.2) |>.mono (fun k _ h => ⟨h.1.1, h.2⟩)
theorem OwnOuts.below {base : Nat} {w w' : World} {v : Value} {L : Outs} (h : OwnOuts base w v L) (hb : Below w.heap.size w w') : OwnOuts base w' v L := h.frame (Below.toFrame hb fun _ => False) (fun _ _ _ h => h)
theorem OwnOuts.mono {base base' : Nat} {w : World} {v : Value} {L : Outs} (h : OwnOuts base w v L) (hb : base' ≤ base) : OwnOuts base' w v L := by
  obtain ⟨X, hX, ho, hx⟩ := h
  refine ⟨X, hX, ⟨ho.1, ?_⟩, fun t ht => (hx t ht).mono (fun k _ h => ⟨Nat.le_trans hb h.1, h.2⟩)⟩
  rcases ho.2 with h0 | ⟨g, cap, cur, e, h1, h2⟩
  · exact .inl h0
  · exact .inr ⟨g, cap, cur, e, Nat.le_trans hb h1, h2⟩
theorem OwnOuts.lt {base : Nat} {w : World} {v : Value} {L : Outs} (h : OwnOuts base w v L) : ∀ k, v.ownBlock = some k → base ≤ k ∧ k < w.heap.size := by
  obtain ⟨X, -, ho, -⟩ := h
  exact ho.lt
theorem OwnOuts.slice {base : Nat} {w : World} {v : Value} {L : Outs} (h : OwnOuts base w v L) : ∃ a cap, v = .slice a L.length cap := by
  obtain ⟨X, rfl, ho, -⟩ := h
  rcases ho.2 with ⟨rfl, h0⟩ | ⟨g, cap, cur, rfl, _⟩
  · exact ⟨none, 0, by rw [List.length_map, h0]⟩
  · exact ⟨_, cap, by rw [List.length_map]⟩

theorem Tryd.info100 : (Tryd.prog.info? 100).map (fun i => (i.zero, i.size, i.bytes)) = some (some (.agg #[.int .i64 0, .slice none 0 0]), 2, 32) := by kernel_rfl
theorem one_outCells (X : OutX) (h : ∀ t ∈ X, t.2.oneCell' = true) : ∀ u ∈ outCells X, u.oneCell' = true := by
  intro u hu
  obtain ⟨t, ht, hu⟩ := List.mem_flatMap.1 hu
  rcases List.mem_cons.1 hu with rfl | hu
  · rfl
  · rw [List.mem_singleton.1 hu]
    exact h t ht
/-- Answers behind answers. -/
theorem wpList_append_outs {ops : Array Oper} {rest : List Oper} {o : Oper} {a : Act} {w : World} {Q : Exit → Act → World → Prop} (hgd : o.guard = none) (s x : Operand) (ho : o.op = .call { callee := .builtin .append, args := #[s, x], argTypes := #[84, 84] })
    {base base2 : Nat} {v vs : Value} {L M : Outs} (hs : a.eval s = v) (hown : OwnOuts base w v L) (hx : a.eval x = vs) (hsrc : OwnOuts base2 w vs M)
    (hlen : L.length + M.length ≤ 1000000) (hbase : base ≤ base2) (hb2 : base2 ≤ w.heap.size) (hv : ∀ k, v.ownBlock = some k → k < base2)
    (h : ∀ v' w', OwnOuts base w' v' (L ++ M) → w.grownBy w' v.ownBlock → (vs = .slice none 0 0 → v' = v ∧ w' = w) → wpList Tryd.prog ops Q rest (a.put o.dst v') w') : wpList Tryd.prog ops Q (o :: rest) a w := by
  obtain ⟨i0, hi, hz0, hz1, hz2⟩ := info_parts Tryd.info100
  obtain ⟨X, rfl, hoX, hbX⟩ := hown
  obtain ⟨Y, rfl, hoY, hbY⟩ := hsrc
  rw [List.length_map, List.length_map] at hlen
  have hoY' := hoY
  rcases hoY.2 with ⟨rfl, h0⟩ | ⟨gy, cap, cur, rfl, hgy, _⟩
  · have hY : Y = [] := List.eq_nil_of_length_eq_zero h0
    subst hY
    refine wpList_plain hgd fun K hK => ?_
    have hrun := run_append_owned_nil (P := Tryd.prog) (w := w) base 84 o.type 100 i0 2 0 (by kernel_rfl) hi v X.length _ hoX
    unfold Oper.wp
    simp [execOp, ho, resolve, invoke, builtin, hs, hx, hrun, Result.andThen]
    exact hK _ _ (h v w ⟨X, by simp, hoX, hbX⟩ ⟨rfl, rfl, rfl, Nat.le_refl _, fun _ _ _ => rfl⟩ (fun _ => ⟨rfl, rfl⟩))
  · refine wpList_append_own_at w hgd s x 84 ho base 100 i0 (.agg #[.int .i64 0, .slice none 0 0]) 2 32 (by kernel_rfl) hi hz0 hz1 hz2 rfl (by decide) v X.length _ hs hoX ⟨gy, 0, none⟩ Y.length cap (outCells Y) hx (length_outCells Y)
      (World.ownsRow.cells hoY' rfl) (one_outCells Y fun t ht => one_bytes (hbY t ht)) (by unfold maxLen; omega) (by omega) (by omega) ?_
    intro v' w' ho' hg' _ hv'
    refine h v' w' ⟨X ++ Y, by simp, by rw [outCells_append, List.length_append]; exact ho', fun t ht => ?_⟩ hg' (fun e => by cases e)
    rcases List.mem_append.1 ht with ht | ht
    · have := (hbX t ht).mono (q := fun k => (base ≤ k ∧ k < w.heap.size) ∧ v.ownBlock ≠ some k) (fun k hk h => ⟨⟨h.1, hk⟩, h.2⟩)
      have := this.frame (((Frame.refl (fun k => v.ownBlock = some k) w)).grown hg' (fun k _ e => e)) (fun k hk e => hk.2 e)
      refine this.mono (fun k _ hk => ⟨hk.1.1, ?_⟩)
      rcases hv' with e | e
      · rw [e]; exact hk.2
      · rw [e]; intro e; have := Option.some.inj e; omega
    · have := (hbY t ht).mono (q := fun k => base2 ≤ k ∧ k < w.heap.size) (fun k hk h => ⟨h.1, hk⟩)
      have := this.frame (((Frame.refl (fun k => v.ownBlock = some k) w)).grown hg' (fun k _ e => e)) (fun k hk e => by have := hv k e; omega)
      refine this.mono (fun k _ hk => ⟨by omega, ?_⟩)
      rcases hv' with e | e
      · rw [e]; intro e; have := hv k e; omega
      · rw [e]; intro e; have := Option.some.inj e; omega

end Go.Proofs.YtlflhjgfegflfaaDoor

namespace Go.Proofs.YtlflhjgfegflfaaDoor

/-! A machine of lines. -/
structure LS (U : Type) where
  live : Bool
  fail : Bool
  b : List UInt8
  u : U
/-- What comes of a line: the state behind it, what is told, whether it stops. -/
abbrev Teller (U : Type) := U → List UInt8 → U × Outs × Bool
section
variable {U : Type}
def feedB (tell : Teller U) : List UInt8 → LS U → LS U × Outs × Int
  | [], s => (s, [], 0)
  | c :: r, s =>
    if s.live = false then (s, [], 0)
    else if c = 10 then
      let n := feedB tell r ⟨!(tell s.u s.b).2.2, s.fail, [], (tell s.u s.b).1⟩
      (n.1, (tell s.u s.b).2.1 ++ n.2.1, n.2.2)
    else if s.b.length = 64 then (⟨false, true, [], s.u⟩, [], 20)
    else feedB tell r ⟨true, s.fail, s.b ++ [c], s.u⟩
def endB (tell : Teller U) (s : LS U) : LS U × Outs × Int :=
  if s.b = [] then (⟨false, s.fail, [], s.u⟩, [], 0) else (⟨false, s.fail, [], (tell s.u s.b).1⟩, (tell s.u s.b).2.1, 0)

theorem feedB_dead (tell : Teller U) (x : List UInt8) (s : LS U) (h : s.live = false) : feedB tell x s = (s, [], 0) := by
  cases x with
  | nil => rfl
  | cons c r => rw [feedB, if_pos h]
theorem feedB_end (tell : Teller U) (r : List UInt8) (s : LS U) (h : s.live = true) :
    feedB tell (10 :: r) s = ((feedB tell r ⟨!(tell s.u s.b).2.2, s.fail, [], (tell s.u s.b).1⟩).1, (tell s.u s.b).2.1 ++ (feedB tell r ⟨!(tell s.u s.b).2.2, s.fail, [], (tell s.u s.b).1⟩).2.1, (feedB tell r ⟨!(tell s.u s.b).2.2, s.fail, [], (tell s.u s.b).1⟩).2.2) := by
  rw [feedB, if_neg (by rw [h]; decide), if_pos rfl]
theorem feedB_long (tell : Teller U) (c : UInt8) (r : List UInt8) (s : LS U) (h : s.live = true) (hc : c ≠ 10) (hl : s.b.length = 64) : feedB tell (c :: r) s = (⟨false, true, [], s.u⟩, [], 20) := by
  rw [feedB, if_neg (by rw [h]; decide), if_neg hc, if_pos hl]
theorem feedB_put (tell : Teller U) (c : UInt8) (r : List UInt8) (s : LS U) (h : s.live = true) (hc : c ≠ 10) (hl : s.b.length ≠ 64) : feedB tell (c :: r) s = feedB tell r ⟨true, s.fail, s.b ++ [c], s.u⟩ := by
  rw [feedB, if_neg (by rw [h]; decide), if_neg hc, if_neg hl]
theorem feedB_append (tell : Teller U) : ∀ (x y : List UInt8) (s : LS U), feedB tell (x ++ y) s =
    ((feedB tell y (feedB tell x s).1).1, (feedB tell x s).2.1 ++ (feedB tell y (feedB tell x s).1).2.1, if (feedB tell x s).2.2 = 0 then (feedB tell y (feedB tell x s).1).2.2 else (feedB tell x s).2.2)
  | [], y, s => by simp [feedB]
  | c :: x, y, s => by
    by_cases hl : s.live = true
    · rw [List.cons_append]
      by_cases hc : c = 10
      · subst hc
        rw [feedB_end tell _ s hl, feedB_end tell _ s hl, feedB_append tell x y]
        simp [List.append_assoc]
      · by_cases h64 : s.b.length = 64
        · rw [feedB_long tell c _ s hl hc h64, feedB_long tell c _ s hl hc h64]
          simp [feedB_dead]
        · rw [feedB_put tell c _ s hl hc h64, feedB_put tell c _ s hl hc h64, feedB_append tell x y]
    · have hd : s.live = false := by simpa using hl
      rw [feedB_dead tell _ s hd, feedB_dead tell _ s hd, feedB_dead tell _ s hd]
      simp

/-- What a round of Feed's loop comes to: up to the first end of a line. -/
inductive Round (tell : Teller U) (s : LS U) (r : List UInt8) : Prop
  | fails (hc : cutL s.b (r.take (through r)) = ([], none)) (hf : feedB tell r s = (⟨false, true, [], s.u⟩, [], 20))
  | more (d : List UInt8) (hc : cutL s.b (r.take (through r)) = ([], some d)) (hd : d.length ≤ 64) (hf : feedB tell r s = feedB tell (r.drop (through r)) ⟨true, s.fail, d, s.u⟩)
  | tells (l : List UInt8) (hc : cutL s.b (r.take (through r)) = ([l], some [])) (hl : l.length ≤ 64)
      (hf : feedB tell r s = ((feedB tell (r.drop (through r)) ⟨!(tell s.u l).2.2, s.fail, [], (tell s.u l).1⟩).1, (tell s.u l).2.1 ++ (feedB tell (r.drop (through r)) ⟨!(tell s.u l).2.2, s.fail, [], (tell s.u l).1⟩).2.1, (feedB tell (r.drop (through r)) ⟨!(tell s.u l).2.2, s.fail, [], (tell s.u l).1⟩).2.2))
theorem round_of (tell : Teller U) : ∀ (r : List UInt8) (s : LS U), s.live = true → s.b.length ≤ 64 → Round tell s r
  | [], s, h, hb => .more s.b (by simp [through, cutL]) hb (by
      cases s
      simp at h
      subst h
      rfl)
  | c :: r, s, h, hb => by
    by_cases hc : c = 10
    · subst hc
      refine .tells s.b ?_ hb ?_
      · simp [through, cutL]
      · rw [feedB_end tell r s h]
        simp [through]
    · have ht : (c :: r).take (through (c :: r)) = c :: r.take (through r) := by rw [through, if_neg hc, List.take_succ_cons]
      have hd : (c :: r).drop (through (c :: r)) = r.drop (through r) := by rw [through, if_neg hc, List.drop_succ_cons]
      by_cases h64 : s.b.length = 64
      · refine .fails ?_ (feedB_long tell c r s h hc h64)
        rw [ht, cutL_long _ _ _ hc h64]
      · have hp := feedB_put tell c r s h hc h64
        have hcut := cutL_put s.b (r.take (through r)) c hc h64
        rcases round_of tell r ⟨true, s.fail, s.b ++ [c], s.u⟩ rfl (by simp; omega) with ⟨h1, h2⟩ | ⟨d, h1, h2, h3⟩ | ⟨l, h1, h2, h3⟩
        · exact .fails (by rw [ht, hcut]; exact h1) (by rw [hp, h2])
        · exact .more d (by rw [ht, hcut]; exact h1) h2 (by rw [hp, h3, hd])
        · exact .tells l (by rw [ht, hcut]; exact h1) h2 (by rw [hp, h3, hd])

theorem feedB_le (tell : Teller U) : ∀ (x : List UInt8) (s : LS U), s.b.length ≤ 64 → (feedB tell x s).1.b.length ≤ 64
  | [], s, h => h
  | c :: r, s, h => by
    by_cases hl : s.live = true
    · by_cases hc : c = 10
      · subst hc
        rw [feedB_end tell r s hl]
        exact feedB_le tell r _ (by simp)
      · by_cases h64 : s.b.length = 64
        · rw [feedB_long tell c r s hl hc h64]; simp
        · rw [feedB_put tell c r s hl hc h64]
          exact feedB_le tell r _ (by simp; omega)
    · rw [feedB_dead tell _ s (by simpa using hl)]
      exact h
end

/-! Streams, and machines that are driven. -/
structure Strm where
  bytes : List UInt8
  ended : Bool
  code : Int
  stage : Int
  id : Int
structure Mach (S : Type) where
  need : S → Int
  held : S → Int
  feed : S → List UInt8 → S × Outs × Int
  fin : S → S × Outs × Int
  more : S → S × Outs × Int
def needOf {U : Type} (s : LS U) : Int := if s.live then 0 else -1
def linesM {U : Type} (tell : Teller U) : Mach (LS U) where
  need := needOf
  held s := s.b.length
  feed s x := feedB tell x s
  fin := endB tell
  more s := (s, [], 1)

/-- What a machine did. -/
structure GotL where
  outs : Nat → List UInt8
  need : Int
  err : Int
  held : Int
  taken : Nat → Nat
def putOuts (f : Nat → List UInt8) (o : Outs) : Nat → List UInt8 := o.foldl (fun f t i => if i = t.1 then f i ++ t.2 else f i) f
def cutAt (cuts : List Int) (n : Nat) : Nat := if cuts = [] then 32 else ((cuts.getD (n % cuts.length) 0).tmod 32).natAbs + 1
structure DS (S : Type) where
  got : GotL
  told : Nat → Bool
  s : S
section
variable {S : Type} (M : Mach S) (ins : List Strm) (cuts : List Int)
def after (x : DS S) (r : S × Outs × Int) : DS S :=
  { x with s := r.1, got := { x.got with outs := putOuts x.got.outs r.2.1, err := r.2.2, held := max x.got.held (M.held r.1), need := M.need r.1 } }
/-- More: what is taken; the chunk's end. -/
def toAt (x : DS S) (n : Nat) (k : Nat) (b : List UInt8) : Nat := min b.length (x.got.taken k + cutAt cuts n)
def chunkAt (x : DS S) (n : Nat) (k : Nat) (b : List UInt8) : List UInt8 := (b.take (toAt cuts x n k b)).drop (x.got.taken k)
def took (x : DS S) (k q : Nat) : DS S := { x with got := { x.got with taken := fun i => if i = k then q else x.got.taken i } }
def tells (x : DS S) (k : Nat) : DS S := { x with told := fun i => if i = k then true else x.told i }
def step (n : Nat) (x : DS S) : Option (DS S) :=
  if x.got.need = -2 then some (after M x (M.more x.s))
  else match ins[x.got.need.toNat]? with
    | none => none
    | some i =>
      if x.got.taken x.got.need.toNat < i.bytes.length then some (after M (took x x.got.need.toNat (toAt cuts x n x.got.need.toNat i.bytes)) (M.feed x.s (chunkAt cuts x n x.got.need.toNat i.bytes)))
      else if i.ended = true ∧ x.told x.got.need.toNat = false then some (after M (tells x x.got.need.toNat) (M.fin x.s))
      else none
def drive : Nat → Nat → DS S → DS S
  | 0, _, x => x
  | f + 1, n, x => if x.got.err = 0 ∧ x.got.need ≠ -1 then match step M ins cuts n x with
      | none => x
      | some y => drive f (n + 1) y
    else x
def start (s : S) : DS S := { got := { outs := fun _ => [], need := M.need s, err := 0, held := 0, taken := fun _ => 0 }, told := fun _ => false, s := s }
end

end Go.Proofs.YtlflhjgfegflfaaDoor

namespace Go.Proofs.YtlflhjgfegflfaaDoor
open Go.RowKit

/-- A function that has a body. -/
def Enters (F : FuncId) : Prop := ∀ (args : Array Value) (w : World), (callFunc F args).run Tryd.prog w = .ok (.enter F args) w
end Go.Proofs.YtlflhjgfegflfaaDoor
