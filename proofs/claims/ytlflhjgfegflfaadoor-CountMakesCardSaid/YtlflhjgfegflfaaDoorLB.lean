/- The plain model of a splitter: whether it has failed, and the bytes of the line that is begun. No conditions. -/
import Derived.Test.YtlflhjgfegflfaaDoorRows
import Derived.WalkKit
import Derived.WalkSpells
import Derived.WalkLawsBesides
import Derived.Deep.MidRow
import Derived.Deep.WholeRow
import Derived.Lib.Hide
import Derived.Laws.CopyOwn
import Derived.Lib.AppendStr
import Derived.Maps.AppendAt
import Derived.Laws.AppendOwnNone
import Derived.Deep.QuietTactic
import Derived.BigQuiet
import Derived.Lib.SlBytesConst
import Derived.Laws.EntriesVeiled
import Derived.Deep.Cut
import Derived.Deep.DeepCutAuto
import Derived.StillTailTactics
import Derived.Lib.ConvBytes
import Derived.Outline
namespace Go.Proofs.YtlflhjgfegflfaaDoor
open Go.RowKit

abbrev Lines := List (List UInt8)

/-- The bytes as cells. -/
def bytesL (b : List UInt8) : List Value := b.map fun c => .int .u8 c.toNat
/-- A splitter. -/
def splL (f : Bool) (b : List UInt8) : List Value := .bool f :: .int .i64 b.length :: (bytesL b ++ List.replicate (64 - b.length) (.int .u8 0))
def splA (f : Bool) (b : List UInt8) : Array Value := (splL f b).toArray
/-- A line as a text. -/
def strV (b : List UInt8) : Value := .string ⟨b.toArray⟩

theorem length_bytesL (b : List UInt8) : (bytesL b).length = b.length := by simp [bytesL]
theorem length_splL {f : Bool} {b : List UInt8} (h : b.length ≤ 64) : (splL f b).length = 66 := by simp [splL, length_bytesL]; omega
theorem size_splA {f : Bool} {b : List UInt8} (h : b.length ≤ 64) : (splA f b).size = 66 := by simp [splA, length_splL h]
theorem one_bytesL (b : List UInt8) : ∀ v ∈ bytesL b, v.oneCell' = true := by
  intro v hv
  obtain ⟨c, _, rfl⟩ := List.mem_map.1 hv
  rfl
theorem one_splL (f : Bool) (b : List UInt8) : ∀ v ∈ splL f b, v.oneCell' = true := by
  intro v hv
  rcases List.mem_cons.1 hv with rfl | hv
  · rfl
  · rcases List.mem_cons.1 hv with rfl | hv
    · rfl
    · rcases List.mem_append.1 hv with hv | hv
      · exact one_bytesL b v hv
      · rw [(List.mem_replicate.1 hv).2]; rfl
theorem one_splA (f : Bool) (b : List UInt8) : (splA f b).all (·.oneCell') = true := all_oneCell_toArray (one_splL f b)
theorem splA_0 (f : Bool) (b : List UInt8) : (splA f b)[0]? = some (.bool f) := by simp [splA, splL]
theorem splA_1 (f : Bool) (b : List UInt8) : (splA f b)[1]? = some (.int .i64 b.length) := by simp [splA, splL]
theorem splA_at (f : Bool) (b : List UInt8) (j : Nat) (x : UInt8) (h : b[j]? = some x) : (splA f b)[2 + j]? = some (.int .u8 x.toNat) := by
  have hj : j < b.length := (List.getElem?_eq_some_iff.1 h).1
  rw [Nat.add_comm]
  simp only [splA, splL, List.getElem?_toArray, List.getElem?_cons_succ]
  rw [List.getElem?_append_left (by rw [length_bytesL]; exact hj), bytesL, List.getElem?_map, h]
  rfl
theorem splA_next (f : Bool) (b : List UInt8) (h : b.length < 64) : (splA f b)[2 + b.length]? = some (.int .u8 0) := by
  rw [Nat.add_comm]
  simp only [splA, splL, List.getElem?_toArray, List.getElem?_cons_succ]
  rw [List.getElem?_append_right (by rw [length_bytesL]; omega), length_bytesL, Nat.sub_self, List.getElem?_replicate, if_pos (by omega)]
theorem splA_put (f : Bool) (b : List UInt8) (c : UInt8) (h : b.length < 64) :
    ((splA f b).setIfInBounds (2 + b.length) (.int .u8 c.toNat)).setIfInBounds 1 (.int .i64 ((b.length : Int) + 1)) = splA f (b ++ [c]) := by
  have e : List.replicate (64 - b.length) (Value.int .u8 0) = .int .u8 0 :: List.replicate (63 - b.length) (.int .u8 0) := by
    rw [show 64 - b.length = (63 - b.length) + 1 by omega, List.replicate_succ]
  have e2 : 64 - (b.length + 1) = 63 - b.length := by omega
  rw [Nat.add_comm 2]
  simp only [splA, splL, e, List.setIfInBounds_toArray, List.set_cons_succ, List.set_cons_zero]
  rw [List.set_append_right _ _ (by rw [length_bytesL]; omega), length_bytesL, Nat.sub_self]
  simp [bytesL, e2]

/-! The type's own facts. -/
theorem Tryd.size5 : (Tryd.prog.info? 5).map (·.size) = some 1 := by kernel_rfl
theorem Tryd.info5 : (Tryd.prog.info? 5).map (fun i => (i.zero, i.size, i.bytes)) = some (some (.int .u8 0), 1, 1) := by kernel_rfl
theorem Tryd.info9 : (Tryd.prog.info? 9).map (fun i => (i.zero, i.size, i.bytes)) = some (some (.string ByteArray.empty), 1, 16) := by kernel_rfl

/-! A block with a splitter in it: what lies ahead, the splitter, what lies behind. -/
def rowA (pre : List Value) (f : Bool) (b : List UInt8) (post : List Value) : Array Value := (pre ++ splL f b ++ post).toArray
theorem rowA_mid (pre : List Value) (f : Bool) (b : List UInt8) (post : List Value) (hb : b.length ≤ 64) {j : Nat} (hj : j < 66) : (rowA pre f b post)[pre.length + j]? = (splL f b)[j]? := by
  simp only [rowA, List.getElem?_toArray, List.append_assoc]
  rw [List.getElem?_append_right (by omega), List.getElem?_append_left (by rw [length_splL hb]; omega)]
  simp
theorem rowA_0 (pre : List Value) (f : Bool) (b : List UInt8) (post : List Value) (hb : b.length ≤ 64) : (rowA pre f b post)[pre.length]? = some (.bool f) := by
  have := rowA_mid pre f b post hb (j := 0) (by omega)
  simpa [splL] using this
theorem rowA_1 (pre : List Value) (f : Bool) (b : List UInt8) (post : List Value) (hb : b.length ≤ 64) : (rowA pre f b post)[pre.length + 1]? = some (.int .i64 b.length) := by
  have := rowA_mid pre f b post hb (j := 1) (by omega)
  simpa [splL] using this
theorem rowA_at (pre : List Value) (f : Bool) (b : List UInt8) (post : List Value) (hb : b.length ≤ 64) (j : Nat) (x : UInt8) (h : b[j]? = some x) : (rowA pre f b post)[pre.length + 2 + j]? = some (.int .u8 x.toNat) := by
  have hj : j < b.length := (List.getElem?_eq_some_iff.1 h).1
  rw [Nat.add_assoc, rowA_mid pre f b post hb (by omega)]
  have := splA_at f b j x h
  simpa [splA] using this
theorem rowA_next (pre : List Value) (f : Bool) (b : List UInt8) (post : List Value) (h : b.length < 64) : (rowA pre f b post)[pre.length + 2 + b.length]? = some (.int .u8 0) := by
  rw [Nat.add_assoc, rowA_mid pre f b post (by omega) (by omega)]
  have := splA_next f b h
  simpa [splA] using this
theorem rowA_set (pre : List Value) (f : Bool) (b : List UInt8) (post : List Value) (hb : b.length ≤ 64) (j : Nat) (hj : j < 66) (v : Value) : (rowA pre f b post).setIfInBounds (pre.length + j) v = (pre ++ (splL f b).set j v ++ post).toArray := by
  simp only [rowA, List.setIfInBounds_toArray, List.append_assoc]
  rw [List.set_append_right _ _ (by omega), List.set_append_left _ _ (by rw [length_splL hb]; omega)]
  simp
theorem rowA_put (pre : List Value) (f : Bool) (b : List UInt8) (post : List Value) (c : UInt8) (h : b.length < 64) :
    ((rowA pre f b post).setIfInBounds (pre.length + 2 + b.length) (.int .u8 c.toNat)).setIfInBounds (pre.length + 1) (.int .i64 ((b.length : Int) + 1)) = rowA pre f (b ++ [c]) post := by
  rw [Nat.add_assoc, rowA_set pre f b post (by omega) _ (by omega)]
  have hp := splA_put f b c h
  simp only [splA, List.setIfInBounds_toArray] at hp
  have hp' := congrArg Array.toList hp
  simp only [List.setIfInBounds_toArray] 
  rw [List.append_assoc, List.set_append_right _ _ (by omega), List.set_append_left _ _ (by rw [List.length_set, length_splL (by omega)]; omega)]
  simp only [rowA]
  rw [show pre.length + 1 - pre.length = 1 by omega]
  simp only at hp'
  rw [hp', List.append_assoc]

/-! What a call may turn. -/
/-- Of what was there nothing has turned but blocks of p. -/
structure Frame (p : Nat → Prop) (w w' : World) : Prop where
  os : w'.os = w.os
  tape : w'.tape = w.tape
  output : w'.output = w.output
  size : w.heap.size ≤ w'.heap.size
  block : ∀ k, k < w.heap.size → ¬ p k → w'.heap[k]? = w.heap[k]?
theorem Frame.refl (p : Nat → Prop) (w : World) : Frame p w w := ⟨rfl, rfl, rfl, Nat.le_refl _, fun _ _ _ => rfl⟩
theorem Frame.trans {p : Nat → Prop} {a b c : World} (h : Frame p a b) (k : Frame p b c) : Frame p a c :=
  ⟨k.os.trans h.os, k.tape.trans h.tape, k.output.trans h.output, Nat.le_trans h.size k.size, fun i hi hp => (k.block i (Nat.lt_of_lt_of_le hi h.size) hp).trans (h.block i hi hp)⟩
theorem Frame.mono {p q : Nat → Prop} {a b : World} (h : Frame p a b) (hpq : ∀ k, k < a.heap.size → p k → q k) : Frame q a b :=
  ⟨h.os, h.tape, h.output, h.size, fun k hk hq => h.block k hk (fun hp => hq (hpq k hk hp))⟩
theorem Frame.below {p : Nat → Prop} {a b : World} (h : Frame p a b) {n : Nat} (hn : n ≤ a.heap.size) (hp : ∀ k, p k → n ≤ k) : Below n a b :=
  ⟨h.os, h.tape, h.output, h.size, fun k hk => h.block k (by omega) (fun hq => by have := hp k hq; omega)⟩
theorem Below.toFrame {a b : World} (h : Below a.heap.size a b) (p : Nat → Prop) : Frame p a b := ⟨h.os, h.tape, h.output, h.size, fun k hk _ => h.block k hk⟩
theorem Frame.row (w : World) (g : Nat) (cs : Array Value) : Frame (· = g) w (w.setRow g cs) := ⟨rfl, rfl, rfl, by simp, fun k _ hp => setRow_other w g k cs hp⟩
theorem Frame.cell (w : World) (a : Addr) (v : Value) : Frame (· = a.block) w (w.setCell a v) := ⟨rfl, rfl, rfl, by simp [World.setCell], fun k _ hp => Below.heap_setCell w a v k hp⟩
theorem Frame.alloc {p : Nat → Prop} {a b : World} (h : Frame p a b) (o : Obj) : Frame p a (b.alloc o) := h.trans (Below.toFrame ((Below.refl _ _).alloc (Nat.le_refl _) _) p)
theorem Frame.drew {p : Nat → Prop} {a b : World} (h : Frame p a b) : Frame p a b.drew := ⟨h.os, h.tape, h.output, h.size, h.block⟩
theorem Frame.drewN {p : Nat → Prop} {a b : World} (h : Frame p a b) (n : Nat) : Frame p a (b.drewN n) := ⟨h.os, h.tape, h.output, h.size, h.block⟩
theorem Frame.grown {p : Nat → Prop} {a b c : World} {row : Option Nat} (h : Frame p a b) (hg : b.grownBy c row) (hp : ∀ k, k < a.heap.size → row = some k → p k) : Frame p a c :=
  ⟨hg.os.trans h.os, hg.tape.trans h.tape, hg.output.trans h.output, Nat.le_trans h.size hg.size, fun k hk hq => (hg.block k (Nat.lt_of_lt_of_le hk h.size) (fun e => hq (hp k hk e.symm))).trans (h.block k hk hq)⟩
theorem Frame.cell? {p : Nat → Prop} {a b : World} (h : Frame p a b) {x : Addr} {v : Value} (hx : a.cell? x = some v) (hp : ¬ p x.block) : b.cell? x = some v := by
  rw [World.cell?_of_block (w := a) (h.block x.block (block_lt_of_cell hx) hp), hx]
theorem Frame.heap {p : Nat → Prop} {a b : World} (h : Frame p a b) {g : Nat} {o : Obj} (hg : a.heap[g]? = some o) (hp : ¬ p g) : b.heap[g]? = some o :=
  (h.block g (Array.getElem?_eq_some_iff.1 hg).1 hp).trans hg
theorem Frame.owns {p : Nat → Prop} {a b : World} (h : Frame p a b) {base : Nat} {e : TypeId} {size : Nat} {v : Value} {n : Nat} {xs : List Value} (ho : a.ownsRow base e size v n xs) (hp : ∀ g, v.ownBlock = some g → ¬ p g) : b.ownsRow base e size v n xs := by
  obtain ⟨h1, h2⟩ := ho
  refine ⟨h1, ?_⟩
  rcases h2 with h2 | ⟨k, cap, cur, rfl, h4, h5, h6⟩
  · exact .inl h2
  · exact .inr ⟨k, cap, cur, rfl, h4, h.heap h5 (hp k rfl), h6⟩
theorem heap_setCells : ∀ (vs : List Value) (o : Nat) (w : World) (g : Nat) (pre old post : List Value) (t : TypeId) (fr : Nat × Nat), w.heap[g]? = some (.cells (pre ++ old ++ post).toArray t fr) → pre.length = o → old.length = vs.length →
    (w.setCells g o vs).heap[g]? = some (.cells (pre ++ vs ++ post).toArray t fr)
  | [], o, w, g, pre, old, post, t, fr, hg, ho, hl => by
    have : old = [] := List.eq_nil_of_length_eq_zero (by simpa using hl)
    subst this
    simpa [World.setCells] using hg
  | v :: vs, o, w, g, pre, x :: old, post, t, fr, hg, ho, hl => by
    simp only [World.setCells]
    have h1 : (w.setCell ⟨g, o, none⟩ v).heap[g]? = some (.cells ((pre ++ [v]) ++ old ++ post).toArray t fr) := by
      simp only [World.setCell, Array.getElem?_modify, if_true, hg, Option.map_some]
      subst ho
      simp [List.set_append_right]
    have := heap_setCells vs (o + 1) _ g (pre ++ [v]) old post t fr h1 (by simp; omega) (by simpa using hl)
    rw [this]
    simp
  | v :: vs, o, w, g, pre, [], post, t, fr, hg, ho, hl => by simp at hl
theorem other_setCells : ∀ (vs : List Value) (o : Nat) (w : World) (g k : Nat), k ≠ g → (w.setCells g o vs).heap[k]? = w.heap[k]?
  | [], _, _, _, _, _ => rfl
  | v :: vs, o, w, g, k, h => by
    simp only [World.setCells]
    rw [other_setCells vs (o + 1) _ g k h, Below.heap_setCell _ _ _ _ h]
theorem Frame.cells {w : World} (g o : Nat) (vs : List Value) : Frame (· = g) w (w.setCells g o vs) := by
  have : ∀ (vs : List Value) (o : Nat) (w : World), (w.setCells g o vs).os = w.os ∧ (w.setCells g o vs).tape = w.tape ∧ (w.setCells g o vs).output = w.output ∧ (w.setCells g o vs).heap.size = w.heap.size := by
    intro vs
    induction vs with
    | nil => intro o w; exact ⟨rfl, rfl, rfl, rfl⟩
    | cons v vs ih => intro o w; simp only [World.setCells]; obtain ⟨a, b, c, d⟩ := ih (o + 1) (w.setCell ⟨g, o, none⟩ v); exact ⟨a, b, c, by rw [d]; simp [World.setCell]⟩
  obtain ⟨a, b, c, d⟩ := this vs o w
  exact ⟨a, b, c, by omega, fun k _ hp => other_setCells vs o w g k hp⟩
theorem there_of_row {w : World} {g : Nat} {cs : Array Value} {t : TypeId} (hg : w.heap[g]? = some (.cells cs t (0, 0))) (o n : Nat) (h : o + n ≤ cs.size) : w.there g o n := fun j hj => by
  refine ⟨?_, by simp [World.frozen?, hg]⟩
  rw [cell_of_row _ _ _ _ _ _ hg]
  simp
  omega
theorem setCell_row {w : World} {g : Nat} {cs : Array Value} {t : TypeId} {fr : Nat × Nat} (hg : w.heap[g]? = some (.cells cs t fr)) (o : Nat) (v : Value) : (w.setCell ⟨g, o, none⟩ v).heap[g]? = some (.cells (cs.setIfInBounds o v) t fr) := by
  simp only [World.setCell, Array.getElem?_modify, if_true, hg, Option.map_some]
  rfl

/-! Bytes in memory. -/
/-- The value is a slice that reads as these bytes, in blocks of p. -/
def IsBytes (p : Nat → Prop) (w : World) (v : Value) (bs : List UInt8) : Prop :=
  ∃ a cap, v = .slice a bs.length cap ∧ bs.length ≤ cap ∧ ∀ j c, bs[j]? = some c → ∃ gb off, a = some ⟨gb, off, none⟩ ∧ p gb ∧ w.cell? ⟨gb, off + j, none⟩ = some (.int .u8 c.toNat)
theorem add_block (a : Addr) (j : Nat) : (a.add j).block = a.block := by unfold Addr.add; split <;> rfl
theorem IsBytes.frame {p q : Nat → Prop} {w w' : World} {v : Value} {bs : List UInt8} (h : IsBytes p w v bs) (hf : Frame q w w') (hpq : ∀ k, p k → ¬ q k) : IsBytes p w' v bs := by
  obtain ⟨a, cap, rfl, hle, hc⟩ := h
  refine ⟨a, cap, rfl, hle, fun j c hj => ?_⟩
  obtain ⟨gb, off, rfl, hp, hx⟩ := hc j c hj
  exact ⟨gb, off, rfl, hp, hf.cell? hx (hpq _ hp)⟩
theorem IsBytes.below {p : Nat → Prop} {w w' : World} {v : Value} {bs : List UInt8} (h : IsBytes p w v bs) (hb : Below w.heap.size w w') : IsBytes p w' v bs := h.frame (Below.toFrame hb fun _ => False) (fun _ _ h => h)
theorem IsBytes.mono {p q : Nat → Prop} {w : World} {v : Value} {bs : List UInt8} (h : IsBytes p w v bs) (hpq : ∀ k, k < w.heap.size → p k → q k) : IsBytes q w v bs := by
  obtain ⟨a, cap, rfl, hle, hc⟩ := h
  refine ⟨a, cap, rfl, hle, fun j c hj => ?_⟩
  obtain ⟨gb, off, rfl, hp, hx⟩ := hc j c hj
  exact ⟨gb, off, rfl, hpq _ (block_lt_of_cell hx) hp, hx⟩
theorem bytesL_get {bs : List UInt8} {j : Nat} {v : Value} (h : (bytesL bs)[j]? = some v) : ∃ c, bs[j]? = some c ∧ v = .int .u8 c.toNat := by
  rw [bytesL, List.getElem?_map] at h
  cases hc : bs[j]? with
  | none => rw [hc] at h; cases h
  | some c => rw [hc] at h; exact ⟨c, rfl, (Option.some.inj h).symm⟩
theorem heap_at {w : World} {o : Obj} {g : Nat} (hw : w.heap.size = g) : (w.alloc o).heap[g]? = some o := by subst hw; exact heap_alloc_last w o

/-! What a splitter does, plainly. -/
/-- The lines that are ended, and the line that is begun behind them; none: it has failed. -/
def cutL : List UInt8 → List UInt8 → Lines × Option (List UInt8)
  | b, [] => ([], some b)
  | b, c :: r => if c = 10 then (b :: (cutL [] r).1, (cutL [] r).2) else if b.length = 64 then ([], none) else cutL (b ++ [c]) r
theorem cutL_end (b r : List UInt8) : cutL b (10 :: r) = (b :: (cutL [] r).1, (cutL [] r).2) := by rw [cutL, if_pos rfl]
theorem cutL_long (b r : List UInt8) (c : UInt8) (hc : c ≠ 10) (h : b.length = 64) : cutL b (c :: r) = ([], none) := by rw [cutL, if_neg hc, if_pos h]
theorem cutL_put (b r : List UInt8) (c : UInt8) (hc : c ≠ 10) (h : b.length ≠ 64) : cutL b (c :: r) = cutL (b ++ [c]) r := by rw [cutL, if_neg hc, if_neg h]
theorem cutL_le : ∀ (r b : List UInt8), b.length ≤ 64 → ∀ d, (cutL b r).2 = some d → d.length ≤ 64
  | [], b, h, d, hd => by simp [cutL] at hd; subst hd; exact h
  | c :: r, b, h, d, hd => by
    by_cases hc : c = 10
    · subst hc
      rw [cutL_end] at hd
      exact cutL_le r [] (by simp) d hd
    · by_cases hl : b.length = 64
      · rw [cutL_long b r c hc hl] at hd; cases hd
      · rw [cutL_put b r c hc hl] at hd
        exact cutL_le r (b ++ [c]) (by simp; omega) d hd
theorem cutL_append : ∀ (x y b : List UInt8), cutL b (x ++ y) = match cutL b x with
    | (L, none) => (L, none)
    | (L, some d) => (L ++ (cutL d y).1, (cutL d y).2)
  | [], y, b => by simp [cutL]
  | c :: x, y, b => by
    rw [List.cons_append]
    by_cases hc : c = 10
    · subst hc
      rw [cutL_end, cutL_end, cutL_append x y []]
      rcases cutL [] x with ⟨L, _ | d⟩ <;> simp
    · by_cases hl : b.length = 64
      · rw [cutL_long b _ c hc hl, cutL_long b _ c hc hl]
      · rw [cutL_put b _ c hc hl, cutL_put b _ c hc hl, cutL_append x y (b ++ [c])]

/-- The value is a list of these texts, in blocks of p. -/
def IsTexts (p : Nat → Prop) (w : World) (v : Value) (L : Lines) : Prop :=
  ∃ a cap, v = .slice a L.length cap ∧ ∀ j b, L[j]? = some b → ∃ gb off, a = some ⟨gb, off, none⟩ ∧ p gb ∧ w.cell? ⟨gb, off + j, none⟩ = some (strV b)
theorem IsTexts.frame {p q : Nat → Prop} {w w' : World} {v : Value} {L : Lines} (h : IsTexts p w v L) (hf : Frame q w w') (hpq : ∀ k, p k → ¬ q k) : IsTexts p w' v L := by
  obtain ⟨a, cap, rfl, hc⟩ := h
  refine ⟨a, cap, rfl, fun j c hj => ?_⟩
  obtain ⟨gb, off, rfl, hp, hx⟩ := hc j c hj
  exact ⟨gb, off, rfl, hp, hf.cell? hx (hpq _ hp)⟩
theorem IsTexts.below {p : Nat → Prop} {w w' : World} {v : Value} {L : Lines} (h : IsTexts p w v L) (hb : Below w.heap.size w w') : IsTexts p w' v L := h.frame (Below.toFrame hb fun _ => False) (fun _ _ h => h)
theorem isTexts_of_owns {base : Nat} {w : World} {v : Value} {L : Lines} (h : w.ownsRow base 9 1 v L.length (L.map strV)) : IsTexts (base ≤ ·) w v L := by
  have h' := h
  rcases h.2 with ⟨rfl, h0⟩ | ⟨g, cap, cur, rfl, hb, _⟩
  · refine ⟨none, 0, by rw [h0], fun j b hj => ?_⟩
    rw [List.eq_nil_of_length_eq_zero h0] at hj
    simp at hj
  · refine ⟨_, cap, rfl, fun j b hj => ⟨g, 0, rfl, hb, ?_⟩⟩
    have := World.ownsRow.cells h' (g := g) rfl j (strV b) (by simp [hj])
    rwa [Addr.add_mid] at this
theorem isBytes_of_owns {base : Nat} {w : World} {v : Value} {b : List UInt8} (h : w.ownsRow base 5 1 v b.length (bytesL b)) : IsBytes (base ≤ ·) w v b := by
  have h' := h
  rcases h.2 with ⟨rfl, h0⟩ | ⟨g, cap, cur, rfl, hb, _, hle, _⟩
  · refine ⟨none, 0, by rw [h0], by omega, fun j c hj => ?_⟩
    rw [List.eq_nil_of_length_eq_zero h0] at hj
    simp at hj
  · refine ⟨_, cap, rfl, by omega, fun j c hj => ⟨g, 0, rfl, hb, ?_⟩⟩
    have := World.ownsRow.cells h' (g := g) rfl j (.int .u8 c.toNat) (by simp [bytesL, hj])
    rwa [Addr.add_mid] at this

/-- Each line, and byte 10 behind it. -/
def joinL (L : Lines) : List UInt8 := L.flatMap (· ++ [10])
theorem joinL_snoc (L : Lines) (b : List UInt8) : joinL (L ++ [b]) = joinL L ++ (b ++ [10]) := by simp [joinL]
theorem joinL_take {L : Lines} {k : Nat} {b : List UInt8} (h : L[k]? = some b) : joinL (L.take (k + 1)) = joinL (L.take k) ++ (b ++ [10]) := by
  obtain ⟨hk, rfl⟩ := List.getElem?_eq_some_iff.1 h
  rw [List.take_succ_eq_append_getElem hk, joinL_snoc]
theorem joinL_le (L : Lines) (k : Nat) : (joinL (L.take k)).length ≤ (joinL L).length := by
  have := congrArg (fun l => (joinL l).length) (List.take_append_drop k L)
  simp only [joinL, List.flatMap_append, List.length_append] at this ⊢
  omega
theorem strCells_eq {b : List UInt8} {S : ByteArray} (h : strV b = .string S) : Lib.strCells S = bytesL b ∧ S.size = b.length := by
  rw [strV] at h
  cases h
  exact ⟨by simp [Lib.strCells, bytesL], by simp [ByteArray.size]⟩
theorem bytesL_append (a b : List UInt8) : bytesL (a ++ b) = bytesL a ++ bytesL b := by simp [bytesL]

/-- The call answers bytes of its own; what lay before it lies as it lay. -/
def Fresh (w : World) (bs : List UInt8) (e : Ending) (w' : World) : Prop :=
  ∃ v, e = .returned v ∧ w'.ownsRow w.heap.size 5 1 v bs.length (bytesL bs) ∧ Below w.heap.size w w'

/-- What holds ahead of each round. -/
structure JoinInv (L : Lines) (w : World) (jv : Value) (k : Nat) (wr : World) : Prop where
  le : k ≤ L.length
  own : wr.ownsRow w.heap.size 5 1 jv (joinL (L.take k)).length (bytesL (joinL (L.take k)))
  bel : Below w.heap.size w wr
theorem JoinInv.start (L : Lines) (w : World) : JoinInv L w (.slice none 0 0) 0 w := ⟨Nat.zero_le _, by simpa [joinL, bytesL] using World.ownsRow_nil w w.heap.size 5 1, Below.refl _ _⟩
theorem owns_below_of {w W W' : World} {e : TypeId} {size : Nat} {v : Value} {n : Nat} {xs : List Value} (ho : W.ownsRow w.heap.size e size v n xs) (hb : Below w.heap.size w W) (hg : W.grownBy W' v.ownBlock) : Below w.heap.size w W' :=
  hb.grown hg hb.size (fun k e => (ho.lt k e).1)

/-- A struct that is built of nothing, under a name of one's own. -/
theorem wpList_build0 {P : Program} {ops : Array Oper} {rest : List Oper} {o : Oper} {a : Act} {w : World} {Q : Exit → Act → World → Prop} (hgd : o.guard = none) (t : TypeId) (ho : o.op = .build t #[])
    (cells : Array Value) (hf : P.built t [] = some cells) (h : wpList P ops Q rest (a.put o.dst (.agg cells)) w) : wpList P ops Q (o :: rest) a w := by
  have hf' : P.built t ((#[] : Array (Nat × Operand)).map fun (i, x) => (i, a.eval x)).toList = some cells := by simpa using hf
  exact wpList_build hgd t _ ho (by rw [hf']; rfl) (by rw [hf']; exact h)
/-- A struct that is built of one part, under a name of one's own. -/
theorem wpList_build1 {P : Program} {ops : Array Oper} {rest : List Oper} {o : Oper} {a : Act} {w : World} {Q : Exit → Act → World → Prop} (hgd : o.guard = none) (t : TypeId) (i : Nat) (x : Operand) (ho : o.op = .build t #[(i, x)])
    (v : Value) (hx : a.eval x = v) (cells : Array Value) (hf : P.built t [(i, v)] = some cells)
    (h : wpList P ops Q rest (a.put o.dst (.agg cells)) w) : wpList P ops Q (o :: rest) a w := by
  have hf' : P.built t ((#[(i, x)] : Array (Nat × Operand)).map fun (i, x) => (i, a.eval x)).toList = some cells := by simpa [hx] using hf
  exact wpList_build hgd t _ ho (by rw [hf']; rfl) (by rw [hf']; exact h)

theorem drop_at {bs : List UInt8} {k : Nat} {c : UInt8} (h : bs[k]? = some c) : bs.drop k = c :: bs.drop (k + 1) := by
  obtain ⟨hk, rfl⟩ := List.getElem?_eq_some_iff.1 h
  exact List.drop_eq_getElem_cons hk

theorem owns_slice {w : World} {base : Nat} {e : TypeId} {size : Nat} {v : Value} {n : Nat} {xs : List Value} (h : w.ownsRow base e size v n xs) : ∃ a c, v = .slice a n c := by
  rcases h.2 with ⟨rfl, rfl⟩ | ⟨g, cap, cur, rfl, _⟩
  · exact ⟨_, _, rfl⟩
  · exact ⟨_, _, rfl⟩

/-- A struct that is built of two parts, under a name of one's own. -/
theorem wpList_build2 {P : Program} {ops : Array Oper} {rest : List Oper} {o : Oper} {a : Act} {w : World} {Q : Exit → Act → World → Prop} (hgd : o.guard = none) (t : TypeId) (i j : Nat) (x y : Operand) (ho : o.op = .build t #[(i, x), (j, y)])
    (v u : Value) (hx : a.eval x = v) (hy : a.eval y = u) (cells : Array Value) (hf : P.built t [(i, v), (j, u)] = some cells)
    (h : wpList P ops Q rest (a.put o.dst (.agg cells)) w) : wpList P ops Q (o :: rest) a w := by
  have hf' : P.built t ((#[(i, x), (j, y)] : Array (Nat × Operand)).map fun (i, x) => (i, a.eval x)).toList = some cells := by simpa [hx, hy] using hf
  exact wpList_build hgd t _ ho (by rw [hf']; rfl) (by rw [hf']; exact h)
/-- How many bytes there are up to the first end of a line, and with it. -/
def through : List UInt8 → Nat
  | [] => 0
  | c :: r => if c = 10 then 1 else through r + 1
theorem through_le : ∀ x : List UInt8, through x ≤ x.length
  | [] => Nat.le_refl _
  | c :: r => by
    rw [through]
    split
    · simp
    · have := through_le r
      simp
      omega
theorem through_pos {x : List UInt8} (h : x ≠ []) : 0 < through x := by
  cases x with
  | nil => exact absurd rfl h
  | cons c r => rw [through]; split <;> omega
end Go.Proofs.YtlflhjgfegflfaaDoor

namespace Go.Proofs.YtlflhjgfegflfaaDoor
open Go.RowKit

theorem one_bytes {p : Nat → Prop} {w : World} {v : Value} {bs : List UInt8} (h : IsBytes p w v bs) : v.oneCell' = true := by
  obtain ⟨a, cap, rfl, -⟩ := h
  rfl
theorem run_append_owned_nil {P : Program} {w : World} (base : Nat) (t ty e : TypeId) (i : TypeInfo) (size c : Nat) (ht : P.underlying t = some (.slice e)) (hi : P.info? e = some i)
    (v : Value) (n : Nat) (xs : List Value) (hown : w.ownsRow base e size v n xs) : (Builtin.append_ #[t, t] ty #[v, .slice none 0 c]).run P w = .ok v w := by
  rcases hown.2 with ⟨rfl, rfl⟩ | ⟨g, cap, cur, rfl, _, _, hnc, _⟩
  · simp [Builtin.append_, run_underlying ht, sizeOf, typeInfo, hi, Builtin.lenOf, Builtin.firstCells]
  · simp [Builtin.append_, run_underlying ht, sizeOf, typeInfo, hi, Builtin.lenOf, Builtin.firstCells, hnc, storeCells]

/-- Bytes behind a row of bytes that is the call's own, nil or not. -/
theorem wpList_append_bytes {p : Nat → Prop} {ops : Array Oper} {rest : List Oper} {o : Oper} {a : Act} {w : World} {Q : Exit → Act → World → Prop} (hgd : o.guard = none) (s x : Operand) (ho : o.op = .call { callee := .builtin .append, args := #[s, x], argTypes := #[22, 22] })
    (base : Nat) (v vs : Value) (xs bs : List UInt8) (hs : a.eval s = v) (hown : w.ownsRow base 5 1 v xs.length (bytesL xs)) (hx : a.eval x = vs) (hsrc : IsBytes p w vs bs)
    (hlen : xs.length + bs.length ≤ 10000000) (hbase : base ≤ w.heap.size)
    (h : ∀ v' w', w'.ownsRow base 5 1 v' (xs ++ bs).length (bytesL (xs ++ bs)) → w.grownBy w' v.ownBlock → wpList Tryd.prog ops Q rest (a.put o.dst v') w') : wpList Tryd.prog ops Q (o :: rest) a w := by
  obtain ⟨i0, hi, hz0, hz1, hz2⟩ := info_parts Tryd.info5
  obtain ⟨ad, cap, rfl, -, hc⟩ := hsrc
  cases ad with
  | none =>
    have hb : bs = [] := by
      cases bs with
      | nil => rfl
      | cons x r =>
        obtain ⟨_, _, e, _⟩ := hc 0 x rfl
        cases e
    subst hb
    refine wpList_plain hgd fun K hK => ?_
    have hrun := run_append_owned_nil (P := Tryd.prog) (w := w) base 22 o.type 5 i0 1 cap Tryd.underlying22 hi v xs.length _ hown
    unfold Oper.wp
    simp [execOp, ho, resolve, invoke, builtin, hs, hx, hrun, Result.andThen]
    exact hK _ _ (h v w (by simpa using hown) ⟨rfl, rfl, rfl, Nat.le_refl _, fun _ _ _ => rfl⟩)
  | some ad =>
    refine wpList_append_own w hgd s x 22 ho base 5 i0 (.int .u8 0) 1 1 Tryd.underlying22 hi hz0 hz1 hz2 rfl (by decide) v xs.length _ hs hown ad bs.length cap (bytesL bs) hx (by rw [length_bytesL]; omega)
      (fun j u hu => ?_) (one_bytesL bs) (by unfold maxLen; omega) (by omega) hbase ?_
    · obtain ⟨c, hj, rfl⟩ := bytesL_get hu
      obtain ⟨gb, off, e, _, h⟩ := hc j c hj
      cases e
      rw [Addr.add_mid]
      exact h
    · intro v' w' ho' hg' _
      exact h v' w' (by rw [bytesL_append, List.length_append]; exact ho') hg'

theorem Frame.then {p q : Nat → Prop} {a b c : World} (h : Frame p a b) (k : Frame q b c) (hq : ∀ i, i < a.heap.size → q i → p i) : Frame p a c :=
  ⟨k.os.trans h.os, k.tape.trans h.tape, k.output.trans h.output, Nat.le_trans h.size k.size, fun i hi hp => (k.block i (Nat.lt_of_lt_of_le hi h.size) (fun e => hp (hq i hi e))).trans (h.block i hi hp)⟩

/-- Bytes without the first n. -/
theorem bytes_drop {p : Nat → Prop} {w : World} {a : Option Addr} {cap n : Nat} {bs : List UInt8} (h : IsBytes p w (.slice a bs.length cap) bs) (hn : n ≤ bs.length) {A : Option Addr}
    (hA : A = if cap = n then a else a.map fun x => x.add n) : IsBytes p w (.slice A (bs.length - n) (cap - n)) (bs.drop n) := by
  obtain ⟨_, _, e, hle, hc⟩ := h
  cases e
  refine ⟨A, cap - n, by simp, by simp; omega, fun j c hj => ?_⟩
  rw [List.getElem?_drop] at hj
  obtain ⟨gb, off, rfl, hp, hx⟩ := hc _ _ hj
  have hlt : n + j < bs.length := (List.getElem?_eq_some_iff.1 hj).1
  rw [if_neg (by omega)] at hA
  refine ⟨gb, off + n, by rw [hA, Option.map_some, Addr.add_mid], hp, ?_⟩
  rw [Nat.add_assoc]
  exact hx
theorem bytes_take {p : Nat → Prop} {w : World} {a : Option Addr} {cap n : Nat} {bs : List UInt8} (h : IsBytes p w (.slice a bs.length cap) bs) (hn : n ≤ bs.length) : IsBytes p w (.slice a n cap) (bs.take n) := by
  obtain ⟨_, _, e, hle, hc⟩ := h
  cases e
  have hl : (bs.take n).length = n := by simp; omega
  refine ⟨a, cap, by rw [hl], by omega, fun j c hj => ?_⟩
  rw [List.getElem?_take] at hj
  split at hj
  · exact hc _ _ hj
  · cases hj

theorem bytes_part {p : Nat → Prop} {w : World} {a : Option Addr} {cap n q : Nat} {bs : List UInt8} (h : IsBytes p w (.slice a bs.length cap) bs) (hn : n ≤ q) (hq : q ≤ bs.length) {A : Option Addr}
    (hA : A = if cap = n then a else a.map fun x => x.add n) : IsBytes p w (.slice A (q - n) (cap - n)) ((bs.take q).drop n) := by
  have h1 := bytes_take h hq
  have hl : (bs.take q).length = q := by simp; omega
  generalize bs.take q = y at h1 hl ⊢
  subst hl
  exact bytes_drop h1 hn hA

/-- The value is a list of these numbers, in blocks of p. -/
def IsInts (p : Nat → Prop) (w : World) (v : Value) (L : List Int) : Prop :=
  ∃ a cap, v = .slice a L.length cap ∧ ∀ j c, L[j]? = some c → ∃ gb off, a = some ⟨gb, off, none⟩ ∧ p gb ∧ w.cell? ⟨gb, off + j, none⟩ = some (.int .i64 c)
theorem IsInts.frame {p q : Nat → Prop} {w w' : World} {v : Value} {L : List Int} (h : IsInts p w v L) (hf : Frame q w w') (hpq : ∀ k, p k → ¬ q k) : IsInts p w' v L := by
  obtain ⟨a, cap, rfl, hc⟩ := h
  refine ⟨a, cap, rfl, fun j c hj => ?_⟩
  obtain ⟨gb, off, rfl, hp, hx⟩ := hc j c hj
  exact ⟨gb, off, rfl, hp, hf.cell? hx (hpq _ hp)⟩
theorem IsInts.below {p : Nat → Prop} {w w' : World} {v : Value} {L : List Int} (h : IsInts p w v L) (hb : Below w.heap.size w w') : IsInts p w' v L := h.frame (Below.toFrame hb fun _ => False) (fun _ _ h => h)
theorem IsInts.mono {p q : Nat → Prop} {w : World} {v : Value} {L : List Int} (h : IsInts p w v L) (hpq : ∀ k, k < w.heap.size → p k → q k) : IsInts q w v L := by
  obtain ⟨a, cap, rfl, hc⟩ := h
  refine ⟨a, cap, rfl, fun j c hj => ?_⟩
  obtain ⟨gb, off, rfl, hp, hx⟩ := hc j c hj
  exact ⟨gb, off, rfl, hpq _ (block_lt_of_cell hx) hp, hx⟩

theorem ret_int {k : IntKind} {a b : Int} (h : a = b) : Ending.returned (.int k a) = .returned (.int k b) := by rw [h]
/-- A slice of bytes, made a text, an empty one too. -/
theorem conv_any {p : Nat → Prop} {W : World} {v : Value} {bs : List UInt8} (h : IsBytes p W v bs) : (convert 22 9 v).run Tryd.prog W = .ok (strV bs) W := by
  obtain ⟨a, cap, rfl, -, hc⟩ := h
  cases a with
  | none =>
    have hb : bs = [] := by
      cases bs with
      | nil => rfl
      | cons x r =>
        obtain ⟨_, _, e, _⟩ := hc 0 x rfl
        cases e
    subst hb
    exact run_convert_bytes_nil (P := Tryd.prog) (w := W) 22 5 Tryd.underlying22 Tryd.underlying5 0 cap 9 Tryd.underlying9
  | some ad =>
    exact run_convert_bytes_back (P := Tryd.prog) W 22 9 5 ad cap bs Tryd.underlying22 Tryd.underlying5 Tryd.underlying9 (fun j hj => by
      obtain ⟨gb, off, e, _, h⟩ := hc j bs[j] (by simp [hj])
      cases e
      rw [Addr.add_mid]
      exact h)

theorem take_snoc {α : Type} {L : List α} {k : Nat} {t : α} (h : L[k]? = some t) : L.take (k + 1) = L.take k ++ [t] := by
  obtain ⟨hk, rfl⟩ := List.getElem?_eq_some_iff.1 h
  exact List.take_succ_eq_append_getElem hk

theorem strV_size {b : List UInt8} {S : ByteArray} (h : strV b = .string S) : S.size = b.length := (strCells_eq h).2
theorem strV_add {a b : List UInt8} {S T : ByteArray} (h : strV a = .string S) (k : strV b = .string T) : strV (a ++ b) = .string (S ++ T) := by
  rw [strV] at h k
  cases h
  cases k
  rw [strV, ByteArray.mk_append_mk]
theorem add_fits {S T : ByteArray} (h : S.size ≤ 1000000000000) (k : T.size ≤ 1000000000000) : (9223372036854775807 < S.size + T.size) = False := by
  simp
  omega

/-- []byte(s): new memory that reads as s. -/
theorem conv_str (s : List UInt8) (w : World) : ∃ ca w', (convert 9 22 (strV s)).run Tryd.prog w = .ok (.slice (some ⟨w.heap.size, 0, none⟩) s.length ca) w' ∧
    w'.heap.size = w.heap.size + 1 ∧ IsBytes (w.heap.size ≤ ·) w' (.slice (some ⟨w.heap.size, 0, none⟩) s.length ca) s ∧ Below w.heap.size w w' := by
  have hsz : (⟨s.toArray⟩ : ByteArray).size = s.length := by simp [ByteArray.size]
  have h := Lib.run_convert_string_bytes (P := Tryd.prog) w 9 22 5 ⟨s.toArray⟩ Tryd.underlying9 Tryd.underlying22 Tryd.underlying5
  rw [hsz] at h
  refine ⟨_, _, h, Lib.bytesWorld_size _ _ _, ⟨_, _, rfl, ?_, fun j c hj => ⟨_, _, rfl, Nat.le_refl _, ?_⟩⟩, ⟨rfl, rfl, rfl, ?_, fun j hj => Lib.bytesWorld_at_old _ _ _ _ hj⟩⟩
  · exact grownCap_ge _ _ _ _
  · have hlt := (List.getElem?_eq_some_iff.1 hj).1
    rw [Nat.zero_add, Lib.bytesWorld_cell _ _ _ _ (by rw [hsz]; exact hlt)]
    simp [List.getD, hj]
  · rw [Lib.bytesWorld_size]; omega

end Go.Proofs.YtlflhjgfegflfaaDoor
