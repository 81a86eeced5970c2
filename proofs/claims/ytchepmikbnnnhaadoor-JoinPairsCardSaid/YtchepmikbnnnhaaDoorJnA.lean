/- Plainly: what join does with the lines that wait: groups are read, and pairs are told. -/
import Derived.Test.YtchepmikbnnnhaaDoorPsA
import Derived.Test.YtchepmikbnnnhaaDoorDenote
namespace Go.Proofs.YtchepmikbnnnhaaDoor

/-! Keys. -/
def lessL (x y : List UInt8) : Bool := Op.bytesLess x y
def gtrL (x y : List UInt8) : Bool := !(lessL x y || x == y)
def keyL (a : UInt8) (l : List UInt8) : List UInt8 := l.takeWhile (· != a)
def restL (a : UInt8) (l : List UInt8) : List UInt8 := (l.dropWhile (· != a)).drop 1
theorem lessL_self : ∀ x : List UInt8, lessL x x = false
  | [] => rfl
  | a :: x => by
    have := lessL_self x
    unfold lessL at this ⊢
    rw [Op.bytesLess, this]
    simp
theorem lessL_asymm : ∀ x y : List UInt8, lessL x y = true → lessL y x = false
  | [], [], h => by cases h
  | [], _ :: _, _ => rfl
  | _ :: _, [], h => by cases h
  | a :: x, b :: y, h => by
    have ih := lessL_asymm x y
    unfold lessL at h ih ⊢
    rw [Op.bytesLess] at h ⊢
    simp only [Bool.or_eq_true, decide_eq_true_eq, Bool.and_eq_true, beq_iff_eq, Bool.or_eq_false_iff, decide_eq_false_iff_not, Bool.and_eq_false_iff] at h ⊢
    rcases h with h | ⟨rfl, h⟩
    · exact ⟨fun h2 => absurd (UInt8.lt_trans h h2) (UInt8.lt_irrefl _), .inl (by simp; exact fun e => by rw [e] at h; exact absurd h (UInt8.lt_irrefl _))⟩
    · exact ⟨UInt8.lt_irrefl _, .inr (ih h)⟩
theorem lessL_total : ∀ x y : List UInt8, lessL x y = false → x ≠ y → lessL y x = true
  | [], [], _, h => absurd rfl h
  | [], _ :: _, h, _ => by cases h
  | _ :: _, [], _, _ => rfl
  | a :: x, b :: y, h, hne => by
    have ih := lessL_total x y
    unfold lessL at h ih ⊢
    rw [Op.bytesLess] at h ⊢
    simp only [Bool.or_eq_true, decide_eq_true_eq, Bool.and_eq_true, beq_iff_eq, Bool.or_eq_false_iff, decide_eq_false_iff_not, Bool.and_eq_false_iff] at h ⊢
    obtain ⟨h1, h2⟩ := h
    by_cases e : a = b
    · subst e
      refine .inr ⟨rfl, ih (h2.resolve_left (by simp)) (fun e => hne (by rw [e]))⟩
    · refine .inl ?_
      rcases UInt8.lt_or_lt_of_ne e with h3 | h3
      · exact absurd h3 h1
      · exact h3
theorem gtrL_iff (x y : List UInt8) : gtrL x y = lessL y x := by
  unfold gtrL
  by_cases e : x = y
  · subst e; rw [lessL_self]; simp
  · by_cases h : lessL x y = true
    · rw [h, lessL_asymm _ _ h]; rfl
    · have h' : lessL x y = false := by simpa using h
      rw [h', lessL_total _ _ h' e]
      simp [e]
theorem eq_of_not {x y : List UInt8} (h1 : lessL x y = false) (h2 : gtrL x y = false) : x = y := by
  rw [gtrL_iff] at h2
  by_cases e : x = y
  · exact e
  · rw [lessL_total _ _ h1 e] at h2; cases h2
theorem keyL_nil (a : UInt8) : keyL a [] = [] := rfl
theorem key_rest_len (a : UInt8) (l : List UInt8) : (keyL a l).length + (restL a l).length ≤ l.length := by
  have h := congrArg List.length (List.takeWhile_append_dropWhile (p := (· != a)) (l := l))
  rw [List.length_append] at h
  unfold keyL restL
  rw [List.length_drop]
  omega
/-- A group's key. -/
def keyG (a : UInt8) (G : Lines) : List UInt8 := keyL a (G.headD [])
theorem keyG_snoc (a : UInt8) (G : Lines) (l : List UInt8) (h : G ≠ []) : keyG a (G ++ [l]) = keyG a G := by
  cases G with
  | nil => exact absurd rfl h
  | cons x r => rfl

/-! Reading a group. 0: a line is wanted that has not come; 1: it is whole; 2: there is none; 3: a lesser key; 4: a line too many. -/
section
variable (N : Nat) (a : UInt8)
def readG (ov : Bool) : Lines → Lines → Lines × Lines × Int
  | [], G => ([], G, if ov = false then 0 else if G = [] then 2 else 1)
  | l :: r, G =>
    if G = [] then readG ov r [l]
    else if gtrL (keyL a l) (keyG a G) = true then (l :: r, G, 1)
    else if lessL (keyL a l) (keyG a G) = true then (l :: r, G, 3)
    else if G.length = N then (l :: r, G, 4)
    else readG ov r (G ++ [l])
variable {N a}
theorem readG_first (ov : Bool) (l : List UInt8) (r : Lines) : readG N a ov (l :: r) [] = readG N a ov r [l] := by rw [readG, if_pos rfl]
theorem readG_more (ov : Bool) (l : List UInt8) (r G : Lines) (h : G ≠ []) (h1 : gtrL (keyL a l) (keyG a G) = false) (h2 : lessL (keyL a l) (keyG a G) = false) (h3 : G.length ≠ N) : readG N a ov (l :: r) G = readG N a ov r (G ++ [l]) := by
  rw [readG, if_neg h, if_neg (by rw [h1]; decide), if_neg (by rw [h2]; decide), if_neg h3]
theorem readG_whole (ov : Bool) (l : List UInt8) (r G : Lines) (h : G ≠ []) (h1 : gtrL (keyL a l) (keyG a G) = true) : readG N a ov (l :: r) G = (l :: r, G, 1) := by rw [readG, if_neg h, if_pos h1]
theorem readG_falls (ov : Bool) (l : List UInt8) (r G : Lines) (h : G ≠ []) (h1 : gtrL (keyL a l) (keyG a G) = false) (h2 : lessL (keyL a l) (keyG a G) = true) : readG N a ov (l :: r) G = (l :: r, G, 3) := by
  rw [readG, if_neg h, if_neg (by rw [h1]; decide), if_pos h2]
theorem readG_great (ov : Bool) (l : List UInt8) (r G : Lines) (h : G ≠ []) (h1 : gtrL (keyL a l) (keyG a G) = false) (h2 : lessL (keyL a l) (keyG a G) = false) (h3 : G.length = N) : readG N a ov (l :: r) G = (l :: r, G, 4) := by
  rw [readG, if_neg h, if_neg (by rw [h1]; decide), if_neg (by rw [h2]; decide), if_pos h3]
/-- What a line that waits comes to. -/
inductive LineIs (N : Nat) (a : UInt8) (l : List UInt8) (G : Lines) : Prop
  | first (h : G = [])
  | whole (h : G ≠ []) (h1 : gtrL (keyL a l) (keyG a G) = true)
  | falls (h : G ≠ []) (h1 : gtrL (keyL a l) (keyG a G) = false) (h2 : lessL (keyL a l) (keyG a G) = true)
  | great (h : G ≠ []) (h1 : gtrL (keyL a l) (keyG a G) = false) (h2 : lessL (keyL a l) (keyG a G) = false) (h3 : G.length = N)
  | more (h : G ≠ []) (h1 : gtrL (keyL a l) (keyG a G) = false) (h2 : lessL (keyL a l) (keyG a G) = false) (h3 : G.length ≠ N)
theorem lineIs (N : Nat) (a : UInt8) (l : List UInt8) (G : Lines) : LineIs N a l G := by
  by_cases h : G = []
  · exact .first h
  · cases h1 : gtrL (keyL a l) (keyG a G) with
    | true => exact .whole h h1
    | false =>
      cases h2 : lessL (keyL a l) (keyG a G) with
      | true => exact .falls h h1 h2
      | false =>
        by_cases h3 : G.length = N
        · exact .great h h1 h2 h3
        · exact .more h h1 h2 h3
/-- What holds of a line that is taken, and of the end, holds of the reading. -/
theorem readG_ind {P : Lines → Lines → Lines × Lines × Int → Prop} (ov : Bool) (h0 : ∀ G, P [] G ([], G, if ov = false then 0 else if G = [] then 2 else 1)) (h1 : ∀ l r G, G ≠ [] → gtrL (keyL a l) (keyG a G) = true → P (l :: r) G (l :: r, G, 1)) (h3 : ∀ l r G, G ≠ [] → P (l :: r) G (l :: r, G, 3)) (h4 : ∀ l r G, G ≠ [] → P (l :: r) G (l :: r, G, 4))
    (hs : ∀ l r res, P r [l] res → P (l :: r) [] res) (hm : ∀ l r G res, G ≠ [] → keyL a l = keyG a G → G.length ≠ N → P r (G ++ [l]) res → P (l :: r) G res) : ∀ W G, P W G (readG N a ov W G)
  | [], G => h0 G
  | l :: r, G => by
    cases lineIs N a l G with
    | first h => subst h; rw [readG_first]; exact hs l r _ (readG_ind ov h0 h1 h3 h4 hs hm r [l])
    | whole h k1 => rw [readG_whole ov l r G h k1]; exact h1 l r G h k1
    | falls h k1 k2 => rw [readG_falls ov l r G h k1 k2]; exact h3 l r G h
    | great h k1 k2 k3 => rw [readG_great ov l r G h k1 k2 k3]; exact h4 l r G h
    | more h k1 k2 k3 => rw [readG_more ov l r G h k1 k2 k3]; exact hm l r G _ h (eq_of_not k2 k1) k3 (readG_ind ov h0 h1 h3 h4 hs hm r (G ++ [l]))
/-- Read again: the same. -/
theorem readG_again (ov : Bool) (W G : Lines) : readG N a ov (readG N a ov W G).1 (readG N a ov W G).2.1 = readG N a ov W G := by
  induction W generalizing G with
  | nil => rfl
  | cons l r ih =>
    cases lineIs N a l G with
    | first h => subst h; rw [readG_first]; exact ih [l]
    | whole h k1 => rw [readG_whole ov l r G h k1]; exact readG_whole ov l r G h k1
    | falls h k1 k2 => rw [readG_falls ov l r G h k1 k2]; exact readG_falls ov l r G h k1 k2
    | great h k1 k2 k3 => rw [readG_great ov l r G h k1 k2 k3]; exact readG_great ov l r G h k1 k2 k3
    | more h k1 k2 k3 => rw [readG_more ov l r G h k1 k2 k3]; exact ih _
/-- With more lines: the same, where it wanted none; else read on. -/
theorem readG_ext (ov o : Bool) (V : Lines) (hV : ov = true → V = []) (W G : Lines) :
    readG N a (ov || o) (W ++ V) G = if (readG N a ov W G).2.2 = 0 then readG N a (ov || o) ((readG N a ov W G).1 ++ V) (readG N a ov W G).2.1 else ((readG N a ov W G).1 ++ V, (readG N a ov W G).2.1, (readG N a ov W G).2.2) := by
  induction W generalizing G with
  | nil =>
    cases ov with
    | false => rfl
    | true => rw [hV rfl]; simp only [readG, Bool.true_or, List.append_nil]; split <;> simp_all
  | cons l r ih =>
    rw [List.cons_append]
    cases lineIs N a l G with
    | first h => subst h; rw [readG_first, readG_first]; exact ih [l]
    | whole h k1 => rw [readG_whole _ l _ G h k1, readG_whole ov l r G h k1, if_neg (by simp)]; rfl
    | falls h k1 k2 => rw [readG_falls _ l _ G h k1 k2, readG_falls ov l r G h k1 k2, if_neg (by simp)]; rfl
    | great h k1 k2 k3 => rw [readG_great _ l _ G h k1 k2 k3, readG_great ov l r G h k1 k2 k3, if_neg (by simp)]; rfl
    | more h k1 k2 k3 => rw [readG_more _ l _ G h k1 k2 k3, readG_more ov l r G h k1 k2 k3]; exact ih _
theorem readG_zero {ov : Bool} {W G : Lines} (h : (readG N a ov W G).2.2 = 0) : (readG N a ov W G).1 = [] ∧ ov = false := by
  induction W generalizing G with
  | nil =>
    refine ⟨rfl, ?_⟩
    cases ov with
    | false => rfl
    | true => by_cases hG : G = [] <;> simp [readG, hG] at h
  | cons l r ih =>
    cases lineIs N a l G with
    | first k => subst k; rw [readG_first] at h ⊢; exact ih h
    | whole k k1 => rw [readG_whole ov l r G k k1] at h; simp at h
    | falls k k1 k2 => rw [readG_falls ov l r G k k1 k2] at h; simp at h
    | great k k1 k2 k3 => rw [readG_great ov l r G k k1 k2 k3] at h; simp at h
    | more k k1 k2 k3 => rw [readG_more ov l r G k k1 k2 k3] at h ⊢; exact ih h
theorem readG_one {ov : Bool} {W G : Lines} (h : (readG N a ov W G).2.2 = 1) : (readG N a ov W G).2.1 ≠ [] := by
  induction W generalizing G with
  | nil =>
    simp only [readG] at h ⊢
    split at h
    · simp at h
    · split at h
      · simp at h
      · assumption
  | cons l r ih =>
    cases lineIs N a l G with
    | first k => subst k; rw [readG_first] at h ⊢; exact ih h
    | whole k k1 => rw [readG_whole ov l r G k k1]; exact k
    | falls k k1 k2 => rw [readG_falls ov l r G k k1 k2] at h; simp at h
    | great k k1 k2 k3 => rw [readG_great ov l r G k k1 k2 k3] at h; simp at h
    | more k k1 k2 k3 => rw [readG_more ov l r G k k1 k2 k3] at h ⊢; exact ih h
/-- Lines go from what waits to the group, in order. -/
theorem readG_keeps (ov : Bool) : ∀ W G : Lines, (readG N a ov W G).2.1 ++ (readG N a ov W G).1 = G ++ W :=
  readG_ind (P := fun W G r => r.2.1 ++ r.1 = G ++ W) ov (fun G => rfl) (fun _ _ _ _ _ => rfl) (fun _ _ _ _ => rfl) (fun _ _ _ _ => rfl) (fun l r res h => by rw [h]; rfl) (fun l r G res _ _ _ h => by rw [h, List.append_assoc]; rfl)
theorem readG_count (h1 : 1 ≤ N) (ov : Bool) : ∀ W G : Lines, G.length ≤ N → (readG N a ov W G).2.1.length ≤ N :=
  readG_ind (P := fun W G r => G.length ≤ N → r.2.1.length ≤ N) ov (fun _ h => h) (fun _ _ _ _ _ h => h) (fun _ _ _ _ h => h) (fun _ _ _ _ h => h) (fun l r res h _ => h (by simpa using h1)) (fun l r G res _ _ h3 h h2 => h (by rw [List.length_append, List.length_singleton]; omega))
/-- All lines of a group have its key. -/
def Keyed (a : UInt8) (G : Lines) : Prop := ∀ l ∈ G, keyL a l = keyG a G
theorem readG_keyed (ov : Bool) : ∀ W G : Lines, Keyed a G → Keyed a (readG N a ov W G).2.1 :=
  readG_ind (P := fun W G r => Keyed a G → Keyed a r.2.1) ov (fun _ h => h) (fun _ _ _ _ _ h => h) (fun _ _ _ _ h => h) (fun _ _ _ _ h => h) (fun l r res h _ => h (fun x hx => by rw [List.mem_singleton.1 hx]; rfl)) (fun l r G res hG hk _ h h2 => h (fun x hx => by
    rw [keyG_snoc a G l hG]
    rcases List.mem_append.1 hx with hx | hx
    · exact h2 x hx
    · rw [List.mem_singleton.1 hx]; exact hk))
end

/-! Both sides. -/
/-- What waits of each input, which of them have ended, the groups. -/
structure JT where
  W : Nat → Lines
  ov : Nat → Bool
  G : Nat → Lines
inductive Now where
  | waits (p : Nat)
  | ends (e : Int)
  | again
  | tells
def haltJ (p : Nat) (c : Int) : Now := if c = 0 then .waits p else .ends (if c = 3 then 22 else if c = 4 then 21 else 0)
def dropJ (t : JT) (p : Nat) : JT := ⟨t.W, t.ov, setAt t.G p []⟩
def drops (t : JT) : JT := dropJ (dropJ t 0) 1
section
variable (N : Nat) (a : UInt8)
def sideR (t : JT) (p : Nat) : Lines × Lines × Int := readG N a (t.ov p) (t.W p) (t.G p)
def readJ (t : JT) (p : Nat) : JT := ⟨setAt t.W p (sideR N a t p).1, t.ov, setAt t.G p (sideR N a t p).2.1⟩
def pairL (l m : List UInt8) : List UInt8 := Lib.join [keyL a l, restL a l, restL a m] [a]
def pairsJ (G H : Lines) : Lines := G.flatMap fun l => H.map fun m => pairL a l m
/-- Two whole groups. -/
def meetJ (t : JT) : JT × Now := if lessL (keyG a (t.G 0)) (keyG a (t.G 1)) = true then (dropJ t 0, .again) else if gtrL (keyG a (t.G 0)) (keyG a (t.G 1)) = true then (dropJ t 1, .again) else (t, .tells)
def roundJ (t : JT) : JT × Now :=
  if (sideR N a t 0).2.2 = 1 then
    if (sideR N a (readJ N a t 0) 1).2.2 = 1 then meetJ a (readJ N a (readJ N a t 0) 1)
    else (readJ N a (readJ N a t 0) 1, haltJ 1 (sideR N a (readJ N a t 0) 1).2.2)
  else (readJ N a t 0, haltJ 0 (sideR N a t 0).2.2)
def calmJ : Nat → JT → JT × Now
  | 0, t => (t, .again)
  | k + 1, t => match roundJ N a t with
    | (t', .again) => calmJ k t'
    | r => r
def runJ : Nat → JT → Lines × JT × Now
  | 0, t => ([], t, .again)
  | k + 1, t => match roundJ N a t with
    | (t', .again) => runJ k t'
    | (t', .tells) => (pairsJ a (t'.G 0) (t'.G 1) ++ (runJ k (drops t')).1, (runJ k (drops t')).2)
    | (t', n) => ([], t', n)
def leftJ (t : JT) : Nat := 2 * ((t.W 0).length + (t.W 1).length) + ((t.G 0).length + (t.G 1).length)
def restJ (t : JT) : JT × Now := calmJ N a (leftJ t + 1) t
def settleJ (t : JT) : Lines × JT × Now := runJ N a (leftJ t + 1) t
variable {N a}

theorem readJ_at (t : JT) (p : Nat) : (readJ N a t p).W p = (sideR N a t p).1 ∧ (readJ N a t p).G p = (sideR N a t p).2.1 := ⟨setAt_self _ _ _, setAt_self _ _ _⟩
theorem readJ_other (t : JT) {p q : Nat} (h : q ≠ p) : (readJ N a t p).W q = t.W q ∧ (readJ N a t p).G q = t.G q := ⟨setAt_other _ _ h, setAt_other _ _ h⟩
theorem sideR_other (t : JT) {p q : Nat} (h : q ≠ p) : sideR N a (readJ N a t p) q = sideR N a t q := by
  unfold sideR
  rw [(readJ_other t h).1, (readJ_other t h).2]
  rfl
theorem sideR_self (t : JT) (p : Nat) : sideR N a (readJ N a t p) p = sideR N a t p := by
  have := readG_again (N := N) (a := a) (t.ov p) (t.W p) (t.G p)
  unfold sideR at *
  rw [(readJ_at t p).1, (readJ_at t p).2]
  exact this
theorem sideR_len (t : JT) (p : Nat) : (sideR N a t p).2.1.length + (sideR N a t p).1.length = (t.G p).length + (t.W p).length := by
  have := congrArg List.length (readG_keeps (N := N) (a := a) (t.ov p) (t.W p) (t.G p))
  simpa [List.length_append, sideR] using this
theorem sideR_le (t : JT) (p : Nat) : (sideR N a t p).1.length ≤ (t.W p).length := by
  unfold sideR
  exact readG_ind (N := N) (a := a) (P := fun W G r => r.1.length ≤ W.length) (t.ov p) (fun _ => Nat.le_refl _) (fun _ _ _ _ _ => Nat.le_refl _) (fun _ _ _ _ => Nat.le_refl _) (fun _ _ _ _ => Nat.le_refl _) (fun l r res h => Nat.le_succ_of_le h) (fun l r G res _ _ _ h => Nat.le_succ_of_le h) _ _

/-- The round, by cases. -/
inductive RoundIs (N : Nat) (a : UInt8) (t : JT) : JT × Now → Prop
  | halt0 (h : (sideR N a t 0).2.2 ≠ 1) : RoundIs N a t (readJ N a t 0, haltJ 0 (sideR N a t 0).2.2)
  | halt1 (h : (sideR N a t 0).2.2 = 1) (h1 : (sideR N a t 1).2.2 ≠ 1) : RoundIs N a t (readJ N a (readJ N a t 0) 1, haltJ 1 (sideR N a t 1).2.2)
  | less (h : (sideR N a t 0).2.2 = 1) (h1 : (sideR N a t 1).2.2 = 1) (hk : lessL (keyG a (sideR N a t 0).2.1) (keyG a (sideR N a t 1).2.1) = true) : RoundIs N a t (dropJ (readJ N a (readJ N a t 0) 1) 0, .again)
  | more (h : (sideR N a t 0).2.2 = 1) (h1 : (sideR N a t 1).2.2 = 1) (hk : lessL (keyG a (sideR N a t 0).2.1) (keyG a (sideR N a t 1).2.1) = false) (hk2 : gtrL (keyG a (sideR N a t 0).2.1) (keyG a (sideR N a t 1).2.1) = true) : RoundIs N a t (dropJ (readJ N a (readJ N a t 0) 1) 1, .again)
  | tells (h : (sideR N a t 0).2.2 = 1) (h1 : (sideR N a t 1).2.2 = 1) (hk : lessL (keyG a (sideR N a t 0).2.1) (keyG a (sideR N a t 1).2.1) = false) (hk2 : gtrL (keyG a (sideR N a t 0).2.1) (keyG a (sideR N a t 1).2.1) = false) : RoundIs N a t (readJ N a (readJ N a t 0) 1, .tells)
theorem both_G (t : JT) : (readJ N a (readJ N a t 0) 1).G 0 = (sideR N a t 0).2.1 ∧ (readJ N a (readJ N a t 0) 1).G 1 = (sideR N a t 1).2.1 ∧ (readJ N a (readJ N a t 0) 1).W 0 = (sideR N a t 0).1 ∧ (readJ N a (readJ N a t 0) 1).W 1 = (sideR N a t 1).1 := by
  have h1 : sideR N a (readJ N a t 0) 1 = sideR N a t 1 := sideR_other t (by decide)
  refine ⟨?_, ?_, ?_, ?_⟩
  · rw [(readJ_other (readJ N a t 0) (show 0 ≠ 1 by decide)).2, (readJ_at t 0).2]
  · rw [(readJ_at (readJ N a t 0) 1).2, h1]
  · rw [(readJ_other (readJ N a t 0) (show 0 ≠ 1 by decide)).1, (readJ_at t 0).1]
  · rw [(readJ_at (readJ N a t 0) 1).1, h1]
theorem roundIs (t : JT) : RoundIs N a t (roundJ N a t) := by
  have h1 : sideR N a (readJ N a t 0) 1 = sideR N a t 1 := sideR_other t (by decide)
  obtain ⟨g0, g1, -, -⟩ := both_G (N := N) (a := a) t
  unfold roundJ
  split
  · rename_i k0
    rw [h1]
    split
    · rename_i k1
      unfold meetJ
      rw [g0, g1]
      split
      · rename_i k2
        exact .less k0 k1 k2
      · rename_i k2
        split
        · rename_i k3
          exact .more k0 k1 (by simpa using k2) k3
        · rename_i k3
          exact .tells k0 k1 (by simpa using k2) (by simpa using k3)
    · rename_i k1
      exact .halt1 k0 k1
  · rename_i k0
    exact .halt0 k0
theorem haltJ_not (p : Nat) (c : Int) : haltJ p c ≠ .again ∧ haltJ p c ≠ .tells := by
  unfold haltJ
  split
  · exact ⟨(fun e => by cases e), (fun e => by cases e)⟩
  · exact ⟨(fun e => by cases e), (fun e => by cases e)⟩
theorem leftJ_both (t : JT) : leftJ (readJ N a (readJ N a t 0) 1) ≤ leftJ t := by
  obtain ⟨g0, g1, w0, w1⟩ := both_G (N := N) (a := a) t
  unfold leftJ
  rw [g0, g1, w0, w1]
  have := sideR_len (N := N) (a := a) t 0
  have := sideR_len (N := N) (a := a) t 1
  have := sideR_le (N := N) (a := a) t 0
  have := sideR_le (N := N) (a := a) t 1
  omega
theorem leftJ_drop (t : JT) (p : Nat) (hp : p < 2) (h : t.G p ≠ []) : leftJ (dropJ t p) < leftJ t := by
  have hl : 0 < (t.G p).length := List.length_pos_iff.2 h
  unfold leftJ dropJ
  obtain rfl | rfl : p = 0 ∨ p = 1 := by omega
  · show 2 * _ + ((setAt t.G 0 [] 0).length + (setAt t.G 0 [] 1).length) < _
    rw [setAt_self, setAt_other _ _ (show 1 ≠ 0 by decide)]; simp only [List.length_nil]; omega
  · show 2 * _ + ((setAt t.G 1 [] 0).length + (setAt t.G 1 [] 1).length) < _
    rw [setAt_self, setAt_other _ _ (show 0 ≠ 1 by decide)]; simp only [List.length_nil]; omega
theorem leftJ_drops (t : JT) (h : t.G 0 ≠ []) : leftJ (drops t) < leftJ t := by
  have h1 := leftJ_drop t 0 (by decide) h
  have h2 : leftJ (drops t) ≤ leftJ (dropJ t 0) := by
    unfold drops leftJ
    show 2 * (((dropJ t 0).W 0).length + ((dropJ t 0).W 1).length) + ((setAt (dropJ t 0).G 1 [] 0).length + (setAt (dropJ t 0).G 1 [] 1).length) ≤ _
    rw [setAt_self, setAt_other _ _ (show 0 ≠ 1 by decide)]
    simp only [List.length_nil]
    omega
  omega
theorem round_again {t t' : JT} (h : roundJ N a t = (t', .again)) : leftJ t' < leftJ t := by
  have hr := roundIs (N := N) (a := a) t
  have hb := leftJ_both (N := N) (a := a) t
  obtain ⟨g0, g1, -, -⟩ := both_G (N := N) (a := a) t
  rw [h] at hr
  generalize hx : (t', Now.again) = r at hr
  cases hr with
  | halt0 k0 => injection hx with _ e; exact absurd e.symm (haltJ_not _ _).1
  | halt1 k0 k1 => injection hx with _ e; exact absurd e.symm (haltJ_not _ _).1
  | less k0 k1 k2 =>
    injection hx with e _
    subst e
    exact Nat.lt_of_lt_of_le (leftJ_drop _ 0 (by decide) (by rw [g0]; exact readG_one k0)) hb
  | more k0 k1 k2 k3 =>
    injection hx with e _
    subst e
    exact Nat.lt_of_lt_of_le (leftJ_drop _ 1 (by decide) (by rw [g1]; exact readG_one k1)) hb
  | tells k0 k1 k2 k3 => injection hx with _ e; cases e
theorem round_tells {t t' : JT} (h : roundJ N a t = (t', .tells)) : leftJ (drops t') < leftJ t ∧ t'.G 0 ≠ [] ∧ t'.G 1 ≠ [] ∧ keyG a (t'.G 0) = keyG a (t'.G 1) := by
  have hr := roundIs (N := N) (a := a) t
  have hb := leftJ_both (N := N) (a := a) t
  obtain ⟨g0, g1, -, -⟩ := both_G (N := N) (a := a) t
  rw [h] at hr
  generalize hx : (t', Now.tells) = r at hr
  cases hr with
  | halt0 k0 => injection hx with _ e; exact absurd e.symm (haltJ_not _ _).2
  | halt1 k0 k1 => injection hx with _ e; exact absurd e.symm (haltJ_not _ _).2
  | less k0 k1 k2 => injection hx with _ e; cases e
  | more k0 k1 k2 k3 => injection hx with _ e; cases e
  | tells k0 k1 k2 k3 =>
    injection hx with e _
    subst e
    have n0 : (readJ N a (readJ N a t 0) 1).G 0 ≠ [] := by rw [g0]; exact readG_one k0
    exact ⟨Nat.lt_of_lt_of_le (leftJ_drops _ n0) hb, n0, by rw [g1]; exact readG_one k1, by rw [g0, g1]; exact eq_of_not k2 k3⟩
theorem runJ_enough : ∀ (k : Nat) (t : JT), leftJ t < k → runJ N a k t = settleJ N a t := by
  intro k
  induction k using Nat.strongRecOn with
  | _ k ih =>
    intro t h
    unfold settleJ
    obtain ⟨j, rfl⟩ : ∃ j, k = j + 1 := ⟨k - 1, by omega⟩
    rw [runJ, runJ]
    have key : ∀ t', leftJ t' < leftJ t → runJ N a j t' = runJ N a (leftJ t) t' := fun t' h' => by
      rw [ih j (by omega) t' (by omega)]
      by_cases he : leftJ t = j
      · rw [he]; exact (ih j (by omega) t' (by omega)).symm
      · exact (ih (leftJ t) (by omega) t' h').symm
    cases hr : roundJ N a t with
    | mk t' n =>
      cases n with
      | waits p => rfl
      | ends e => rfl
      | again => exact key t' (round_again hr)
      | tells => simp only; rw [key _ (round_tells hr).1]
theorem calmJ_enough : ∀ (k : Nat) (t : JT), leftJ t < k → calmJ N a k t = restJ N a t := by
  intro k
  induction k using Nat.strongRecOn with
  | _ k ih =>
    intro t h
    unfold restJ
    obtain ⟨j, rfl⟩ : ∃ j, k = j + 1 := ⟨k - 1, by omega⟩
    rw [calmJ, calmJ]
    have key : ∀ t', leftJ t' < leftJ t → calmJ N a j t' = calmJ N a (leftJ t) t' := fun t' h' => by
      rw [ih j (by omega) t' (by omega)]
      by_cases he : leftJ t = j
      · rw [he]; exact (ih j (by omega) t' (by omega)).symm
      · exact (ih (leftJ t) (by omega) t' h').symm
    cases hr : roundJ N a t with
    | mk t' n =>
      cases n with
      | waits p => rfl
      | ends e => rfl
      | again => exact key t' (round_again hr)
      | tells => rfl
theorem settleJ_again {t t' : JT} (h : roundJ N a t = (t', .again)) : settleJ N a t = settleJ N a t' := by
  rw [settleJ, runJ, h]
  exact runJ_enough _ t' (round_again h)
theorem settleJ_tells {t t' : JT} (h : roundJ N a t = (t', .tells)) : settleJ N a t = (pairsJ a (t'.G 0) (t'.G 1) ++ (settleJ N a (drops t')).1, (settleJ N a (drops t')).2) := by
  rw [settleJ, runJ, h]
  simp only
  rw [runJ_enough _ _ (round_tells h).1]
theorem settleJ_waits {t t' : JT} {p : Nat} (h : roundJ N a t = (t', .waits p)) : settleJ N a t = ([], t', .waits p) := by rw [settleJ, runJ, h]
theorem settleJ_ends {t t' : JT} {e : Int} (h : roundJ N a t = (t', .ends e)) : settleJ N a t = ([], t', .ends e) := by rw [settleJ, runJ, h]
theorem restJ_again {t t' : JT} (h : roundJ N a t = (t', .again)) : restJ N a t = restJ N a t' := by
  rw [restJ, calmJ, h]
  exact calmJ_enough _ t' (round_again h)
theorem restJ_tells {t t' : JT} (h : roundJ N a t = (t', .tells)) : restJ N a t = (t', .tells) := by rw [restJ, calmJ, h]
theorem restJ_waits {t t' : JT} {p : Nat} (h : roundJ N a t = (t', .waits p)) : restJ N a t = (t', .waits p) := by rw [restJ, calmJ, h]
theorem restJ_ends {t t' : JT} {e : Int} (h : roundJ N a t = (t', .ends e)) : restJ N a t = (t', .ends e) := by rw [restJ, calmJ, h]
/-- What holds of a round holds of all of them. -/
theorem restJ_ind {P : JT → JT × Now → Prop} (h0 : ∀ t t' n, roundJ N a t = (t', n) → n ≠ .again → P t (t', n)) (h1 : ∀ t t' r, roundJ N a t = (t', .again) → P t' r → P t r) : ∀ t, P t (restJ N a t) := by
  intro t
  generalize hk : leftJ t = k
  induction k using Nat.strongRecOn generalizing t with
  | _ k ih =>
    cases hr : roundJ N a t with
    | mk t' n =>
      cases n with
      | waits p => rw [restJ_waits hr]; exact h0 t t' _ hr (fun e => by cases e)
      | ends e => rw [restJ_ends hr]; exact h0 t t' _ hr (fun e => by cases e)
      | again => rw [restJ_again hr]; exact h1 t t' _ hr (ih _ (by have := round_again hr; omega) t' rfl)
      | tells => rw [restJ_tells hr]; exact h0 t t' _ hr (fun e => by cases e)
theorem settleJ_ind {P : JT → Lines × JT × Now → Prop} (hw : ∀ t t' p, roundJ N a t = (t', .waits p) → P t ([], t', .waits p)) (he : ∀ t t' e, roundJ N a t = (t', .ends e) → P t ([], t', .ends e)) (h1 : ∀ t t' r, roundJ N a t = (t', .again) → P t' r → P t r)
    (h2 : ∀ t t' r, roundJ N a t = (t', .tells) → P (drops t') r → P t (pairsJ a (t'.G 0) (t'.G 1) ++ r.1, r.2)) : ∀ t, P t (settleJ N a t) := by
  intro t
  generalize hk : leftJ t = k
  induction k using Nat.strongRecOn generalizing t with
  | _ k ih =>
    cases hr : roundJ N a t with
    | mk t' n =>
      cases n with
      | waits p => rw [settleJ_waits hr]; exact hw t t' _ hr
      | ends e => rw [settleJ_ends hr]; exact he t t' _ hr
      | again => rw [settleJ_again hr]; exact h1 t t' _ hr (ih _ (by have := round_again hr; omega) t' rfl)
      | tells => rw [settleJ_tells hr]; exact h2 t t' _ hr (ih _ (by have := (round_tells hr).1; omega) _ rfl)
/-- Till the first pairs, and on. -/
theorem settle_rest : ∀ t : JT, settleJ N a t = match restJ N a t with
    | (t', .tells) => (pairsJ a (t'.G 0) (t'.G 1) ++ (settleJ N a (drops t')).1, (settleJ N a (drops t')).2)
    | (t', n) => ([], t', n) :=
  restJ_ind (P := fun t r => settleJ N a t = match r with
    | (t', .tells) => (pairsJ a (t'.G 0) (t'.G 1) ++ (settleJ N a (drops t')).1, (settleJ N a (drops t')).2)
    | (t', n) => ([], t', n)) (fun t t' n h hn => by
      cases n with
      | waits p => exact settleJ_waits h
      | ends e => exact settleJ_ends h
      | again => exact absurd rfl hn
      | tells => exact settleJ_tells h) (fun t t' r h ih => by rw [settleJ_again h]; exact ih)

/-! More of the inputs. -/
def extJ (t : JT) (V : Nat → Lines) (o : Nat → Bool) : JT := ⟨fun j => t.W j ++ V j, fun j => t.ov j || o j, t.G⟩
theorem sideR_ext {t : JT} {V : Nat → Lines} {o : Nat → Bool} {p : Nat} (hV : t.ov p = true → V p = []) (h : (sideR N a t p).2.2 ≠ 0) : sideR N a (extJ t V o) p = ((sideR N a t p).1 ++ V p, (sideR N a t p).2.1, (sideR N a t p).2.2) := by
  have := readG_ext (N := N) (a := a) (t.ov p) (o p) (V p) hV (t.W p) (t.G p)
  unfold sideR at *
  rw [if_neg h] at this
  exact this
theorem readJ_ext {t : JT} {V : Nat → Lines} {o : Nat → Bool} {p : Nat} (hV : t.ov p = true → V p = []) (h : (sideR N a t p).2.2 ≠ 0) : readJ N a (extJ t V o) p = extJ (readJ N a t p) V o := by
  unfold readJ
  rw [sideR_ext hV h]
  unfold extJ
  simp only [JT.mk.injEq, and_true]
  funext j
  by_cases hj : j = p
  · subst hj; simp only [setAt_self]
  · simp only [setAt_other _ _ hj]
theorem readJ_wait {t : JT} {V : Nat → Lines} {o : Nat → Bool} {p : Nat} (hV : t.ov p = true → V p = []) (h : (sideR N a t p).2.2 = 0) : readJ N a (extJ t V o) p = readJ N a (extJ (readJ N a t p) V o) p ∧ sideR N a (extJ t V o) p = sideR N a (extJ (readJ N a t p) V o) p := by
  have e : sideR N a (extJ t V o) p = sideR N a (extJ (readJ N a t p) V o) p := by
    have := readG_ext (N := N) (a := a) (t.ov p) (o p) (V p) hV (t.W p) (t.G p)
    have h' : (readG N a (t.ov p) (t.W p) (t.G p)).2.2 = 0 := h
    rw [if_pos h'] at this
    show readG N a (t.ov p || o p) (t.W p ++ V p) (t.G p) = readG N a (t.ov p || o p) ((readJ N a t p).W p ++ V p) ((readJ N a t p).G p)
    rw [(readJ_at t p).1, (readJ_at t p).2]
    exact this
  refine ⟨?_, e⟩
  unfold readJ
  rw [← show readJ N a t p = ⟨setAt t.W p (sideR N a t p).1, t.ov, setAt t.G p (sideR N a t p).2.1⟩ from rfl, e]
  unfold extJ
  simp only [JT.mk.injEq]
  refine ⟨?_, rfl, ?_⟩
  · funext j
    by_cases hj : j = p
    · subst hj; simp only [setAt_self]
    · simp only [setAt_other _ _ hj]
      rw [(readJ_other t hj).1]
  · funext j
    by_cases hj : j = p
    · subst hj; simp only [setAt_self]
    · simp only [setAt_other _ _ hj]
      rw [(readJ_other t hj).2]
theorem readJ_ov (t : JT) (p : Nat) : (readJ N a t p).ov = t.ov := rfl
theorem round_ov (t : JT) : (roundJ N a t).1.ov = t.ov := by
  have hr := roundIs (N := N) (a := a) t
  generalize roundJ N a t = r at hr
  cases hr <;> rfl
theorem haltJ_waits {p q : Nat} {c : Int} (h : haltJ p c = .waits q) : p = q ∧ c = 0 := by
  unfold haltJ at h
  split at h
  · rename_i hc
    injection h with h
    exact ⟨h, hc⟩
  · cases h
theorem haltJ_ends {p : Nat} {c : Int} {e : Int} (h : haltJ p c = .ends e) : c ≠ 0 := by
  unfold haltJ at h
  split at h
  · cases h
  · assumption
theorem meet_ext (u : JT) (V : Nat → Lines) (o : Nat → Bool) : meetJ a (extJ u V o) = (extJ (meetJ a u).1 V o, (meetJ a u).2) := by
  unfold meetJ
  show (if lessL (keyG a (u.G 0)) (keyG a (u.G 1)) = true then _ else _ : JT × Now) = _
  by_cases h : lessL (keyG a (u.G 0)) (keyG a (u.G 1)) = true
  · rw [if_pos h, if_pos h]; rfl
  · rw [if_neg h, if_neg h]
    show (if gtrL (keyG a (u.G 0)) (keyG a (u.G 1)) = true then _ else _ : JT × Now) = _
    by_cases h2 : gtrL (keyG a (u.G 0)) (keyG a (u.G 1)) = true
    · rw [if_pos h2, if_pos h2]; rfl
    · rw [if_neg h2, if_neg h2]
theorem round_meet {t : JT} (h : (sideR N a t 0).2.2 = 1) (h1 : (sideR N a t 1).2.2 = 1) : roundJ N a t = meetJ a (readJ N a (readJ N a t 0) 1) := by
  unfold roundJ
  rw [if_pos h, sideR_other t (show 1 ≠ 0 by decide), if_pos h1]
theorem round_halt0 {t : JT} (h : (sideR N a t 0).2.2 ≠ 1) : roundJ N a t = (readJ N a t 0, haltJ 0 (sideR N a t 0).2.2) := by
  unfold roundJ
  rw [if_neg h]
theorem round_halt1 {t : JT} (h : (sideR N a t 0).2.2 = 1) (h1 : (sideR N a t 1).2.2 ≠ 1) : roundJ N a t = (readJ N a (readJ N a t 0) 1, haltJ 1 (sideR N a t 1).2.2) := by
  unfold roundJ
  rw [if_pos h, sideR_other t (show 1 ≠ 0 by decide), if_neg h1]
theorem setAt_same {α : Type} (f : Nat → α) (i : Nat) : setAt f i (f i) = f := by
  funext j
  by_cases h : j = i
  · subst h; rw [setAt_self]
  · rw [setAt_other _ _ h]
theorem haltJ_zero (p : Nat) {c : Int} (h : c = 0) : haltJ p c = .waits p := by unfold haltJ; rw [if_pos h]
theorem haltJ_else (p : Nat) {c : Int} (h : c ≠ 0) : haltJ p c = .ends (if c = 3 then 22 else if c = 4 then 21 else 0) := by unfold haltJ; rw [if_neg h]
/-- A round, with more of the inputs. -/
theorem round_ext (t : JT) (V : Nat → Lines) (o : Nat → Bool) (hV : ∀ j, t.ov j = true → V j = []) :
    (∃ p, (roundJ N a t).2 = .waits p ∧ roundJ N a (extJ t V o) = roundJ N a (extJ (roundJ N a t).1 V o)) ∨ ((∀ p, (roundJ N a t).2 ≠ .waits p) ∧ roundJ N a (extJ t V o) = (extJ (roundJ N a t).1 V o, (roundJ N a t).2)) := by
  have s01 : ∀ u : JT, sideR N a (readJ N a u 0) 1 = sideR N a u 1 := fun u => sideR_other u (by decide)
  have x0 := hV 0
  have x1 := hV 1
  by_cases k0 : (sideR N a t 0).2.2 = 1
  · have hz0 : (sideR N a t 0).2.2 ≠ 0 := by rw [k0]; decide
    have e0 := sideR_ext (N := N) (a := a) (V := V) (o := o) x0 hz0
    have r0 := readJ_ext (N := N) (a := a) (V := V) (o := o) x0 hz0
    have hov : (readJ N a t 0).ov 1 = true → V 1 = [] := x1
    by_cases k1 : (sideR N a t 1).2.2 = 1
    · refine .inr ?_
      have hz1 : (sideR N a (readJ N a t 0) 1).2.2 ≠ 0 := by rw [s01, k1]; decide
      have r1 := readJ_ext (N := N) (a := a) (t := readJ N a t 0) (V := V) (o := o) hov hz1
      have e1 := sideR_ext (N := N) (a := a) (V := V) (o := o) x1 (show (sideR N a t 1).2.2 ≠ 0 by rw [k1]; decide)
      have hm := round_meet k0 k1
      rw [hm]
      refine ⟨fun p => ?_, ?_⟩
      · unfold meetJ
        split
        · exact fun e => by cases e
        · split
          · exact fun e => by cases e
          · exact fun e => by cases e
      · rw [round_meet (by rw [e0]; exact k0) (by rw [e1]; exact k1), r0, r1]
        exact meet_ext _ V o
    · rw [round_halt1 k0 k1]
      by_cases hz : (sideR N a t 1).2.2 = 0
      · refine .inl ⟨1, haltJ_zero 1 hz, ?_⟩
        obtain ⟨e1, e2⟩ := readJ_wait (N := N) (a := a) (t := readJ N a t 0) (V := V) (o := o) hov (by rw [s01]; exact hz)
        have hs : sideR N a (readJ N a (readJ N a t 0) 1) 0 = sideR N a t 0 := by rw [sideR_other _ (show 0 ≠ 1 by decide), sideR_self]
        have hov0 : (readJ N a (readJ N a t 0) 1).ov 0 = true → V 0 = [] := x0
        have e3 := sideR_ext (N := N) (a := a) (t := readJ N a (readJ N a t 0) 1) (V := V) (o := o) hov0 (by rw [hs]; exact hz0)
        have r3 := readJ_ext (N := N) (a := a) (t := readJ N a (readJ N a t 0) 1) (V := V) (o := o) hov0 (by rw [hs]; exact hz0)
        have hidem : readJ N a (readJ N a (readJ N a t 0) 1) 0 = readJ N a (readJ N a t 0) 1 := by
          obtain ⟨g0, g1, w0, w1⟩ := both_G (N := N) (a := a) t
          show (⟨setAt (readJ N a (readJ N a t 0) 1).W 0 (sideR N a (readJ N a (readJ N a t 0) 1) 0).1, (readJ N a (readJ N a t 0) 1).ov, setAt (readJ N a (readJ N a t 0) 1).G 0 (sideR N a (readJ N a (readJ N a t 0) 1) 0).2.1⟩ : JT) = _
          rw [hs, ← g0, ← w0, setAt_same, setAt_same]
        have a0 : (sideR N a (extJ t V o) 0).2.2 = 1 := by rw [e0]; exact k0
        have b0 : (sideR N a (extJ (readJ N a (readJ N a t 0) 1) V o) 0).2.2 = 1 := by rw [e3, hs]; exact k0
        unfold roundJ
        rw [if_pos a0, if_pos b0, r0, r3, hidem, e1, e2]
      · refine .inr ⟨(fun p => by rw [haltJ_else 1 hz]; exact fun e => by cases e), ?_⟩
        have e1 := sideR_ext (N := N) (a := a) (V := V) (o := o) x1 hz
        have r1 := readJ_ext (N := N) (a := a) (t := readJ N a t 0) (V := V) (o := o) hov (by rw [s01]; exact hz)
        rw [round_halt1 (by rw [e0]; exact k0) (by rw [e1]; exact k1), r0, r1, e1]
  · rw [round_halt0 k0]
    by_cases hz : (sideR N a t 0).2.2 = 0
    · refine .inl ⟨0, haltJ_zero 0 hz, ?_⟩
      obtain ⟨e1, e2⟩ := readJ_wait (N := N) (a := a) (V := V) (o := o) x0 hz
      unfold roundJ
      rw [e1, e2]
    · refine .inr ⟨(fun p => by rw [haltJ_else 0 hz]; exact fun e => by cases e), ?_⟩
      have e0 := sideR_ext (N := N) (a := a) (V := V) (o := o) x0 hz
      rw [round_halt0 (by rw [e0]; exact k0), readJ_ext x0 hz, e0]
theorem settle_ov : ∀ t : JT, (settleJ N a t).2.1.ov = t.ov :=
  settleJ_ind (P := fun t r => r.2.1.ov = t.ov) (fun t t' p h => by have := round_ov (N := N) (a := a) t; rw [h] at this; exact this) (fun t t' e h => by have := round_ov (N := N) (a := a) t; rw [h] at this; exact this)
    (fun t t' r h ih => by have := round_ov (N := N) (a := a) t; rw [h] at this; exact ih.trans this) (fun t t' r h ih => by have := round_ov (N := N) (a := a) t; rw [h] at this; exact ih.trans this)
/-- Whole runs, with more of the inputs. -/
theorem settleJ_ext (V : Nat → Lines) (o : Nat → Bool) : ∀ t : JT, (∀ j, t.ov j = true → V j = []) →
    (∀ p, (settleJ N a t).2.2 = .waits p → settleJ N a (extJ t V o) = ((settleJ N a t).1 ++ (settleJ N a (extJ (settleJ N a t).2.1 V o)).1, (settleJ N a (extJ (settleJ N a t).2.1 V o)).2)) ∧
    (∀ e, (settleJ N a t).2.2 = .ends e → settleJ N a (extJ t V o) = ((settleJ N a t).1, extJ (settleJ N a t).2.1 V o, .ends e)) := by
  refine settleJ_ind (P := fun t r => (∀ j, t.ov j = true → V j = []) → (∀ p, r.2.2 = .waits p → settleJ N a (extJ t V o) = (r.1 ++ (settleJ N a (extJ r.2.1 V o)).1, (settleJ N a (extJ r.2.1 V o)).2)) ∧ (∀ e, r.2.2 = .ends e → settleJ N a (extJ t V o) = (r.1, extJ r.2.1 V o, .ends e)))
    (fun t t' p h hV => ⟨fun p' hp => ?_, (fun e he => by cases he)⟩) (fun t t' e h hV => ⟨(fun p hp => by cases hp), fun e' he => ?_⟩) (fun t t' r h ih hV => ?_) (fun t t' r h ih hV => ?_)
  · rcases round_ext (N := N) (a := a) t V o hV with ⟨p2, h1, h2⟩ | ⟨h1, -⟩
    · rw [h] at h2
      have key : ∀ u v : JT, roundJ N a u = roundJ N a v → settleJ N a u = settleJ N a v := fun u v e => by
        cases hr : roundJ N a v with
        | mk v' n =>
          rw [hr] at e
          cases n with
          | waits p => rw [settleJ_waits hr, settleJ_waits e]
          | ends p => rw [settleJ_ends hr, settleJ_ends e]
          | again => rw [settleJ_again hr, settleJ_again e]
          | tells => rw [settleJ_tells hr, settleJ_tells e]
      rw [key _ _ h2]
      rfl
    · rw [h] at h1; exact absurd rfl (h1 p)
  · injection he with he
    subst he
    rcases round_ext (N := N) (a := a) t V o hV with ⟨p2, h1, -⟩ | ⟨-, h2⟩
    · rw [h] at h1; cases h1
    · rw [h] at h2; exact settleJ_ends h2
  · have hov := round_ov (N := N) (a := a) t
    rw [h] at hov
    rcases round_ext (N := N) (a := a) t V o hV with ⟨p2, h1, -⟩ | ⟨-, h2⟩
    · rw [h] at h1; cases h1
    · rw [h] at h2
      rw [settleJ_again h2]
      exact ih (by rw [show t'.ov = t.ov from hov]; exact hV)
  · have hov := round_ov (N := N) (a := a) t
    rw [h] at hov
    rcases round_ext (N := N) (a := a) t V o hV with ⟨p2, h1, -⟩ | ⟨-, h2⟩
    · rw [h] at h1; cases h1
    · rw [h] at h2
      obtain ⟨i1, i2⟩ := ih (by rw [show (drops t').ov = t.ov from hov]; exact hV)
      have hd : drops (extJ t' V o) = extJ (drops t') V o := rfl
      refine ⟨fun p hp => ?_, fun e he => ?_⟩
      · rw [settleJ_tells h2, hd, i1 p hp]
        simp only [List.append_assoc]
        rfl
      · rw [settleJ_tells h2, hd, i2 e he]
        rfl
theorem settleJ_stops : ∀ t : JT, (∃ p, p < 2 ∧ (settleJ N a t).2.2 = .waits p ∧ (settleJ N a t).2.1.W p = [] ∧ (settleJ N a t).2.1.ov p = false) ∨ ∃ e, (settleJ N a t).2.2 = .ends e := by
  refine settleJ_ind (P := fun t r => (∃ p, p < 2 ∧ r.2.2 = .waits p ∧ r.2.1.W p = [] ∧ r.2.1.ov p = false) ∨ ∃ e, r.2.2 = .ends e) (fun t t' p h => .inl ?_) (fun t t' e h => .inr ⟨e, rfl⟩) (fun t t' r h ih => ih) (fun t t' r h ih => ih)
  have hr := roundIs (N := N) (a := a) t
  obtain ⟨g0, g1, w0, w1⟩ := both_G (N := N) (a := a) t
  rw [h] at hr
  generalize hx : (t', Now.waits p) = r at hr
  cases hr with
  | halt0 k0 =>
    injection hx with e1 e2
    obtain ⟨rfl, hz⟩ := haltJ_waits e2.symm
    obtain ⟨z1, z2⟩ := readG_zero hz
    subst e1
    exact ⟨0, by decide, haltJ_zero 0 hz, by rw [(readJ_at t 0).1]; exact z1, z2⟩
  | halt1 k0 k1 =>
    injection hx with e1 e2
    obtain ⟨rfl, hz⟩ := haltJ_waits e2.symm
    obtain ⟨z1, z2⟩ := readG_zero hz
    subst e1
    exact ⟨1, by decide, haltJ_zero 1 hz, by rw [w1]; exact z1, z2⟩
  | less k0 k1 k2 => injection hx with _ e; cases e
  | more k0 k1 k2 k3 => injection hx with _ e; cases e
  | tells k0 k1 k2 k3 => injection hx with _ e; cases e
theorem extJ_nil (t : JT) : extJ t (fun _ => []) (fun _ => false) = t := by
  unfold extJ
  simp only [List.append_nil, Bool.or_false]
/-- It comes to rest. -/
theorem settleJ_rests (t : JT) {p : Nat} (h : (settleJ N a t).2.2 = .waits p) : settleJ N a (settleJ N a t).2.1 = ([], (settleJ N a t).2.1, .waits p) := by
  have := (settleJ_ext (N := N) (a := a) (fun _ => []) (fun _ => false) t (fun _ _ => rfl)).1 p h
  rw [extJ_nil, extJ_nil] at this
  have h1 := congrArg Prod.fst this
  have h2 := congrArg Prod.snd this
  simp only at h1 h2
  have h3 : (settleJ N a (settleJ N a t).2.1).1 = [] := by
    have := congrArg List.length h1
    rw [List.length_append] at this
    exact List.eq_nil_of_length_eq_zero (by omega)
  rw [← h] 
  exact Prod.ext h3 h2.symm
end

end Go.Proofs.YtchepmikbnnnhaaDoor

namespace Go.Proofs.YtchepmikbnnnhaaDoor

/-- What holds of its state behind each call bounds what it holds; pieces too. -/
theorem drive_inv32j {S : Type} (M : Mach S) (P : S → Prop) (B : Int) (hB : ∀ s, P s → M.held s ≤ B) (h1 : ∀ s x, P s → 0 ≤ M.need s → x.length ≤ 32 → P (M.feed s x).1) (h2 : ∀ s, P s → 0 ≤ M.need s → P (M.fin s).1) (h3 : ∀ s, P s → M.need s = -2 → P (M.more s).1) (h4 : ∀ s, P s → M.need s = -1 ∨ M.need s = -2 ∨ 0 ≤ M.need s) (ins : List Strm) (cuts : List Int) :
    ∀ (f n : Nat) (x : DS S), P x.s → x.got.need = M.need x.s → x.got.held ≤ B → (drive M ins cuts f n x).got.held ≤ B := by
  intro f
  induction f with
  | zero => intro n x _ _ k2; exact k2
  | succ f ih =>
    intro n x k1 kn k2
    rw [drive]
    split
    · rename_i hgo
      have hne : M.need x.s ≠ -1 := by rw [← kn]; exact hgo.2
      cases hs : step M ins cuts n x with
      | none => exact k2
      | some y =>
        have hy : P y.s ∧ y.got.need = M.need y.s ∧ y.got.held ≤ B := by
          have key : ∀ (x' : DS S) (r : S × Outs × Int), x'.got.held ≤ B → P r.1 → P (after M x' r).s ∧ (after M x' r).got.need = M.need (after M x' r).s ∧ (after M x' r).got.held ≤ B := by
            intro x' r q1 q2
            refine ⟨q2, rfl, ?_⟩
            have := hB r.1 q2
            show max x'.got.held (M.held r.1) ≤ B
            omega
          have hch : ∀ k b, (chunkAt cuts x n k b).length ≤ 32 := fun k b => by
            have hc := cutAt_le cuts n
            unfold chunkAt toAt
            simp only [List.length_drop, List.length_take]
            omega
          unfold step at hs
          split at hs
          · rename_i hm
            cases hs; exact key x _ k2 (h3 _ k1 (by rw [← kn]; exact hm))
          · rename_i hm
            have h0 : 0 ≤ M.need x.s := by
              rcases h4 _ k1 with e | e | e
              · exact absurd e hne
              · rw [← kn] at e; exact absurd e hm
              · exact e
            split at hs
            · cases hs
            · split at hs
              · cases hs
                exact key _ _ k2 (h1 _ _ k1 h0 (hch _ _))
              · split at hs
                · cases hs
                  exact key _ _ k2 (h2 _ k1 h0)
                · cases hs
        exact ih (n + 1) y hy.1 hy.2.1 hy.2.2
    · exact k2
/-- The inputs, read whole. -/
def startJ (f : Nat → Strm) : JT := ⟨fun j => rdW (f j), fun j => rdOv (f j), fun _ => []⟩
def noJ : JT := ⟨fun _ => [], fun _ => false, fun _ => []⟩
structure JS where
  need : Int
  b : Nat → List UInt8
  t : JT
  told : Nat
def deadJ : JS := ⟨-1, fun _ => [], noJ, 0⟩
def freshJ : JS := ⟨0, fun _ => [], noJ, 0⟩
def sumLen (L : Lines) : Nat := (L.map List.length).sum
section
variable (N : Nat) (a : UInt8)
/-- Where it came to rest. -/
def nowJ (b : Nat → List UInt8) (r : JT × Now) : JS × Int := match r with
  | (t, .waits p) => (⟨p, b, t, 0⟩, 0)
  | (_, .ends e) => (deadJ, e)
  | (t, .tells) => (⟨-2, b, t, 0⟩, 0)
  | (_, .again) => (deadJ, 0)
def comesJ (b : Nat → List UInt8) (t : JT) (o : Outs) : JS × Outs × Int := ((nowJ b (restJ N a t)).1, o, (nowJ b (restJ N a t)).2)
def heldJ (s : JS) : Nat := ((s.b 0).length + sumLen (s.t.W 0) + sumLen (s.t.G 0)) + ((s.b 1).length + sumLen (s.t.W 1) + sumLen (s.t.G 1))
def nextPair (s : JS) : List UInt8 := (pairsJ a (s.t.G 0) (s.t.G 1)).getD s.told []
def joinMach : Mach JS where
  need s := s.need
  held s := heldJ s
  feed s x := match cutL (s.b s.need.toNat) x with
    | (_, none) => (deadJ, [], 20)
    | (L, some d) => comesJ N a (setAt s.b s.need.toNat d) (extJ s.t (oneV s.need.toNat L) (fun _ => false)) []
  fin s := comesJ N a (setAt s.b s.need.toNat []) (extJ s.t (oneV s.need.toNat (if s.b s.need.toNat = [] then [] else [s.b s.need.toNat])) (oneO s.need.toNat true)) []
  more s := if s.told + 1 < (s.t.G 0).length * (s.t.G 1).length then (⟨s.need, s.b, s.t, s.told + 1⟩, [(0, nextPair a s ++ [10])], 0) else comesJ N a s.b (drops s.t) [(0, nextPair a s ++ [10])]
variable {N a}
theorem pairsJ_len (G H : Lines) : (pairsJ a G H).length = G.length * H.length := by
  unfold pairsJ
  induction G with
  | nil => simp
  | cons l r ih => rw [List.flatMap_cons, List.length_append, ih, List.length_map, List.length_cons, Nat.succ_mul, Nat.add_comm]
theorem pairsJ_at {G H : Lines} {k : Nat} {l m : List UInt8} (hl : G[k / H.length]? = some l) (hm : H[k % H.length]? = some m) : (pairsJ a G H)[k]? = some (pairL a l m) := by
  unfold pairsJ
  have hH : 0 < H.length := by
    have := (List.getElem?_eq_some_iff.1 hm).1
    omega
  induction G generalizing k with
  | nil => simp at hl
  | cons x r ih =>
    rw [List.flatMap_cons]
    by_cases hk : k < H.length
    · rw [List.getElem?_append_left (by simpa using hk), List.getElem?_map]
      rw [Nat.mod_eq_of_lt hk] at hm
      rw [Nat.div_eq_of_lt hk] at hl
      simp at hl
      subst hl
      rw [hm]
      rfl
    · rw [List.getElem?_append_right (by simp; omega), List.length_map]
      refine ih (k := k - H.length) ?_ ?_
      · have : k / H.length = (k - H.length) / H.length + 1 := by
          have := Nat.div_eq k H.length
          rw [if_pos ⟨hH, by omega⟩] at this
          exact this
        rw [this] at hl
        simpa using hl
      · have : k % H.length = (k - H.length) % H.length := by
          have := Nat.mod_eq k H.length
          rw [if_pos ⟨hH, by omega⟩] at this
          exact this
        rw [← this]
        exact hm
theorem pair_len (a : UInt8) (l m : List UInt8) (hl : l.length ≤ 64) (hm : m.length ≤ 64) : (pairL a l m).length ≤ 130 := by
  have h1 := key_rest_len a l
  have h2 := key_rest_len a m
  have h3 := join_len [a] rfl (row := [keyL a l, restL a l, restL a m]) (by simp)
  unfold pairL
  simp only [cW_cons, cW_nil] at h3
  omega

/-! What holds between the calls. -/
theorem sumLen_cW (L : Lines) : sumLen L + L.length = cW L := cW_sum L
theorem sumLen_fine {L : Lines} (h : ∀ l ∈ L, l.length ≤ 64) : sumLen L ≤ 64 * L.length := by
  induction L with
  | nil => exact Nat.zero_le _
  | cons l r ih =>
    have h1 := h l (List.mem_cons_self)
    have h2 := ih (fun x hx => h x (List.mem_cons_of_mem _ hx))
    unfold sumLen at h2 ⊢
    simp only [List.map_cons, List.sum_cons, List.length_cons]
    omega
/-- One side. -/
structure SideOk (N : Nat) (a : UInt8) (b : List UInt8) (W G : Lines) : Prop where
  fine : ∀ l ∈ G ++ W, l.length ≤ 64
  wait : cW W + b.length ≤ 96
  most : G.length ≤ N
  keyed : Keyed a G
theorem SideOk.read {b : List UInt8} {W G : Lines} (h : SideOk N a b W G) (h1 : 1 ≤ N) (ov : Bool) : SideOk N a b (readG N a ov W G).1 (readG N a ov W G).2.1 := by
  have hk := readG_keeps (N := N) (a := a) ov W G
  refine ⟨by rw [hk]; exact h.fine, ?_, readG_count h1 ov W G h.most, readG_keyed ov W G h.keyed⟩
  have : cW (readG N a ov W G).1 ≤ cW W := readG_ind (N := N) (a := a) (P := fun W G r => cW r.1 ≤ cW W) ov (fun _ => Nat.le_refl _) (fun _ _ _ _ _ => Nat.le_refl _) (fun _ _ _ _ => Nat.le_refl _) (fun _ _ _ _ => Nat.le_refl _) (fun l r res h => by rw [cW_cons]; omega) (fun l r G res _ _ _ h => by rw [cW_cons]; omega) W G
  have := h.wait
  omega
theorem SideOk.drop {b : List UInt8} {W G : Lines} (h : SideOk N a b W G) : SideOk N a b W [] := ⟨fun l hl => h.fine l (List.mem_append_right _ hl), h.wait, Nat.zero_le _, fun _ h => by cases h⟩
def TOk (N : Nat) (a : UInt8) (b : Nat → List UInt8) (t : JT) : Prop := ∀ j, j < 2 → SideOk N a (b j) (t.W j) (t.G j)
theorem TOk.read {b : Nat → List UInt8} {t : JT} (h : TOk N a b t) (h1 : 1 ≤ N) (p : Nat) : TOk N a b (readJ N a t p) := fun j hj => by
  by_cases hp : j = p
  · subst hp
    rw [(readJ_at t j).1, (readJ_at t j).2]
    exact (h j hj).read h1 _
  · rw [(readJ_other t hp).1, (readJ_other t hp).2]
    exact h j hj
theorem TOk.drop {b : Nat → List UInt8} {t : JT} (h : TOk N a b t) (p : Nat) : TOk N a b (dropJ t p) := fun j hj => by
  show SideOk N a (b j) (t.W j) (setAt t.G p [] j)
  by_cases hp : j = p
  · subst hp; rw [setAt_self]; exact (h j hj).drop
  · rw [setAt_other _ _ hp]; exact h j hj
theorem TOk.round {b : Nat → List UInt8} {t : JT} (h : TOk N a b t) (h1 : 1 ≤ N) : TOk N a b (roundJ N a t).1 := by
  have hr := roundIs (N := N) (a := a) t
  generalize roundJ N a t = r at hr
  cases hr with
  | halt0 k0 => exact h.read h1 0
  | halt1 k0 k1 => exact (h.read h1 0).read h1 1
  | less k0 k1 k2 => exact ((h.read h1 0).read h1 1).drop 0
  | more k0 k1 k2 k3 => exact ((h.read h1 0).read h1 1).drop 1
  | tells k0 k1 k2 k3 => exact (h.read h1 0).read h1 1
theorem TOk.rest {b : Nat → List UInt8} (h1 : 1 ≤ N) : ∀ t : JT, TOk N a b t → TOk N a b (restJ N a t).1 :=
  restJ_ind (P := fun t r => TOk N a b t → TOk N a b r.1) (fun t t' n hr _ h => by have := h.round h1; rw [hr] at this; exact this) (fun t t' r hr ih h => ih (by have := h.round h1; rw [hr] at this; exact this))
theorem TOk.none : TOk N a (fun _ => []) noJ := fun _ _ => ⟨(fun l h => by cases h), by simp [noJ, cW], Nat.zero_le _, (fun l h => by cases h)⟩
/-- Where it came to rest. -/
theorem restJ_is : ∀ t : JT, (∃ p, p < 2 ∧ (restJ N a t).2 = .waits p ∧ (restJ N a t).1.W p = [] ∧ (restJ N a t).1.ov p = false) ∨ (∃ e, (restJ N a t).2 = .ends e ∧ 0 ≤ e ∧ e ≤ 22) ∨ ((restJ N a t).2 = .tells ∧ (restJ N a t).1.G 0 ≠ [] ∧ (restJ N a t).1.G 1 ≠ [] ∧ keyG a ((restJ N a t).1.G 0) = keyG a ((restJ N a t).1.G 1)) := by
  refine restJ_ind (P := fun t r => (∃ p, p < 2 ∧ r.2 = .waits p ∧ r.1.W p = [] ∧ r.1.ov p = false) ∨ (∃ e, r.2 = .ends e ∧ 0 ≤ e ∧ e ≤ 22) ∨ (r.2 = .tells ∧ r.1.G 0 ≠ [] ∧ r.1.G 1 ≠ [] ∧ keyG a (r.1.G 0) = keyG a (r.1.G 1))) (fun t t' n h hn => ?_) (fun t t' r h ih => ih)
  have hr := roundIs (N := N) (a := a) t
  obtain ⟨g0, g1, w0, w1⟩ := both_G (N := N) (a := a) t
  rw [h] at hr
  generalize hx : (t', n) = r at hr
  cases hr with
  | halt0 k0 =>
    injection hx with e1 e2
    subst e1 e2
    by_cases hz : (sideR N a t 0).2.2 = 0
    · obtain ⟨z1, z2⟩ := readG_zero hz
      exact .inl ⟨0, by decide, haltJ_zero 0 hz, by rw [(readJ_at t 0).1]; exact z1, z2⟩
    · refine .inr (.inl ⟨_, haltJ_else 0 hz, ?_⟩)
      split
      · decide
      · split <;> decide
  | halt1 k0 k1 =>
    injection hx with e1 e2
    subst e1 e2
    by_cases hz : (sideR N a t 1).2.2 = 0
    · obtain ⟨z1, z2⟩ := readG_zero hz
      exact .inl ⟨1, by decide, haltJ_zero 1 hz, by rw [w1]; exact z1, z2⟩
    · refine .inr (.inl ⟨_, haltJ_else 1 hz, ?_⟩)
      split
      · decide
      · split <;> decide
  | less k0 k1 k2 => injection hx with _ e; exact absurd e hn
  | more k0 k1 k2 k3 => injection hx with _ e; exact absurd e hn
  | tells k0 k1 k2 k3 =>
    injection hx with e1 e2
    subst e1 e2
    exact .inr (.inr ⟨rfl, by rw [g0]; exact readG_one k0, by rw [g1]; exact readG_one k1, by rw [g0, g1]; exact eq_of_not k2 k3⟩)
inductive Waits (s : JS) : Prop
  | dead (h : s.need = -1)
  | reads (p : Nat) (hp : p < 2) (h : s.need = p) (hw : s.t.W p = []) (ho : s.t.ov p = false) (ht : s.told = 0)
  | tells (h : s.need = -2) (hk : keyG a (s.t.G 0) = keyG a (s.t.G 1)) (ht : s.told < (s.t.G 0).length * (s.t.G 1).length)
structure JInv (N : Nat) (a : UInt8) (s : JS) : Prop where
  waits : Waits (a := a) s
  ok : TOk N a s.b s.t
  b : ∀ j, j < 2 → (s.b j).length ≤ 64
theorem JInv.dead : JInv N a deadJ := ⟨.dead rfl, TOk.none, fun _ _ => Nat.zero_le _⟩
theorem JInv.fresh : JInv N a freshJ := ⟨.reads 0 (by decide) rfl rfl rfl rfl, TOk.none, fun _ _ => Nat.zero_le _⟩
theorem JInv.now (h1 : 1 ≤ N) {b : Nat → List UInt8} {t : JT} (h : TOk N a b t) (hb : ∀ j, j < 2 → (b j).length ≤ 64) : JInv N a (nowJ b (restJ N a t)).1 := by
  have hr := h.rest h1
  rcases restJ_is (N := N) (a := a) t with ⟨p, hp, k1, k2, k3⟩ | ⟨e, k1, -⟩ | ⟨k1, k2, k3, k4⟩
  all_goals
    generalize restJ N a t = r at *
    obtain ⟨t', n⟩ := r
    simp only at k1
    subst k1
  · exact ⟨.reads p hp rfl k2 k3 rfl, hr, hb⟩
  · exact JInv.dead
  · exact ⟨.tells rfl k4 (Nat.mul_pos (List.length_pos_iff.2 k2) (List.length_pos_iff.2 k3)), hr, hb⟩
theorem JInv.held {s : JS} (h : JInv N a s) : heldJ s ≤ 128 * N + 192 := by
  unfold heldJ
  have key : ∀ j, j < 2 → (s.b j).length + sumLen (s.t.W j) + sumLen (s.t.G j) ≤ 64 * N + 96 := fun j hj => by
    have k := h.ok j hj
    have h1 := sumLen_cW (s.t.W j)
    have h2 := k.wait
    have h3 := sumLen_fine (L := s.t.G j) (fun l hl => k.fine l (List.mem_append_left _ hl))
    have h4 := Nat.mul_le_mul_left 64 k.most
    omega
  have k0 := key 0 (by decide)
  have k1 := key 1 (by decide)
  omega
theorem TOk.ext {b : Nat → List UInt8} {t : JT} (h : TOk N a b t) {p : Nat} (hw : t.W p = []) (L : Lines) (d : List UInt8) (o : Nat → Bool) (hL : cW L + d.length ≤ 96) (hf : ∀ l ∈ L, l.length ≤ 64) : TOk N a (setAt b p d) (extJ t (oneV p L) o) := fun j hj => by
  show SideOk N a (setAt b p d j) (t.W j ++ oneV p L j) (t.G j)
  unfold oneV
  by_cases hp : j = p
  · subst hp
    rw [setAt_self, if_pos rfl, hw, List.nil_append]
    have k := h j hj
    refine ⟨fun l hl => ?_, hL, k.most, k.keyed⟩
    rcases List.mem_append.1 hl with hl | hl
    · exact k.fine l (List.mem_append_left _ hl)
    · exact hf l hl
  · rw [setAt_other _ _ hp, if_neg hp, List.append_nil]
    exact h j hj
theorem setAt_le {b : Nat → List UInt8} {p : Nat} {d : List UInt8} (hb : ∀ j, j < 2 → (b j).length ≤ 64) (hd : d.length ≤ 64) : ∀ j, j < 2 → (setAt b p d j).length ≤ 64 := fun j hj => by
  by_cases he : j = p
  · subst he; rw [setAt_self]; exact hd
  · rw [setAt_other _ _ he]; exact hb j hj
theorem JInv.feed {s : JS} (h : JInv N a s) (h1 : 1 ≤ N) (hn : 0 ≤ s.need) (x : List UInt8) (hx : x.length ≤ 32) : JInv N a ((joinMach N a).feed s x).1 := by
  cases h.waits with
  | dead k => omega
  | tells k => omega
  | reads p hp k hw ho ht =>
    have hsk : s.need.toNat = p := by rw [k]; rfl
    show JInv N a (match cutL (s.b s.need.toNat) x with
      | (_, none) => (deadJ, [], 20)
      | (L, some d) => comesJ N a (setAt s.b s.need.toNat d) (extJ s.t (oneV s.need.toNat L) (fun _ => false)) [] : JS × Outs × Int).1
    rw [hsk]
    have hb := h.b p hp
    rcases hc : cutL (s.b p) x with ⟨L, _ | d⟩
    · exact JInv.dead
    · have hcount := cutL_count x (s.b p) L d hc
      have hd := cutL_le x (s.b p) hb d (by rw [hc])
      have hf := (cutL_lines x (s.b p) hb).1
      rw [hc] at hf
      exact JInv.now h1 (h.ok.ext hw L d _ (by omega) hf) (setAt_le h.b hd)
theorem JInv.fin {s : JS} (h : JInv N a s) (h1 : 1 ≤ N) (hn : 0 ≤ s.need) : JInv N a ((joinMach N a).fin s).1 := by
  cases h.waits with
  | dead k => omega
  | tells k => omega
  | reads p hp k hw ho ht =>
    have hsk : s.need.toNat = p := by rw [k]; rfl
    have hb := h.b p hp
    show JInv N a (comesJ N a (setAt s.b s.need.toNat []) (extJ s.t (oneV s.need.toNat (if s.b s.need.toNat = [] then [] else [s.b s.need.toNat])) (oneO s.need.toNat true)) []).1
    rw [hsk]
    refine JInv.now h1 (h.ok.ext hw _ [] _ (by split <;> simp [cW]; omega) (fun l hl => ?_)) (setAt_le h.b (Nat.zero_le _))
    split at hl
    · cases hl
    · rw [List.mem_singleton.1 hl]; exact hb
theorem JInv.more {s : JS} (h : JInv N a s) (h1 : 1 ≤ N) (hn : s.need = -2) : JInv N a ((joinMach N a).more s).1 := by
  show JInv N a (if s.told + 1 < (s.t.G 0).length * (s.t.G 1).length then (⟨s.need, s.b, s.t, s.told + 1⟩, [(0, nextPair a s ++ [10])], 0) else comesJ N a s.b (drops s.t) [(0, nextPair a s ++ [10])] : JS × Outs × Int).1
  cases h.waits with
  | dead k => omega
  | reads p hp k hw ho ht => omega
  | tells k hk ht =>
    split
    · rename_i hl
      exact ⟨.tells hn hk hl, h.ok, h.b⟩
    · exact JInv.now h1 ((h.ok.drop 0).drop 1) h.b
theorem nextPair_len {s : JS} (h : JInv N a s) (hn : s.need = -2) : (nextPair a s).length ≤ 130 := by
  cases h.waits with
  | dead k => omega
  | reads p hp k hw ho ht => omega
  | tells k hk ht =>
    have hH : 0 < (s.t.G 1).length := Nat.pos_of_ne_zero (fun e => by rw [e] at ht; omega)
    have i0 : s.told / (s.t.G 1).length < (s.t.G 0).length := (Nat.div_lt_iff_lt_mul hH).2 ht
    have i1 : s.told % (s.t.G 1).length < (s.t.G 1).length := Nat.mod_lt _ hH
    have := pairsJ_at (a := a) (List.getElem?_eq_getElem i0) (List.getElem?_eq_getElem i1)
    unfold nextPair
    rw [List.getD_eq_getElem?_getD, this]
    exact pair_len a _ _ ((h.ok 0 (by decide)).fine _ (List.mem_append_left _ (List.getElem_mem i0))) ((h.ok 1 (by decide)).fine _ (List.mem_append_left _ (List.getElem_mem i1)))
theorem join_kept (h1 : 1 ≤ N) (ins : List Strm) (cuts : List Int) : (drive (joinMach N a) ins cuts 100000 0 (start (joinMach N a) freshJ)).got.held ≤ ((128 * N + 192 : Nat) : Int) := by
  refine drive_inv32j (joinMach N a) (JInv N a) _ (fun s h => by have := h.held; show ((heldJ s : Nat) : Int) ≤ _; omega) (fun s x h hn hx => h.feed h1 hn x hx) (fun s h hn => h.fin h1 hn) (fun s h hn => h.more h1 hn) (fun s h => ?_) ins cuts 100000 0 (start (joinMach N a) freshJ) JInv.fresh rfl (by show (0 : Int) ≤ _; omega)
  show s.need = -1 ∨ s.need = -2 ∨ 0 ≤ s.need
  cases h.waits with
  | dead k => exact .inl k
  | reads p hp k hw ho ht => exact .inr (.inr (by omega))
  | tells k hk ht => exact .inr (.inl k)
end

end Go.Proofs.YtchepmikbnnnhaaDoor

namespace Go.Proofs.YtchepmikbnnnhaaDoor

def joinNeed (r : Lines × JT × Now) (f : Nat → Strm) : Int := match r.2.2 with
  | .waits p => if rdBad (f p) = true then -1 else p
  | _ => -1
def joinErr (r : Lines × JT × Now) (f : Nat → Strm) : Int := match r.2.2 with
  | .waits p => if rdBad (f p) = true then 20 else 0
  | .ends e => e
  | _ => 0
def joinFinF (N : Nat) (a : UInt8) (f : Nat → Strm) : Fin := ⟨fun j => if j = 0 then joinL (settleJ N a (startJ f)).1 else [], joinNeed (settleJ N a (startJ f)) f, joinErr (settleJ N a (startJ f)) f⟩
section
variable {N : Nat} {a : UInt8}
theorem startJ_ext {f f' : Nat → Strm} (h : ∀ j, RdMore (f j) (f' j)) : ∃ V o, startJ f' = extJ (startJ f) V o ∧ (∀ j, rdW (f' j) = rdW (f j) ++ V j) ∧ (∀ j, rdOv (f' j) = (rdOv (f j) || o j)) ∧ ∀ j, (startJ f).ov j = true → V j = [] := by
  have hW : ∀ j, rdW (f' j) = rdW (f j) ++ (rdW (f' j)).drop (rdW (f j)).length := fun j => by
    obtain ⟨V, hV⟩ := (h j).W
    rw [hV, List.drop_left]
  have hO : ∀ j, rdOv (f' j) = (rdOv (f j) || rdOv (f' j)) := fun j => by
    by_cases ho : rdOv (f j) = true
    · rw [((h j).ov ho).2, ho]; rfl
    · simp only [Bool.not_eq_true] at ho
      rw [ho]; rfl
  refine ⟨fun j => (rdW (f' j)).drop (rdW (f j)).length, fun j => rdOv (f' j), ?_, hW, hO, fun j ho => ?_⟩
  · unfold startJ extJ
    simp only [JT.mk.injEq, and_true]
    exact ⟨funext hW, funext hO⟩
  · simp only
    rw [((h j).ov ho).1]
    simp
/-- Where it waits, a round changes nothing. -/
theorem settle_round : ∀ (t : JT) (p : Nat), (settleJ N a t).2.2 = .waits p → roundJ N a (settleJ N a t).2.1 = ((settleJ N a t).2.1, .waits p) :=
  settleJ_ind (P := fun t r => ∀ p, r.2.2 = .waits p → roundJ N a r.2.1 = (r.2.1, .waits p)) (fun t t' p h p' hp => by
    injection hp with hp
    subst hp
    rcases round_ext (N := N) (a := a) t (fun _ => []) (fun _ => false) (fun _ _ => rfl) with ⟨p2, h1, h2⟩ | ⟨h1, -⟩
    · rw [extJ_nil, extJ_nil, h] at h2
      exact h2.symm
    · rw [h] at h1; exact absurd rfl (h1 p)) (fun t t' e h p hp => by cases hp) (fun t t' r h ih => ih) (fun t t' r h ih => ih)
theorem round_still {u : JT} {V : Nat → Lines} {o : Nat → Bool} {p : Nat} (h : roundJ N a u = (u, .waits p)) (hV : ∀ j, u.ov j = true → V j = []) (hp : V p = []) (ho : (u.ov p || o p) = u.ov p) : (roundJ N a (extJ u V o)).2 = .waits p := by
  have hs : sideR N a (extJ u V o) p = sideR N a u p := by
    show readG N a (u.ov p || o p) (u.W p ++ V p) (u.G p) = _
    rw [hp, ho, List.append_nil]
    rfl
  have hr := roundIs (N := N) (a := a) u
  rw [h] at hr
  generalize hx : (u, Now.waits p) = r at hr
  cases hr with
  | halt0 k0 =>
    injection hx with _ e2
    obtain ⟨rfl, hz⟩ := haltJ_waits e2.symm
    rw [round_halt0 (by rw [hs]; exact k0), hs]
    exact haltJ_zero 0 hz
  | halt1 k0 k1 =>
    injection hx with _ e2
    obtain ⟨rfl, hz⟩ := haltJ_waits e2.symm
    have e0 := sideR_ext (N := N) (a := a) (t := u) (V := V) (o := o) (hV 0) (by rw [k0]; decide)
    rw [round_halt1 (by rw [e0]; exact k0) (by rw [hs]; exact k1), hs]
    exact haltJ_zero 1 hz
  | less k0 k1 k2 => injection hx with _ e; cases e
  | more k0 k1 k2 k3 => injection hx with _ e; cases e
  | tells k0 k1 k2 k3 => injection hx with _ e; cases e
/-- With more of the inputs: more pairs; and where what is wanted is not there, none. -/
theorem joinFin_more {f f' : Nat → Strm} (h : ∀ j, RdMore (f j) (f' j)) :
    (∃ r, joinL (settleJ N a (startJ f')).1 = joinL (settleJ N a (startJ f)).1 ++ r) ∧
    (∀ p, (settleJ N a (startJ f)).2.2 = .waits p → rdW (f' p) = rdW (f p) → rdOv (f' p) = false → (settleJ N a (startJ f')).1 = (settleJ N a (startJ f)).1 ∧ (settleJ N a (startJ f')).2.2 = .waits p) ∧
    (∀ e, (settleJ N a (startJ f)).2.2 = .ends e → (settleJ N a (startJ f')).1 = (settleJ N a (startJ f)).1 ∧ (settleJ N a (startJ f')).2.2 = .ends e) := by
  obtain ⟨V, o, he, hW, hov, hV⟩ := startJ_ext h
  obtain ⟨h1, h2⟩ := settleJ_ext (N := N) (a := a) V o (startJ f) hV
  have hr := settle_round (N := N) (a := a) (startJ f)
  have ho := settle_ov (N := N) (a := a) (startJ f)
  have hst := settleJ_stops (N := N) (a := a) (startJ f)
  rw [he]
  generalize settleJ N a (startJ f) = R at *
  refine ⟨?_, fun p hp hw ho2 => ?_, fun e hee => ?_⟩
  · rcases hst with ⟨p, -, k, -⟩ | ⟨e, k⟩
    · rw [h1 p k]; exact ⟨_, joinL_append _ _⟩
    · rw [h2 e k]; exact ⟨[], by simp⟩
  · rw [h1 p hp]
    have hvp : V p = [] := by
      have := hW p
      rw [hw] at this
      simpa using this
    have hop := hov p
    rw [ho2] at hop
    have hovp : R.2.1.ov p = rdOv (f p) := by rw [ho]; rfl
    have hb := Bool.or_eq_false_iff.1 hop.symm
    have hw2 := round_still (hr p hp) (V := V) (o := o) (by rw [ho]; exact hV) hvp (by rw [hovp, hb.1, hb.2]; rfl)
    cases hx : roundJ N a (extJ R.2.1 V o) with
    | mk t' n =>
      rw [hx] at hw2
      simp only at hw2
      subst hw2
      rw [settleJ_waits hx]
      exact ⟨by simp, rfl⟩
  · rw [h2 e hee]
    exact ⟨rfl, rfl⟩
theorem joinFinF_grows {f f' : Nat → Strm} (h : ∀ j, RdMore (f j) (f' j)) : GrowsTo (joinFinF N a f) (joinFinF N a f') := by
  obtain ⟨⟨r, hr⟩, hw, he⟩ := joinFin_more (N := N) (a := a) h
  refine ⟨fun j => ?_, fun hn => ?_⟩
  · unfold joinFinF
    by_cases hj : j = 0
    · exact ⟨r, by simp only [if_pos hj]; exact hr⟩
    · exact ⟨[], by simp [hj]⟩
  · have hn' : joinNeed (settleJ N a (startJ f)) f = -1 := hn
    rcases settleJ_stops (N := N) (a := a) (startJ f) with ⟨p, -, k, -⟩ | ⟨e, k⟩
    · unfold joinNeed at hn'
      rw [k] at hn'
      simp only at hn'
      by_cases hb : rdBad (f p) = true
      · obtain ⟨b1, b2, b3⟩ := (h p).bad hb
        obtain ⟨e1, e2⟩ := hw p k b1 b2
        unfold joinFinF joinNeed joinErr
        simp only
        rw [e1, e2, k]
        simp only [if_pos hb, if_pos b3, and_self]
      · rw [if_neg hb] at hn'
        omega
    · obtain ⟨e1, e2⟩ := he e k
      unfold joinFinF joinNeed joinErr
      simp only
      rw [e1, e2, k]
      simp only [and_self]

/-! What is due. -/
inductive Due (N : Nat) (a : UInt8) (s : JS) (E : Lines) (R : Lines × JT × Now) : Prop
  | waits (p : Nat) (h : s.need = p) (hr : R = (E, s.t, .waits p))
  | tells (h : s.need = -2) (hr : R = (E ++ ((pairsJ a (s.t.G 0) (s.t.G 1)).drop s.told ++ (settleJ N a (drops s.t)).1), (settleJ N a (drops s.t)).2))
  | ends (h : s.need = -1) (h1 : R.1 = E) (h2 : R.2.2 = .ends 0)
theorem due_now {u : JT} {E : Lines} {R : Lines × JT × Now} (hR : R = (E ++ (settleJ N a u).1, (settleJ N a u).2)) (b : Nat → List UInt8) :
    ((nowJ b (restJ N a u)).2 = 0 ∧ Due N a (nowJ b (restJ N a u)).1 E R) ∨ ((nowJ b (restJ N a u)).2 ≠ 0 ∧ (nowJ b (restJ N a u)).1.need = -1 ∧ R.1 = E ∧ R.2.2 = .ends (nowJ b (restJ N a u)).2) := by
  have hs := settle_rest (N := N) (a := a) u
  rcases restJ_is (N := N) (a := a) u with ⟨p, hp, k1, k2, k3⟩ | ⟨e, k1, -⟩ | ⟨k1, k2, k3, k4⟩
  all_goals
    generalize restJ N a u = r at *
    obtain ⟨t', n⟩ := r
    simp only at k1
    subst k1
    simp only at hs
    rw [hs] at hR
  · exact .inl ⟨rfl, .waits p rfl (by rw [hR]; simp [nowJ])⟩
  · by_cases h0 : e = 0
    · subst h0
      exact .inl ⟨rfl, .ends rfl (by rw [hR]; simp) (by rw [hR])⟩
    · exact .inr ⟨h0, rfl, by rw [hR]; simp, by rw [hR]; rfl⟩
  · exact .inl ⟨rfl, .tells rfl (by rw [hR]; simp [nowJ])⟩
def len0 (t : JT) : Nat := (t.W 0).length + (t.G 0).length
theorem len0_round (t : JT) : len0 (roundJ N a t).1 ≤ len0 t := by
  have hr := roundIs (N := N) (a := a) t
  obtain ⟨g0, g1, w0, w1⟩ := both_G (N := N) (a := a) t
  have hl := sideR_len (N := N) (a := a) t 0
  have hb : len0 (readJ N a (readJ N a t 0) 1) ≤ len0 t := by unfold len0; rw [g0, w0]; omega
  have hd : ∀ u p, len0 (dropJ u p) ≤ len0 u := fun u p => by
    show (u.W 0).length + (setAt u.G p [] 0).length ≤ _
    unfold len0 setAt
    split
    · simp
    · exact Nat.le_refl _
  generalize roundJ N a t = r at hr
  cases hr with
  | halt0 k0 => show ((readJ N a t 0).W 0).length + ((readJ N a t 0).G 0).length ≤ len0 t; rw [(readJ_at t 0).1, (readJ_at t 0).2]; unfold len0; omega
  | halt1 k0 k1 => exact hb
  | less k0 k1 k2 => exact Nat.le_trans (hd _ _) hb
  | more k0 k1 k2 k3 => exact Nat.le_trans (hd _ _) hb
  | tells k0 k1 k2 k3 => exact hb
theorem len0_rest : ∀ t : JT, len0 (restJ N a t).1 ≤ len0 t :=
  restJ_ind (P := fun t r => len0 r.1 ≤ len0 t) (fun t t' n h _ => by have := len0_round (N := N) (a := a) t; rw [h] at this; exact this) (fun t t' r h ih => Nat.le_trans ih (by have := len0_round (N := N) (a := a) t; rw [h] at this; exact this))
/-- How many pairs can still come. -/
def potJ (N : Nat) (s : JS) : Nat := N * len0 s.t - s.told
theorem potJ_now (b : Nat → List UInt8) (u : JT) : potJ N (nowJ b (restJ N a u)).1 ≤ N * len0 u := by
  have := Nat.mul_le_mul_left N (len0_rest (N := N) (a := a) u)
  generalize restJ N a u = r at *
  obtain ⟨t', n⟩ := r
  unfold potJ
  cases n with
  | waits p => exact Nat.le_trans (Nat.sub_le _ _) this
  | ends e => show N * 0 - 0 ≤ _; omega
  | again => show N * 0 - 0 ≤ _; omega
  | tells => exact Nat.le_trans (Nat.sub_le _ _) this

variable {ins : List Strm}
structure JoinAt (N : Nat) (a : UInt8) (ins : List Strm) (x : DS JS) : Prop where
  err : x.got.err = 0
  need : x.got.need = x.s.need
  live : ∀ j, ∃ L d, cutL [] ((insF ins j).bytes.take (x.got.taken j)) = (L, some d) ∧ (x.told j = false → x.s.need = -1 ∨ x.s.b j = d)
  told : ∀ j, x.told j = true → x.got.taken j = (insF ins j).bytes.length ∧ (insF ins j).ended = true
  le : ∀ j, x.got.taken j ≤ (insF ins j).bytes.length
  inv : JInv N a x.s
  outs : ∃ E, x.got.outs = (fun j => if j = 0 then joinL E else []) ∧ Due N a x.s E (settleJ N a (startJ (seenF ins x.got.taken x.told)))
theorem JoinAt.more {x : DS JS} (hl : ∀ j, x.told j = true → x.got.taken j = (insF ins j).bytes.length ∧ (insF ins j).ended = true) (j : Nat) : RdMore (seenF ins x.got.taken x.told j) (insF ins j) := by
  cases ht : x.told j with
  | true =>
    obtain ⟨h1, h2⟩ := hl j ht
    have : seenF ins x.got.taken x.told j = insF ins j := by
      unfold seenF
      rw [h1, List.take_length, ht, ← h2]
    rw [this]
    exact RdMore.refl _
  | false =>
    have := rdMore_of (seenF ins x.got.taken x.told j) ((insF ins j).bytes.drop (x.got.taken j)) (insF ins j).ended (insF ins j).code (insF ins j).stage (insF ins j).id ht
    have he : (⟨(seenF ins x.got.taken x.told j).bytes ++ (insF ins j).bytes.drop (x.got.taken j), (insF ins j).ended, (insF ins j).code, (insF ins j).stage, (insF ins j).id⟩ : Strm) = insF ins j := by
      show (⟨(insF ins j).bytes.take (x.got.taken j) ++ (insF ins j).bytes.drop (x.got.taken j), _, _, _, _⟩ : Strm) = _
      rw [List.take_append_drop]
    rw [he] at this
    exact this
/-- The end: nothing more comes. -/
def Finished (N : Nat) (a : UInt8) (ins : List Strm) (x : DS JS) : Prop := x.got.outs = (joinFinF N a (insF ins)).outs ∧ x.got.need = (joinFinF N a (insF ins)).need ∧ x.got.err = (joinFinF N a (insF ins)).err
theorem finished_ends {x : DS JS} {E : Lines} {e : Int} (hl : ∀ j, x.told j = true → x.got.taken j = (insF ins j).bytes.length ∧ (insF ins j).ended = true) (ho : x.got.outs = (fun j => if j = 0 then joinL E else [])) (h1 : (settleJ N a (startJ (seenF ins x.got.taken x.told))).1 = E) (h2 : (settleJ N a (startJ (seenF ins x.got.taken x.told))).2.2 = .ends e) (hn : x.got.need = -1) (he : x.got.err = e) : Finished N a ins x := by
  obtain ⟨-, -, hE⟩ := joinFin_more (N := N) (a := a) (JoinAt.more hl)
  obtain ⟨e1, e2⟩ := hE e h2
  unfold Finished joinFinF joinNeed joinErr
  simp only
  rw [e1, e2, h1]
  exact ⟨ho, hn, he⟩
/-- What comes behind a call that comes to rest anew. -/
theorem JoinAt.next {x' : DS JS} {u : JT} {E : Lines} {b : Nat → List UInt8} (o : Outs) (hl : ∀ j, x'.told j = true → x'.got.taken j = (insF ins j).bytes.length ∧ (insF ins j).ended = true) (hle : ∀ j, x'.got.taken j ≤ (insF ins j).bytes.length)
    (hlive : ∀ j, ∃ L d, cutL [] ((insF ins j).bytes.take (x'.got.taken j)) = (L, some d) ∧ (x'.told j = false → b j = d)) (hR : settleJ N a (startJ (seenF ins x'.got.taken x'.told)) = (E ++ (settleJ N a u).1, (settleJ N a u).2))
    (ho : putOuts x'.got.outs o = fun j => if j = 0 then joinL E else []) (hi : JInv N a (comesJ N a b u o).1) :
    JoinAt N a ins (after (joinMach N a) x' (comesJ N a b u o)) ∨ ((after (joinMach N a) x' (comesJ N a b u o)).got.err ≠ 0 ∧ Finished N a ins (after (joinMach N a) x' (comesJ N a b u o))) := by
  rcases due_now hR b with ⟨h1, h2⟩ | ⟨h1, h2, h3, h4⟩
  · refine .inl ⟨h1, rfl, fun j => ?_, hl, hle, hi, E, ho, h2⟩
    obtain ⟨L, d, k1, k2⟩ := hlive j
    refine ⟨L, d, k1, fun ht => ?_⟩
    rcases restJ_is (N := N) (a := a) u with ⟨p, -, q, -⟩ | ⟨e, q, -⟩ | ⟨q, -⟩
    all_goals
      show (nowJ b (restJ N a u)).1.need = -1 ∨ (nowJ b (restJ N a u)).1.b j = d
      generalize restJ N a u = r at *
      obtain ⟨t', n⟩ := r
      simp only at q
      subst q
    · exact .inr (k2 ht)
    · exact .inl rfl
    · exact .inr (k2 ht)
  · exact .inr ⟨h1, finished_ends hl ho h3 h4 h2 rfl⟩

def leftK (N : Nat) (ins : List Strm) (x : DS JS) : Nat :=
  (N + 1) * ((insF ins 0).bytes.length - x.got.taken 0 + if x.told 0 = true then 0 else 1) + ((insF ins 1).bytes.length - x.got.taken 1 + if x.told 1 = true then 0 else 1) + potJ N x.s
theorem len0_ext (t : JT) (p : Nat) (L : Lines) (o : Nat → Bool) : len0 (extJ t (oneV p L) o) = len0 t + if p = 0 then L.length else 0 := by
  show (t.W 0 ++ oneV p L 0).length + (t.G 0).length = _
  unfold oneV len0
  by_cases h : p = 0
  · subst h; rw [if_pos rfl, if_pos rfl, List.length_append]; omega
  · rw [if_neg (fun e => h e.symm), if_neg h, List.append_nil]; rfl
/-- The measure falls. -/
theorem leftK_less {x y : DS JS} {p : Nat} (hp : p < 2) (k : Nat) (h1 : ∀ j, j ≠ p → y.got.taken j = x.got.taken j ∧ y.told j = x.told j)
    (h2 : ((insF ins p).bytes.length - y.got.taken p + if y.told p = true then 0 else 1) + (k + 1) ≤ ((insF ins p).bytes.length - x.got.taken p + if x.told p = true then 0 else 1)) (h3 : potJ N y.s ≤ potJ N x.s + if p = 0 then N * (k + 1) else 0) : leftK N ins y < leftK N ins x := by
  unfold leftK
  obtain rfl | rfl : p = 0 ∨ p = 1 := by omega
  · obtain ⟨a1, a2⟩ := h1 1 (by decide)
    rw [a1, a2]
    rw [if_pos rfl] at h3
    have := Nat.mul_le_mul_left (N + 1) h2
    rw [Nat.mul_add] at this
    have e1 : (N + 1) * (k + 1) = N * (k + 1) + (k + 1) := by rw [Nat.succ_mul]
    omega
  · obtain ⟨a1, a2⟩ := h1 0 (by decide)
    rw [a1, a2]
    rw [if_neg (by decide)] at h3
    omega
theorem join_drive_to (cuts : List Int) (h1 : 1 ≤ N) (hlen : ins.length = 2) : ∀ (f n : Nat) (x : DS JS), JoinAt N a ins x → leftK N ins x < f → Finished N a ins (drive (joinMach N a) ins cuts f n x) := by
  intro f
  induction f with
  | zero => intro n x _ h; omega
  | succ f ih =>
    intro n x h hf
    have hfin : ∀ (n : Nat) (y : DS JS), JoinAt N a ins y ∨ (y.got.err ≠ 0 ∧ Finished N a ins y) → leftK N ins y < f → Finished N a ins (drive (joinMach N a) ins cuts f n y) := fun n y hy hlt => by
      rcases hy with hy | ⟨he, hy⟩
      · exact ih n y hy hlt
      · rw [drive_stop _ _ _ _ _ _ (fun k => he k.1)]; exact hy
    obtain ⟨E, ho, hdue⟩ := h.outs
    have hmr := JoinAt.more h.told
    cases hdue with
    | ends k k1 k2 =>
      rw [drive_stop _ _ _ _ _ _ (fun q => q.2 (by rw [h.need, k]))]
      exact finished_ends h.told ho k1 k2 (by rw [h.need, k]) h.err
    | tells k hr =>
      have hne : x.got.need = -2 := by rw [h.need, k]
      rw [drive, if_pos ⟨h.err, by rw [hne]; decide⟩]
      have hs : step (joinMach N a) ins cuts n x = some (after (joinMach N a) x ((joinMach N a).more x.s)) := by rw [step, if_pos hne]
      rw [hs]
      simp only
      have hinv := h.inv.more h1 k
      have ht : x.s.told < (x.s.t.G 0).length * (x.s.t.G 1).length := by
        cases h.inv.waits with
        | dead q => omega
        | reads p hp q hw ho ht => omega
        | tells q hk ht => exact ht
      have hg1 := (h.inv.ok 1 (by decide)).most
      have hGN : (x.s.t.G 0).length * (x.s.t.G 1).length ≤ (x.s.t.G 0).length * N := Nat.mul_le_mul_left _ hg1
      rw [Nat.mul_comm _ N] at hGN
      have hpot : potJ N x.s = N * (x.s.t.W 0).length + N * (x.s.t.G 0).length - x.s.told := by unfold potJ len0; rw [Nat.mul_add]
      have hplen := pairsJ_len (a := a) (x.s.t.G 0) (x.s.t.G 1)
      have hpair : (pairsJ a (x.s.t.G 0) (x.s.t.G 1)).drop x.s.told = nextPair a x.s :: (pairsJ a (x.s.t.G 0) (x.s.t.G 1)).drop (x.s.told + 1) := by
        unfold nextPair
        rw [List.drop_eq_getElem_cons (by rw [hplen]; exact ht), List.getD_eq_getElem?_getD, List.getElem?_eq_getElem (by rw [hplen]; exact ht)]
        rfl
      have hput : putOuts x.got.outs [(0, nextPair a x.s ++ [10])] = fun j => if j = 0 then joinL (E ++ [nextPair a x.s]) else [] := by
        rw [ho]
        funext j
        by_cases hj : j = 0
        · simp [putOuts, hj, joinL_snoc]
        · simp [putOuts, hj]
      rw [hpair] at hr
      by_cases hl : x.s.told + 1 < (x.s.t.G 0).length * (x.s.t.G 1).length
      · have hm : (joinMach N a).more x.s = (⟨x.s.need, x.s.b, x.s.t, x.s.told + 1⟩, [(0, nextPair a x.s ++ [10])], 0) := if_pos hl
        rw [hm] at hinv ⊢
        refine ih (n + 1) _ ⟨rfl, rfl, fun j => ?_, h.told, h.le, hinv, E ++ [nextPair a x.s], hput, .tells k ?_⟩ ?_
        · obtain ⟨L, d, k1, k2⟩ := h.live j
          exact ⟨L, d, k1, k2⟩
        · show settleJ N a (startJ (seenF ins x.got.taken x.told)) = _
          rw [hr]
          simp
          exact ⟨rfl, rfl⟩
        · refine Nat.lt_of_lt_of_le ?_ (Nat.le_of_lt_succ hf)
          have : potJ N ⟨x.s.need, x.s.b, x.s.t, x.s.told + 1⟩ = N * (x.s.t.W 0).length + N * (x.s.t.G 0).length - (x.s.told + 1) := by unfold potJ len0; rw [Nat.mul_add]
          unfold leftK
          exact Nat.add_lt_add_left (show potJ N ⟨x.s.need, x.s.b, x.s.t, x.s.told + 1⟩ < potJ N x.s by rw [hpot, this]; omega) _
      · have hm : (joinMach N a).more x.s = comesJ N a x.s.b (drops x.s.t) [(0, nextPair a x.s ++ [10])] := if_neg hl
        rw [hm] at hinv ⊢
        have hnil : (pairsJ a (x.s.t.G 0) (x.s.t.G 1)).drop (x.s.told + 1) = [] := List.drop_eq_nil_of_le (by rw [hplen]; omega)
        rw [hnil] at hr
        refine hfin (n + 1) _ (JoinAt.next (E := E ++ [nextPair a x.s]) _ h.told h.le (fun j => ?_) ?_ hput hinv) ?_
        · obtain ⟨L, d, k1, k2⟩ := h.live j
          exact ⟨L, d, k1, fun q => (k2 q).resolve_left (by rw [k]; decide)⟩
        · rw [hr]
          simp
        · refine Nat.lt_of_lt_of_le ?_ (Nat.le_of_lt_succ hf)
          have hn := potJ_now (N := N) (a := a) x.s.b (drops x.s.t)
          have hd : len0 (drops x.s.t) = (x.s.t.W 0).length := by
            show (x.s.t.W 0).length + (setAt (dropJ x.s.t 0).G 1 [] 0).length = _
            rw [setAt_other _ _ (show 0 ≠ 1 by decide)]
            show (x.s.t.W 0).length + (setAt x.s.t.G 0 [] 0).length = _
            rw [setAt_self]
            rfl
          rw [hd] at hn
          unfold leftK
          exact Nat.add_lt_add_left (show potJ N (nowJ x.s.b (restJ N a (drops x.s.t))).1 < potJ N x.s by rw [hpot]; omega) _
    | waits p k hr =>
      have hst := settleJ_stops (N := N) (a := a) (startJ (seenF ins x.got.taken x.told))
      have hov := settle_ov (N := N) (a := a) (startJ (seenF ins x.got.taken x.told))
      rw [hr] at hst hov
      obtain ⟨p2, hp2, hw2, hwp, hop⟩ := hst.resolve_right (fun ⟨e, k⟩ => by cases k)
      injection hw2 with hw2
      subst hw2
      simp only at hov hwp hop
      have hov2 : rdOv (seenF ins x.got.taken x.told p) = false := by rw [hov] at hop; exact hop
      obtain ⟨L, d, hcut, hb⟩ := h.live p
      have htold : x.told p = false := by
        cases ht : x.told p with
        | false => rfl
        | true =>
          have := (rd_ended (i := seenF ins x.got.taken x.told p) hcut ht).2.1
          rw [hov2] at this
          cases this
      have hbi := (hb htold).resolve_left (by rw [k]; omega)
      have htl : x.s.told = 0 := by
        cases h.inv.waits with
        | dead q => omega
        | reads p hp q hw ho ht => exact ht
        | tells q => omega
      obtain ⟨k1, -, -⟩ := rd_open (i := seenF ins x.got.taken x.told p) hcut htold
      have hne : x.got.need = (p : Nat) := by rw [h.need, k]
      have hk : x.got.need.toNat = p := by rw [hne]; rfl
      have hsk : x.s.need.toNat = p := by rw [k]; rfl
      obtain ⟨inp, hinp⟩ : ∃ inp, ins[p]? = some inp := ⟨ins[p]'(by omega), List.getElem?_eq_getElem (by omega)⟩
      have hF := insF_at hinp
      have hle := h.le p
      obtain ⟨-, hwF, -⟩ := joinFin_more (N := N) (a := a) hmr
      have hwF := hwF p (by rw [hr])
      have hexp := (settleJ_ext (N := N) (a := a) · · (startJ (seenF ins x.got.taken x.told)))
      have hpotx : potJ N x.s = N * len0 x.s.t := by unfold potJ; rw [htl]; rfl
      rw [drive, if_pos ⟨h.err, by rw [hne]; omega⟩]
      rw [hF] at hcut hle
      by_cases hmore : x.got.taken p < inp.bytes.length
      · have hs : step (joinMach N a) ins cuts n x = some (after (joinMach N a) (took x p (toAt cuts x n p inp.bytes)) ((joinMach N a).feed x.s (chunkAt cuts x n p inp.bytes))) := by
          rw [step, if_neg (by rw [hne]; omega), hk, hinp]
          simp only
          rw [if_pos hmore]
        rw [hs]
        simp only
        have hc := cutAt_le cuts n
        have hq1 : x.got.taken p < toAt cuts x n p inp.bytes := by unfold toAt; omega
        have hq2 : toAt cuts x n p inp.bytes ≤ inp.bytes.length := by unfold toAt; omega
        have hcl : (chunkAt cuts x n p inp.bytes).length ≤ 32 := by
          unfold chunkAt toAt
          simp only [List.length_drop, List.length_take]
          omega
        have hcl2 : (chunkAt cuts x n p inp.bytes).length + x.got.taken p = toAt cuts x n p inp.bytes := by
          unfold chunkAt
          rw [List.length_drop, List.length_take]
          omega
        have hch : inp.bytes.take (toAt cuts x n p inp.bytes) = inp.bytes.take (x.got.taken p) ++ chunkAt cuts x n p inp.bytes := take_chunk _ _ _ (by omega)
        generalize toAt cuts x n p inp.bytes = q at hq1 hq2 hch hcl2 ⊢
        generalize chunkAt cuts x n p inp.bytes = ch at hcl hch hcl2 ⊢
        have happ := cutL_append (inp.bytes.take (x.got.taken p)) ch []
        rw [← hch, hcut] at happ
        simp only at happ
        have hinv := h.inv.feed h1 (by rw [k]; omega) ch hcl
        have hfeed : (joinMach N a).feed x.s ch = match cutL d ch with
            | (_, none) => (deadJ, [], 20)
            | (L, some d) => comesJ N a (setAt x.s.b p d) (extJ x.s.t (oneV p L) (fun _ => false)) [] := by
          show (match cutL (x.s.b x.s.need.toNat) ch with
            | (_, none) => (deadJ, [], 20)
            | (L, some d) => comesJ N a (setAt x.s.b x.s.need.toNat d) (extJ x.s.t (oneV x.s.need.toNat L) (fun _ => false)) []) = _
          rw [hsk, hbi]
        rcases hcc : cutL d ch with ⟨L2, _ | d2⟩
        · rw [hcc] at happ hfeed
          have hL2 : L2 = [] := by
            have := cutL_short ch d (by rw [hcc]) (by omega)
            rw [hcc] at this
            exact this
          subst hL2
          simp only at happ hfeed
          rw [List.append_nil] at happ
          have hall := cutL_append (inp.bytes.take q) (inp.bytes.drop q) []
          rw [List.take_append_drop, happ] at hall
          simp only at hall
          obtain ⟨b1, b2, b3⟩ := rd_bad hall
          rw [← hF] at b1 b2 b3
          obtain ⟨e1, e2⟩ := hwF (by rw [b1, k1]) b2
          rw [hfeed, drive_stop _ _ _ _ _ _ (fun k => by have : (20 : Int) = 0 := k.1; cases this)]
          unfold Finished joinFinF joinNeed joinErr
          simp only
          rw [e1, e2, hr]
          simp only [if_pos b3]
          exact ⟨ho, rfl, rfl⟩
        · rw [hcc] at happ hfeed
          simp only at happ hfeed
          have hone : (fun _ => false : Nat → Bool) = oneO p false := by funext j; unfold oneO; split <;> rfl
          rw [hone] at hfeed
          rw [hfeed] at hinv
          have hseen : ∀ j, j ≠ p → seenF ins (took x p q).got.taken x.told j = seenF ins x.got.taken x.told j := fun j hj => by
            unfold seenF took
            simp only
            rw [if_neg hj]
          have hself : (took x p q).got.taken p = q := if_pos rfl
          have hT : startJ (seenF ins (took x p q).got.taken x.told) = extJ (startJ (seenF ins x.got.taken x.told)) (oneV p L2) (oneO p false) := by
            unfold startJ extJ
            simp only [JT.mk.injEq, and_true]
            refine ⟨?_, ?_⟩
            · funext j
              by_cases hj : j = p
              · subst hj
                obtain ⟨c1, -, -⟩ := rd_open (i := seenF ins (took x j q).got.taken x.told j) (L := L ++ L2) (d := d2) (by show cutL [] ((insF ins j).bytes.take ((took x j q).got.taken j)) = _; rw [hself, hF]; exact happ) htold
                rw [c1, k1]
                unfold oneV
                rw [if_pos rfl]
              · rw [hseen j hj]
                unfold oneV
                rw [if_neg hj, List.append_nil]
            · funext j
              by_cases hj : j = p
              · subst hj
                obtain ⟨-, c2, -⟩ := rd_open (i := seenF ins (took x j q).got.taken x.told j) (L := L ++ L2) (d := d2) (by show cutL [] ((insF ins j).bytes.take ((took x j q).got.taken j)) = _; rw [hself, hF]; exact happ) htold
                rw [c2, hov2]
                unfold oneO
                rw [if_pos rfl]
                rfl
              · rw [hseen j hj]
                unfold oneO
                rw [if_neg hj, Bool.or_false]
          have hx2 := (hexp (oneV p L2) (oneO p false) (fun j hj => by
            unfold oneV
            by_cases hjp : j = p
            · subst hjp
              have : rdOv (seenF ins x.got.taken x.told j) = true := hj
              rw [hov2] at this
              cases this
            · rw [if_neg hjp])).1 p (by rw [hr])
          rw [hr] at hx2
          rw [hfeed]
          have hL2 : L2.length ≤ ch.length := by
            have := (cutL_lines ch d (cutL_le _ [] (by simp) d (by rw [hcut]))).2
            rw [hcc] at this
            exact this
          refine hfin (n + 1) _ (JoinAt.next (E := E) (x' := took x p q) [] (fun j hj => ?_) (fun j => ?_) (fun j => ?_) ?_ ho hinv) ?_
          · have hj' : x.told j = true := hj
            have hji : j ≠ p := fun e => by rw [e, htold] at hj'; cases hj'
            have ht : (took x p q).got.taken j = x.got.taken j := if_neg hji
            rw [ht]
            exact h.told j hj'
          · by_cases hj : j = p
            · subst hj
              rw [hself, hF]; exact hq2
            · have ht : (took x p q).got.taken j = x.got.taken j := if_neg hj
              rw [ht]; exact h.le j
          · by_cases hj : j = p
            · subst hj
              exact ⟨_, _, by rw [hself, hF]; exact happ, fun _ => setAt_self _ _ _⟩
            · have ht : (took x p q).got.taken j = x.got.taken j := if_neg hj
              rw [ht, setAt_other _ _ hj]
              obtain ⟨L3, d3, g1, g2⟩ := h.live j
              exact ⟨L3, d3, g1, fun hh => (g2 hh).resolve_left (by rw [k]; omega)⟩
          · show settleJ N a (startJ (seenF ins (took x p q).got.taken x.told)) = _
            rw [hT, hx2]
          · refine Nat.lt_of_lt_of_le (leftK_less (x := x) (p := p) hp2 (q - x.got.taken p - 1) (fun j hj => ⟨if_neg hj, rfl⟩) ?_ ?_) (Nat.le_of_lt_succ hf)
            · show ((insF ins p).bytes.length - (took x p q).got.taken p + if x.told p = true then 0 else 1) + _ ≤ _
              rw [hself, hF]
              omega
            · have hn := potJ_now (N := N) (a := a) (setAt x.s.b p d2) (extJ x.s.t (oneV p L2) (oneO p false))
              rw [len0_ext, Nat.mul_add] at hn
              rw [hpotx]
              refine Nat.le_trans hn ?_
              split
              · have : N * L2.length ≤ N * (q - x.got.taken p - 1 + 1) := Nat.mul_le_mul_left _ (by omega)
                omega
              · omega
      · have hfull : x.got.taken p = inp.bytes.length := by omega
        rw [hfull, List.take_length] at hcut
        by_cases hend : inp.ended = true
        · have hs : step (joinMach N a) ins cuts n x = some (after (joinMach N a) (tells x p) ((joinMach N a).fin x.s)) := by
            rw [step, if_neg (by rw [hne]; omega), hk, hinp]
            simp only
            rw [if_neg hmore, if_pos ⟨hend, htold⟩]
          rw [hs]
          simp only
          have hinv := h.inv.fin h1 (by rw [k]; omega)
          have hfn : (joinMach N a).fin x.s = comesJ N a (setAt x.s.b p []) (extJ x.s.t (oneV p (if d = [] then [] else [d])) (oneO p true)) [] := by
            show comesJ N a (setAt x.s.b x.s.need.toNat []) (extJ x.s.t (oneV x.s.need.toNat (if x.s.b x.s.need.toNat = [] then [] else [x.s.b x.s.need.toNat])) (oneO x.s.need.toNat true)) [] = _
            rw [hsk, hbi]
          rw [hfn] at hinv ⊢
          have hself : (tells x p).told p = true := if_pos rfl
          have hseen : ∀ j, j ≠ p → seenF ins x.got.taken (tells x p).told j = seenF ins x.got.taken x.told j := fun j hj => by
            unfold seenF tells
            simp only
            rw [if_neg hj]
          have hT : startJ (seenF ins x.got.taken (tells x p).told) = extJ (startJ (seenF ins x.got.taken x.told)) (oneV p (if d = [] then [] else [d])) (oneO p true) := by
            unfold startJ extJ
            simp only [JT.mk.injEq, and_true]
            have hE : ∀ j, j = p → rdW (seenF ins x.got.taken (tells x p).told j) = L ++ (if d = [] then [] else [d]) ∧ rdOv (seenF ins x.got.taken (tells x p).told j) = true := fun j hj => by
              subst hj
              obtain ⟨c1, c2, -⟩ := rd_ended (i := seenF ins x.got.taken (tells x j).told j) (L := L) (d := d) (by show cutL [] ((insF ins j).bytes.take (x.got.taken j)) = _; rw [hF, hfull, List.take_length]; exact hcut) hself
              exact ⟨c1, c2⟩
            refine ⟨?_, ?_⟩
            · funext j
              by_cases hj : j = p
              · rw [(hE j hj).1, hj, k1]
                unfold oneV
                rw [if_pos rfl]
              · rw [hseen j hj]
                unfold oneV
                rw [if_neg hj, List.append_nil]
            · funext j
              by_cases hj : j = p
              · rw [(hE j hj).2, hj]
                unfold oneO
                rw [if_pos rfl, Bool.or_true]
              · rw [hseen j hj]
                unfold oneO
                rw [if_neg hj, Bool.or_false]
          have hx2 := (hexp (oneV p (if d = [] then [] else [d])) (oneO p true) (fun j hj => by
            unfold oneV
            by_cases hjp : j = p
            · subst hjp
              have : rdOv (seenF ins x.got.taken x.told j) = true := hj
              rw [hov2] at this
              cases this
            · rw [if_neg hjp])).1 p (by rw [hr])
          rw [hr] at hx2
          refine hfin (n + 1) _ (JoinAt.next (E := E) (x' := tells x p) [] (fun j hj => ?_) (fun j => h.le j) (fun j => ?_) ?_ ho hinv) ?_
          · by_cases hji : j = p
            · subst hji
              rw [hF]
              exact ⟨hfull, hend⟩
            · have ht : (tells x p).told j = x.told j := if_neg hji
              rw [ht] at hj
              exact h.told j hj
          · by_cases hj : j = p
            · subst hj
              exact ⟨_, _, by show cutL [] ((insF ins j).bytes.take (x.got.taken j)) = _; rw [hF, hfull, List.take_length]; exact hcut, fun hh => by rw [hself] at hh; cases hh⟩
            · have ht : (tells x p).told j = x.told j := if_neg hj
              rw [ht, setAt_other _ _ hj]
              obtain ⟨L3, d3, g1, g2⟩ := h.live j
              exact ⟨L3, d3, g1, fun hh => (g2 hh).resolve_left (by rw [k]; omega)⟩
          · show settleJ N a (startJ (seenF ins x.got.taken (tells x p).told)) = _
            rw [hT, hx2]
          · refine Nat.lt_of_lt_of_le (leftK_less (x := x) (p := p) hp2 0 (fun j hj => ⟨rfl, if_neg hj⟩) ?_ ?_) (Nat.le_of_lt_succ hf)
            · show ((insF ins p).bytes.length - x.got.taken p + if (tells x p).told p = true then 0 else 1) + _ ≤ _
              rw [hself, htold]
              simp
            · have hn := potJ_now (N := N) (a := a) (setAt x.s.b p []) (extJ x.s.t (oneV p (if d = [] then [] else [d])) (oneO p true))
              rw [len0_ext, Nat.mul_add] at hn
              rw [hpotx]
              refine Nat.le_trans hn ?_
              split
              · have : N * (if d = [] then [] else [d] : Lines).length ≤ N * (0 + 1) := Nat.mul_le_mul_left _ (by split <;> simp)
                omega
              · omega
        · have hs : step (joinMach N a) ins cuts n x = none := by
            rw [step, if_neg (by rw [hne]; omega), hk, hinp]
            simp only
            rw [if_neg hmore, if_neg (fun k => hend k.1)]
          rw [hs]
          simp only
          have hend' : inp.ended = false := by simpa using hend
          obtain ⟨c1, c2, c3⟩ := rd_open hcut hend'
          rw [← hF] at c1 c2 c3
          obtain ⟨e1, e2⟩ := hwF (by rw [c1, k1]) c2
          unfold Finished joinFinF joinNeed joinErr
          simp only
          rw [e1, e2, hr]
          simp only [c3, Bool.false_eq_true, if_false]
          exact ⟨ho, hne, h.err⟩

theorem join_driven_to (cuts : List Int) (h1 : 1 ≤ N) (hN : N ≤ 14) (hlen : ins.length = 2) (hl : ∀ t ∈ ins, t.bytes.length ≤ 4000) : Finished N a ins (drive (joinMach N a) ins cuts 100000 0 (start (joinMach N a) freshJ)) := by
  have hstart : startJ (seenF ins (fun _ => 0) (fun _ => false)) = freshJ.t := by
    have : ∀ j, rdW (seenF ins (fun _ => 0) (fun _ => false) j) = [] ∧ rdOv (seenF ins (fun _ => 0) (fun _ => false) j) = false := fun j => by
      obtain ⟨c1, c2, -⟩ := rd_open (i := seenF ins (fun _ => 0) (fun _ => false) j) (L := []) (d := []) rfl rfl
      exact ⟨c1, c2⟩
    unfold startJ freshJ noJ
    simp only [JT.mk.injEq, and_true]
    exact ⟨funext fun j => (this j).1, funext fun j => (this j).2⟩
  have hs : roundJ N a noJ = (noJ, .waits 0) := by
    rw [round_halt0 (by show (0 : Int) ≠ 1; decide)]
    refine Prod.ext ?_ rfl
    show (⟨setAt (fun _ => []) 0 [], _, setAt (fun _ => []) 0 []⟩ : JT) = _
    have : ∀ i, setAt (fun _ => ([] : Lines)) i [] = fun _ => [] := fun i => setAt_same (fun _ => []) i
    rw [this]
    rfl
  refine join_drive_to cuts h1 hlen 100000 0 _ ⟨rfl, rfl, fun j => ⟨[], [], by show cutL [] ((insF ins j).bytes.take 0) = _; simp [cutL], fun _ => .inr rfl⟩, (fun j h => by cases h), fun j => Nat.zero_le _, JInv.fresh, [], ?_, .waits 0 rfl ?_⟩ ?_
  · show (fun _ => []) = _
    funext j
    simp [joinL]
  · rw [show (start (joinMach N a) freshJ).got.taken = fun _ => 0 from rfl, show (start (joinMach N a) freshJ).told = fun _ => false from rfl, hstart]
    exact settleJ_waits hs
  · have hj : ∀ j, j < 2 → (insF ins j).bytes.length ≤ 4000 := fun j hj => by
      have hi : ins[j]? = some (ins[j]'(by omega)) := List.getElem?_eq_getElem (by omega)
      rw [insF_at hi]
      exact hl _ (List.mem_of_getElem? hi)
    have a0 := hj 0 (by decide)
    have a1 := hj 1 (by decide)
    show (N + 1) * ((insF ins 0).bytes.length - 0 + if false = true then 0 else 1) + ((insF ins 1).bytes.length - 0 + if false = true then 0 else 1) + (N * 0 - 0) < 100000
    simp only [Bool.false_eq_true, if_false, Nat.sub_zero]
    have : (N + 1) * ((insF ins 0).bytes.length + 1) ≤ 15 * 4001 := Nat.mul_le_mul (by omega) (by omega)
    omega
end

end Go.Proofs.YtchepmikbnnnhaaDoor
