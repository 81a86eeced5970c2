/- What the document's ring does: New, Chunk, Grow, Bytes. -/
import Derived.Test.YtgipgeeiibkjjaaOrderparts
namespace Go.Proofs.Ytgipgeeiibkjjaa
open Go.RowKit

/-- The document's ring, as a value. -/
abbrev refV (c : Int) (v : Value) : Value := .agg #[.int .i64 c, v]
/-- The value is a list of these texts. -/
def IsTexts (W : World) (v : Value) (L : Chunks) : Prop := W.ownsRow 0 9 1 v L.length (L.map strV)
theorem IsTexts.below {W W' : World} {v : Value} {L : Chunks} (h : IsTexts W v L) (hb : Below W.heap.size W W') : IsTexts W' v L := owns_below h hb
theorem IsTexts.slice {W : World} {v : Value} {L : Chunks} (h : IsTexts W v L) : (∃ g cap, v = .slice (some ⟨g, 0, none⟩) L.length cap ∧ L.length ≤ cap ∧ ∀ j b, L[j]? = some b → W.cell? ⟨g, j, none⟩ = some (strV b)) ∨ (v = .slice none 0 0 ∧ L = []) := by
  have h' := h
  rcases h.2 with ⟨rfl, h0⟩ | ⟨g, cap, cur, rfl, _, _, hle, _⟩
  · exact .inr ⟨rfl, List.eq_nil_of_length_eq_zero h0⟩
  · refine .inl ⟨g, cap, rfl, hle, fun j b hb => ?_⟩
    have := World.ownsRow.cells h' (g := g) rfl j (strV b) (by simp [hb])
    rwa [Addr.add_mid, Nat.zero_add] at this
theorem isTexts_nil (W : World) : IsTexts W (.slice none 0 0) [] := World.ownsRow_nil W 0 9 1

set_option maxRecDepth 100000 in
set_option maxHeartbeats 400000 in
theorem refNew_ok (c : Nat) (w : World) (h1 : 1 ≤ c) (h8 : c ≤ 8) :
    Calls Try.prog 9 #[.int .i64 c] w fun e w' => e = .returned (.tuple #[refV c (.slice none 0 0), .int .i64 0]) ∧ Below w.heap.size w w' := by
  have g1 : ¬ ((c : Int) < 1) := by omega
  have g2 : ¬ ((8 : Int) < c) := by omega
  go_enter Try.func9, Try.ntmps9
  go_wp2
  exact bodyPost_ret (v := .tuple #[refV c (.slice none 0 0), .int .i64 0]) (by simp [results, Try.results9, go_sem]) rfl ⟨rfl, (Below.refl _ _).alloc (Nat.le_refl _) _⟩

set_option maxRecDepth 100000 in
set_option maxHeartbeats 400000 in
theorem refNew_no (c : Int) (w : World) (h : c < 1 ∨ 8 < c) :
    Calls Try.prog 9 #[.int .i64 c] w fun e w' => e = .returned (.tuple #[refV 0 (.slice none 0 0), .int .i64 16]) ∧ Below w.heap.size w w' := by
  by_cases g1 : c < 1
  · go_enter Try.func9, Try.ntmps9
    go_wp2
    exact bodyPost_ret (v := .tuple #[refV 0 (.slice none 0 0), .int .i64 16]) (by simp [results, Try.results9, go_sem]) rfl ⟨rfl, (Below.refl _ _).alloc (Nat.le_refl _) _⟩
  · have g2 : 8 < c := by omega
    clear h
    go_enter Try.func9, Try.ntmps9
    go_wp2
    exact bodyPost_ret (v := .tuple #[refV 0 (.slice none 0 0), .int .i64 16]) (by simp [results, Try.results9, go_sem]) rfl ⟨rfl, (Below.refl _ _).alloc (Nat.le_refl _) _⟩

/-- Is it a chunk? -/
def isChunk (n : Nat) : Bool := decide (1 ≤ n) && decide (n ≤ 32)

set_option maxRecDepth 100000 in
set_option maxHeartbeats 400000 in
theorem refChunk (a : Option Addr) (n cap : Nat) (w : World) : Calls Try.prog 29 #[.slice a n cap] w fun e w' => e = .returned (.bool (isChunk n)) ∧ w = w' := by
  unfold isChunk
  by_cases h1 : 1 ≤ n
  · have g1 : (1 : Int) ≤ n := by omega
    by_cases h2 : n ≤ 32
    · have g2 : (n : Int) ≤ 32 := by omega
      simp only [h1, h2, decide_true, Bool.and_self]
      go_enter Try.func29, Try.ntmps29
      go_wp2
      go_ret
      exact ⟨rfl, rfl⟩
    · have g2 : ¬ (n : Int) ≤ 32 := by omega
      simp only [h1, h2, decide_true, decide_false, Bool.and_false]
      clear h2
      go_enter Try.func29, Try.ntmps29
      go_wp2
      go_ret
      exact ⟨rfl, rfl⟩
  · have g1 : ¬ (1 : Int) ≤ n := by omega
    simp only [h1, decide_false, Bool.false_and]
    clear h1
    go_enter Try.func29, Try.ntmps29
    go_wp2
    go_ret
    exact ⟨rfl, rfl⟩

def growC (c : Nat) : Nat := if c = 0 then c else if c = 8 then c else c + 1
def growE (c : Nat) : Nat := if c = 0 then 1 else if c = 8 then 2 else 0

set_option maxRecDepth 100000 in
set_option maxHeartbeats 400000 in
theorem refGrow (c : Nat) (a : Option Addr) (n cap : Nat) (w : World) (h8 : c ≤ 8) :
    Calls Try.prog 25 #[refV c (.slice a n cap)] w fun e w' => e = .returned (.tuple #[refV (growC c) (.slice a n cap), .int .i64 (growE c)]) ∧ Below w.heap.size w w' := by
  unfold growC growE
  by_cases c0 : c = 0
  · have t0 : ((c : Int) == 0) = true := by simp [c0]
    rw [if_pos c0, if_pos c0]
    clear c0
    go_enter Try.func25, Try.ntmps25
    go_wp2
    exact bodyPost_ret (v := .tuple #[refV c (.slice a n cap), .int .i64 1]) (by simp [results, Try.results25, go_sem]) rfl ⟨rfl, ((Below.refl _ _).alloc (Nat.le_refl _) _).alloc (by simp) _⟩
  · have t0 : ((c : Int) == 0) = false := by simp [c0]
    by_cases c8 : c = 8
    · have g8 : (8 : Int) ≤ (c : Int) := by omega
      rw [if_neg c0, if_neg c0, if_pos c8, if_pos c8]
      clear c0 c8
      go_enter Try.func25, Try.ntmps25
      go_wp2
      exact bodyPost_ret (v := .tuple #[refV c (.slice a n cap), .int .i64 2]) (by simp [results, Try.results25, go_sem]) rfl ⟨rfl, ((Below.refl _ _).alloc (Nat.le_refl _) _).alloc (by simp) _⟩
    · have g8 : ¬ (8 : Int) ≤ (c : Int) := by omega
      rw [if_neg c0, if_neg c0, if_neg c8, if_neg c8]
      clear c0 c8
      go_enter Try.func25, Try.ntmps25
      go_wp2
      exact bodyPost_ret (v := .tuple #[refV (c + 1) (.slice a n cap), .int .i64 0]) (by simp [results, Try.results25, go_sem]) rfl ⟨rfl, ((Below.refl _ _).alloc (Nat.le_refl _) _).alloc (by simp) _⟩

def sizeOfL (L : Chunks) : Nat := (L.map List.length).sum
theorem sizeOfL_snoc (L : Chunks) (b : List UInt8) : sizeOfL (L ++ [b]) = sizeOfL L + b.length := by simp [sizeOfL]
theorem sizeOfL_take {L : Chunks} {k : Nat} {b : List UInt8} (h : L[k]? = some b) : sizeOfL (L.take (k + 1)) = sizeOfL (L.take k) + b.length := by
  obtain ⟨hk, rfl⟩ := List.getElem?_eq_some_iff.1 h
  rw [List.take_succ_eq_append_getElem hk, sizeOfL_snoc]
theorem sizeOfL_le {L : Chunks} (h : ∀ b ∈ L, b.length ≤ 32) : ∀ k, k ≤ L.length → sizeOfL (L.take k) ≤ 32 * k
  | 0, _ => by simp [sizeOfL]
  | k + 1, hk => by
    have hb : L[k]? = some L[k] := by simp
    rw [sizeOfL_take hb]
    have := sizeOfL_le h k (by omega)
    have := h L[k] (List.getElem_mem _)
    omega

set_option maxRecDepth 100000 in
set_option maxHeartbeats 400000 in
theorem refBytes (c : Nat) (v : Value) (L : Chunks) (w : World) (hG : Good c L) (hT : IsTexts w v L) :
    Calls Try.prog 22 #[refV c v] w fun e w' => e = .returned (.int .i64 (sizeOfL L)) ∧ Below w.heap.size w w' := by
  have hl8 : L.length ≤ 8 := Nat.le_trans hG.len hG.cap
  have hT2 : ∀ o, IsTexts (w.alloc o) v L := fun o => hT.below ((Below.refl _ _).alloc (Nat.le_refl _) _)
  have HT := Lib.hid hT2
  have hv : ∃ a cap, v = .slice a L.length cap := by
    rcases hT.slice with ⟨g, cap, rfl, _⟩ | ⟨rfl, rfl⟩
    · exact ⟨_, _, rfl⟩
    · exact ⟨_, _, rfl⟩
  obtain ⟨a, cap, rfl⟩ := hv
  clear hT hT2
  go_enter Try.func22, Try.ntmps22
  go_wp2
  go_loop [3, 4] (fun n i => ∃ k : Nat, k ≤ L.length ∧ i = .int .i64 k ∧ n = .int .i64 (sizeOfL (L.take k))) (fun _ i => L.length - (intOf i).toNat)
  case atStart => exact ⟨0, Nat.zero_le _, rfl, by simp [sizeOfL]⟩
  case round =>
    obtain ⟨k, hk, rfl, rfl⟩ := hrel
    have hsz := sizeOfL_le hG.le k hk
    by_cases hlt : k < L.length
    · have hb : L[k]? = some L[k] := by simp
      have hb32 := hG.le _ (List.mem_of_getElem? hb)
      have hs := sizeOfL_take hb
      rcases (HT.out (.cells #[.int .i64 c, .slice a L.length cap] 36)).slice with ⟨g, cap', e, _, hc⟩ | ⟨_, rfl⟩
      · cases e
        have hck := hc k _ hb
        obtain ⟨b, hbb⟩ : ∃ b, b = L[k] := ⟨_, rfl⟩
        rw [← hbb] at hb32 hs hck
        obtain ⟨S, hS⟩ : ∃ S : ByteArray, S = ⟨b.toArray⟩ := ⟨_, rfl⟩
        rw [strV, ← hS] at hck
        have hSz : S.size = b.length := by rw [hS]; simp [ByteArray.size]
        obtain ⟨T, hT⟩ : ∃ T, T = sizeOfL (L.take k) := ⟨_, rfl⟩
        rw [← hT] at hs hsz ⊢
        have HS := Lib.hid hs
        have HSZ := Lib.hid hSz
        have hS32 : S.size ≤ 32 := by omega
        have g1 : (0 : Int) ≤ (k : Int) := by omega
        have g2 : (k : Int) < (L.length : Int) := by omega
        clear hs hS hT hSz hb hc hbb
        go_wp2
        go_round
        case rel => exact ⟨k + 1, by omega, by go_num, by rw [HS.out, ← HSZ.out]; go_num⟩
        case measure => simp [intOf]; omega
      · simp at hlt
    · obtain rfl : k = L.length := by omega
      go_wp2
      go_ret
      exact ⟨rfl, (Below.refl _ _).alloc (Nat.le_refl _) _⟩

end Go.Proofs.Ytgipgeeiibkjjaa
