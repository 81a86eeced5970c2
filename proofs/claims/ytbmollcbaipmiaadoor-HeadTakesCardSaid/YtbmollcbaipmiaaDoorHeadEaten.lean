/- Plainly: how much head takes, byte by byte. -/
import Derived.Test.YtbmollcbaipmiaaDoorHeadFace
import Derived.Test.YtbmollcbaipmiaaDoorDenote
namespace Go.Proofs.YtbmollcbaipmiaaDoor

section
variable {U : Type} (tell : Teller U)
/-- How many bytes are taken, one by one. -/
def eaten : List UInt8 → LS U → Nat
  | [], _ => 0
  | c :: r, s => if s.live = false then 0 else 1 + eaten r (feedB tell [c] s).1
theorem eaten_dead (x : List UInt8) (s : LS U) (h : s.live = false) : eaten tell x s = 0 := by
  cases x with
  | nil => rfl
  | cons c r => rw [eaten, if_pos h]
theorem drive_eaten (i : Strm) : ∀ (f n : Nat) (x : DS (LS U)), x.got.need = needOf x.s → x.got.err = 0 → x.got.taken 0 ≤ i.bytes.length → x.told 0 = false → i.bytes.length - x.got.taken 0 + 2 ≤ f →
    (drive (linesM tell) [i] [0] f n x).got.taken 0 = x.got.taken 0 + eaten tell (i.bytes.drop (x.got.taken 0)) x.s := by
  intro f
  induction f with
  | zero => intro n x _ _ _ _ h; omega
  | succ f ih =>
    intro n x hn he ht ho hf
    by_cases hl : x.s.live = true
    · have hn0 : x.got.need = 0 := by rw [hn, needOf, if_pos hl]
      have hk : x.got.need.toNat = 0 := by rw [hn0]; rfl
      rw [drive, if_pos ⟨he, by rw [hn0]; decide⟩]
      by_cases hlt : x.got.taken 0 < i.bytes.length
      · have hs : step (linesM tell) [i] [0] n x = some (after (linesM tell) (took x 0 (toAt [0] x n 0 i.bytes)) ((linesM tell).feed x.s (chunkAt [0] x n 0 i.bytes))) := by
          rw [step, if_neg (by rw [hn0]; decide), hk]
          simp only [List.getElem?_cons_zero]
          rw [if_pos hlt]
        rw [hs]
        simp only
        have hc : cutAt [0] n = 1 := by simp [cutAt, Nat.mod_one]
        have hq : toAt [0] x n 0 i.bytes = x.got.taken 0 + 1 := by unfold toAt; omega
        obtain ⟨c, hcx⟩ : ∃ c, i.bytes[x.got.taken 0]? = some c := ⟨_, List.getElem?_eq_getElem hlt⟩
        have hch : chunkAt [0] x n 0 i.bytes = [c] := by
          unfold chunkAt
          rw [hq]
          rw [take_snoc hcx, List.drop_left' (by simp; omega)]
        have hd : i.bytes.drop (x.got.taken 0) = c :: i.bytes.drop (x.got.taken 0 + 1) := drop_at' hcx
        rw [hq, hch, hd, eaten, if_neg (by simp [hl])]
        have hy1 : (after (linesM tell) (took x 0 (x.got.taken 0 + 1)) ((linesM tell).feed x.s [c])).s = (feedB tell [c] x.s).1 := rfl
        have hy3 : (after (linesM tell) (took x 0 (x.got.taken 0 + 1)) ((linesM tell).feed x.s [c])).got.err = (feedB tell [c] x.s).2.2 := rfl
        have hy4 : (after (linesM tell) (took x 0 (x.got.taken 0 + 1)) ((linesM tell).feed x.s [c])).got.need = needOf (feedB tell [c] x.s).1 := rfl
        have hy5 : (after (linesM tell) (took x 0 (x.got.taken 0 + 1)) ((linesM tell).feed x.s [c])).got.taken 0 = x.got.taken 0 + 1 := rfl
        have hy6 : (after (linesM tell) (took x 0 (x.got.taken 0 + 1)) ((linesM tell).feed x.s [c])).told 0 = x.told 0 := rfl
        by_cases he0 : (feedB tell [c] x.s).2.2 = 0
        · have := ih (n + 1) (after (linesM tell) (took x 0 (x.got.taken 0 + 1)) ((linesM tell).feed x.s [c])) (by rw [hy4, hy1]) (by rw [hy3, he0]) (by rw [hy5]; omega) (by rw [hy6, ho]) (by rw [hy5]; omega)
          rw [hy1, hy5] at this
          rw [this]
          omega
        · have hdd : (feedB tell [c] x.s).1.live = false := (feedB_err tell [c] x.s).resolve_left he0
          rw [drive_stop _ _ _ _ _ _ (by rw [hy3]; exact fun h => he0 h.1), hy5, eaten_dead tell _ _ hdd]
      · have hd : i.bytes.drop (x.got.taken 0) = [] := List.drop_of_length_le (by omega)
        rw [hd, eaten]
        by_cases hend : i.ended = true
        · have hs : step (linesM tell) [i] [0] n x = some (after (linesM tell) (tells x 0) ((linesM tell).fin x.s)) := by
            rw [step, if_neg (by rw [hn0]; decide), hk]
            simp only [List.getElem?_cons_zero]
            rw [if_neg hlt, if_pos ⟨hend, ho⟩]
          rw [hs]
          simp only
          have hdead : (endB tell x.s).1.live = false := by unfold endB; split <;> rfl
          have hy4 : (after (linesM tell) (tells x 0) ((linesM tell).fin x.s)).got.need = needOf (endB tell x.s).1 := rfl
          rw [drive_stop _ _ _ _ _ _ (by rw [hy4, needOf, hdead]; simp)]
          rfl
        · have hs : step (linesM tell) [i] [0] n x = none := by
            rw [step, if_neg (by rw [hn0]; decide), hk]
            simp only [List.getElem?_cons_zero]
            rw [if_neg hlt, if_neg (by simp [hend])]
          rw [hs]
          rfl
    · have hd : x.s.live = false := by simpa using hl
      rw [drive_stop _ _ _ _ _ _ (by rw [hn, needOf, if_neg hl]; simp), eaten_dead tell _ _ hd]
      rfl
end

theorem eaten_head : ∀ (x b : List UInt8) (u : Nat), 1 ≤ u → (cutL b x).2 ≠ none →
    (u ≤ (cutL b x).1.length → eaten headT x ⟨true, false, b, u⟩ + b.length = (joinL ((cutL b x).1.take u)).length) ∧ ((cutL b x).1.length < u → eaten headT x ⟨true, false, b, u⟩ = x.length)
  | [], b, u, h, _ => by
    simp [cutL, eaten]
    omega
  | c :: r, b, u, h, hn => by
    by_cases hc : c = 10
    · subst hc
      rw [cutL_end] at hn ⊢
      rw [eaten, if_neg (by simp), feedB_end headT [] ⟨true, false, b, u⟩ rfl]
      simp only [headT, feedB]
      obtain ⟨v, rfl⟩ : ∃ v, u = v + 1 := ⟨u - 1, by omega⟩
      simp only [Nat.add_sub_cancel]
      by_cases h1 : v = 0
      · subst h1
        rw [eaten_dead headT _ _ (by simp)]
        simp [joinL]
        omega
      · obtain ⟨i1, i2⟩ := eaten_head r [] v (by omega) hn
        rw [decide_eq_false h1]
        simp only [Bool.not_false, List.length_cons, List.take_succ_cons]
        refine ⟨fun hu => ?_, fun hu => ?_⟩
        · have := i1 (by omega)
          simp only [joinL, List.flatMap_cons, List.length_append, List.length_cons, List.length_nil] at this ⊢
          omega
        · have := i2 (by omega)
          omega
    · by_cases h64 : b.length = 64
      · rw [cutL_long b r c hc h64] at hn
        exact absurd rfl hn
      · rw [cutL_put b r c hc h64] at hn ⊢
        rw [eaten, if_neg (by simp), feedB_put headT c [] ⟨true, false, b, u⟩ rfl hc h64]
        simp only [feedB]
        obtain ⟨i1, i2⟩ := eaten_head r (b ++ [c]) u h hn
        refine ⟨fun hu => ?_, fun hu => ?_⟩
        · have := i1 hu
          simp only [List.length_append, List.length_cons, List.length_nil] at this
          omega
        · have := i2 hu
          simp only [List.length_cons]
          omega

theorem joinL_cons (b : List UInt8) (L : Lines) : joinL (b :: L) = b ++ (10 :: joinL L) := by simp [joinL]
theorem cutL_back : ∀ (r b : List UInt8), (∀ d, (cutL b r).2 = some d → joinL (cutL b r).1 ++ d = b ++ r) ∧ ((cutL b r).2 = none → ∃ t, joinL (cutL b r).1 ++ t = b ++ r ∧ 64 < t.length)
  | [], b => ⟨fun d hd => by simp [cutL] at hd; simp [cutL, joinL, hd], fun h => by simp [cutL] at h⟩
  | c :: r, b => by
    by_cases hc : c = 10
    · subst hc
      rw [cutL_end]
      have ih := cutL_back r []
      refine ⟨fun d hd => ?_, fun h => ?_⟩
      · have := ih.1 d hd
        rw [joinL_cons, List.append_assoc, List.cons_append, this]
        simp
      · obtain ⟨t, h1, h2⟩ := ih.2 h
        refine ⟨t, ?_, h2⟩
        rw [joinL_cons, List.append_assoc, List.cons_append, h1]
        simp
    · by_cases hl : b.length = 64
      · rw [cutL_long b r c hc hl]
        refine ⟨(fun d hd => by cases hd), fun _ => ⟨b ++ c :: r, by simp [joinL], by simp; omega⟩⟩
      · rw [cutL_put b r c hc hl]
        have ih := cutL_back r (b ++ [c])
        simpa using ih
theorem joinL_app (L M : Lines) : joinL (L ++ M) = joinL L ++ joinL M := by simp [joinL]
/-- What head takes of a whole input, byte by byte. -/
theorem head_takes (N : Nat) (x : List UInt8) (hx : x.length ≤ 4000) (hall : (readL x true (0, 0, 0)).2.1 = true) :
    (drive (headF N [] []) [⟨x, true, 0, 0, 0⟩] [0] 100000 0 (start (headF N [] []) (headI N [] []))).got.taken 0 = if N ≤ (readL x true (0, 0, 0)).1.length then min (joinL ((readL x true (0, 0, 0)).1.take N)).length x.length else x.length := by
  have h := drive_eaten headT ⟨x, true, 0, 0, 0⟩ 100000 0 (start headMach (headS N)) rfl rfl (Nat.zero_le _) rfl (by show x.length - 0 + 2 ≤ 100000; omega)
  have h0 : (start headMach (headS N)).got.taken 0 = 0 := rfl
  have hs0 : (start headMach (headS N)).s = headS N := rfl
  rw [h0, hs0, Nat.zero_add, List.drop_zero] at h
  have hd : (drive (headF N [] []) [⟨x, true, 0, 0, 0⟩] [0] 100000 0 (start (headF N [] []) (headI N [] []))).got.taken 0 = eaten headT x (headS N) := h
  rw [hd]
  by_cases hN : N = 0
  · subst hN
    rw [eaten_dead headT _ _ (by simp [headS])]
    simp [joinL]
  · have hs : headS N = ⟨true, false, [], N⟩ := by simp [headS, hN]
    rw [hs]
    have hb := (cutL_back x []).1
    unfold readL at hall ⊢
    rcases hc : cutL [] x with ⟨L, _ | d⟩
    · rw [hc] at hall
      simp at hall
    · obtain ⟨e1, e2⟩ := eaten_head x [] N (by omega) (by rw [hc]; simp)
      rw [hc] at e1 e2 hb
      have hbk := hb d rfl
      simp only [List.nil_append] at hbk
      have hlen : x.length = (joinL L).length + d.length := by rw [← hbk]; simp
      simp only [if_true]
      simp only [List.length_nil, Nat.add_zero] at e1 e2
      by_cases hle : N ≤ L.length
      · rw [e1 hle, if_pos (by simp; omega), List.take_append_of_le_length hle]
        have := joinL_le L N
        omega
      · rw [e2 (by omega)]
        by_cases hdn : d = []
        · rw [if_pos hdn, List.append_nil, if_neg (by omega)]
        · rw [if_neg hdn]
          by_cases h2 : N ≤ (L ++ [d]).length
          · rw [if_pos h2, List.take_of_length_le (by simp at h2 ⊢; omega), joinL_app]
            have h3 : (joinL [d]).length = d.length + 1 := by simp [joinL]
            rw [List.length_append, h3]
            omega
          · rw [if_neg h2]
/-- What comes of a whole input, whatever the chunks. -/
theorem head_told (N : Nat) (x : List UInt8) (cuts : List Int) (hN : headOk N [] []) (hx : x.length ≤ 4000) (hall : (readL x true (0, 0, 0)).2.1 = true) (D : DS (LS Nat)) (hD : D = drive (headF N [] []) [⟨x, true, 0, 0, 0⟩] cuts 100000 0 (start (headF N [] []) (headI N [] []))) :
    D.got.outs 0 = joinL ((readL x true (0, 0, 0)).1.take N) ∧ (decide (D.got.err = 0) && decide (D.got.need = -1)) = true := by
  obtain ⟨d1, d2, d3⟩ := head_drive N [] [] ⟨x, true, 0, 0, 0⟩ cuts hN hx
  rw [← hD] at d1 d2 d3
  obtain ⟨f1, f2, -⟩ := head_final N x true (0, 0, 0)
  obtain ⟨q1, q2⟩ := f2 (.inl hall)
  have ho : (headFin N [] [] ⟨x, true, 0, 0, 0⟩).outs = putOuts (fun _ => []) ((((readL x true (0, 0, 0)).1.take N)).map fun l => (0, l ++ [10])) := by
    show putOuts (fun _ => []) (finalB headT (headS N) x true).2.1 = _
    rw [f1]
    rfl
  obtain ⟨p0, -⟩ := putOuts_lines ((readL x true (0, 0, 0)).1.take N) (fun _ => [])
  rw [← ho] at p0
  have hn : (headFin N [] [] ⟨x, true, 0, 0, 0⟩).need = needOf (finalB headT (headS N) x true).1 := rfl
  have he : (headFin N [] [] ⟨x, true, 0, 0, 0⟩).err = (finalB headT (headS N) x true).2.2 := rfl
  refine ⟨by rw [d1, p0]; rfl, ?_⟩
  rw [d2, d3, hn, he, q2, needOf, q1]
  rfl

end Go.Proofs.YtbmollcbaipmiaaDoor
