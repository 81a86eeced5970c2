/- A disk: what Live does: the shelf's contracts of maps.Keys, slices.Sorted and slices.Sort, laid at this cut. -/
import Derived.Test.YtpgigpajpcianaaGreatDoorZFsA
import Derived.Shelf.SlIterI.Nil
import Derived.Shelf.SortM.Plain
import Derived.Shelf.SortM.SortNone
namespace Go.Proofs.YtpgigpajpcianaaGreatDoor
open Go.Shelf Go.RowKit Go.Maps Go.Sort

def keysA_ren : Go.Shelf.Ren := ⟨fun | 7 => 46 | 10 => 70 | n => n, fun | 0 => 0 | 3 => 107 | 4 => 4 | 23 => 86 | 26 => 3 | 27 => 104 | 28 => 105 | 33 => 133 | n => n, fun n => n⟩
theorem keysA : Go.Proofs.SlLaysZI.n7 Tryz.prog keysA_ren := {
  mixed := by kernel_rfl
  f7 := ⟨Tryz.f46.name, by kernel_rfl, Tryz.func46.trans (congrArg some (by kernel_rfl))⟩
  f10 := ⟨Tryz.f70.name, by kernel_rfl, Tryz.func70.trans (congrArg some (by kernel_rfl))⟩
  t0 := Tryz.underlying0
  a0 := Tryz.isAgg0
  z0 := Tryz.sizeOf0
  v0 := Tryz.zeroValue0
  t4 := Tryz.underlying4
  a4 := Tryz.isAgg4
  z4 := Tryz.sizeOf4
  v4 := Tryz.zeroValue4
  t23 := Tryz.underlying86
  a23 := Tryz.isAgg86
  z23 := Tryz.sizeOf86
  v23 := Tryz.zeroValue86
  t26 := Tryz.underlying3
  a26 := Tryz.isAgg3
  z26 := Tryz.sizeOf3
  v26 := Tryz.zeroValue3
  t27 := Tryz.underlying104
  a27 := Tryz.isAgg104
  z27 := Tryz.sizeOf104
  v27 := Tryz.zeroValue104
  t28 := Tryz.underlying105
  a28 := Tryz.isAgg105
  z28 := Tryz.sizeOf105
  v28 := Tryz.zeroValue105
  t33 := Tryz.underlying133
  a33 := Tryz.isAgg133
  z33 := Tryz.sizeOf133
  v33 := Tryz.zeroValue133 }
def sortedA_ren : Go.Shelf.Ren := ⟨fun | 6 => 45 | 8 => 68 | 9 => 69 | 11 => 93 | 12 => 94 | 13 => 95 | 14 => 117 | 15 => 118 | 16 => 119 | 17 => 120 | 18 => 121 | 19 => 122 | 20 => 123 | 21 => 124 | 22 => 125 | 23 => 126 | 24 => 127 | 25 => 141 | 26 => 142 | 27 => 143 | 28 => 144 | 29 => 145 | 30 => 146 | 31 => 152 | n => n, fun | 0 => 0 | 3 => 3 | 4 => 4 | 5 => 5 | 9 => 9 | 24 => 38 | 26 => 3 | 28 => 105 | 33 => 133 | 37 => 162 | 39 => 171 | 40 => 172 | 45 => 91 | 48 => 179 | 50 => 181 | 51 => 196 | 55 => 200 | 57 => 210 | 58 => 211 | n => n, fun n => n⟩
theorem sortedA : Go.Proofs.SlLaysZI.n6 Tryz.prog sortedA_ren := {
  mixed := by kernel_rfl
  f6 := ⟨Tryz.f45.name, by kernel_rfl, Tryz.func45.trans (congrArg some (by kernel_rfl))⟩
  f8 := ⟨Tryz.f68.name, by kernel_rfl, Tryz.func68.trans (congrArg some (by kernel_rfl))⟩
  f11 := ⟨Tryz.f93.name, by kernel_rfl, Tryz.func93.trans (congrArg some (by kernel_rfl))⟩
  t0 := Tryz.underlying0
  a0 := Tryz.isAgg0
  z0 := Tryz.sizeOf0
  v0 := Tryz.zeroValue0
  t24 := Tryz.underlying38
  a24 := Tryz.isAgg38
  z24 := Tryz.sizeOf38
  v24 := Tryz.zeroValue38
  t26 := Tryz.underlying3
  a26 := Tryz.isAgg3
  z26 := Tryz.sizeOf3
  v26 := Tryz.zeroValue3
  t28 := Tryz.underlying105
  a28 := Tryz.isAgg105
  z28 := Tryz.sizeOf105
  v28 := Tryz.zeroValue105
  i26 := by kernel_rfl }
def sortA_ren : Go.Shelf.Ren := ⟨fun | 5 => 69 | 7 => 94 | 8 => 95 | 10 => 117 | 11 => 118 | 12 => 119 | 13 => 120 | 14 => 121 | 15 => 122 | 16 => 123 | 17 => 124 | 18 => 125 | 19 => 126 | 20 => 127 | 30 => 141 | 31 => 142 | 32 => 143 | 33 => 144 | 34 => 145 | 35 => 146 | 40 => 152 | n => n, fun | 0 => 0 | 3 => 3 | 4 => 4 | 5 => 5 | 9 => 9 | 22 => 38 | 23 => 38 | 25 => 3 | 32 => 162 | 35 => 171 | 36 => 172 | 41 => 91 | 44 => 179 | 46 => 181 | 53 => 196 | 57 => 200 | 63 => 210 | 64 => 211 | n => n, fun n => n⟩
theorem sortA : Go.Proofs.SlLaysM.n5 Tryz.prog sortA_ren := {
  mixed := by kernel_rfl
  f5 := ⟨Tryz.f69.name, by kernel_rfl, Tryz.func69.trans (congrArg some (by kernel_rfl))⟩
  f7 := ⟨Tryz.f94.name, by kernel_rfl, Tryz.func94.trans (congrArg some (by kernel_rfl))⟩
  f8 := Tryz.func95.trans (congrArg some (by kernel_rfl))
  f10 := ⟨Tryz.f117.name, by kernel_rfl, Tryz.func117.trans (congrArg some (by kernel_rfl))⟩
  f11 := ⟨Tryz.f118.name, by kernel_rfl, Tryz.func118.trans (congrArg some (by kernel_rfl))⟩
  f12 := ⟨Tryz.f119.name, by kernel_rfl, Tryz.func119.trans (congrArg some (by kernel_rfl))⟩
  f13 := ⟨Tryz.f120.name, by kernel_rfl, Tryz.func120.trans (congrArg some (by kernel_rfl))⟩
  f14 := ⟨Tryz.f121.name, by kernel_rfl, Tryz.func121.trans (congrArg some (by kernel_rfl))⟩
  f15 := ⟨Tryz.f122.name, by kernel_rfl, Tryz.func122.trans (congrArg some (by kernel_rfl))⟩
  f16 := ⟨Tryz.f123.name, by kernel_rfl, Tryz.func123.trans (congrArg some (by kernel_rfl))⟩
  f17 := ⟨Tryz.f124.name, by kernel_rfl, Tryz.func124.trans (congrArg some (by kernel_rfl))⟩
  f18 := ⟨Tryz.f125.name, by kernel_rfl, Tryz.func125.trans (congrArg some (by kernel_rfl))⟩
  f19 := Tryz.func126.trans (congrArg some (by kernel_rfl))
  f20 := Tryz.func127.trans (congrArg some (by kernel_rfl))
  f30 := ⟨Tryz.f141.name, by kernel_rfl, Tryz.func141.trans (congrArg some (by kernel_rfl))⟩
  f31 := Tryz.func142.trans (congrArg some (by kernel_rfl))
  f32 := Tryz.func143.trans (congrArg some (by kernel_rfl))
  f33 := ⟨Tryz.f144.name, by kernel_rfl, Tryz.func144.trans (congrArg some (by kernel_rfl))⟩
  f34 := ⟨Tryz.f145.name, by kernel_rfl, Tryz.func145.trans (congrArg some (by kernel_rfl))⟩
  f35 := ⟨Tryz.f146.name, by kernel_rfl, Tryz.func146.trans (congrArg some (by kernel_rfl))⟩
  f40 := ⟨Tryz.f152.name, by kernel_rfl, Tryz.func152.trans (congrArg some (by kernel_rfl))⟩
  t0 := Tryz.underlying0
  a0 := Tryz.isAgg0
  z0 := Tryz.sizeOf0
  v0 := Tryz.zeroValue0
  t3 := Tryz.underlying3
  a3 := Tryz.isAgg3
  z3 := Tryz.sizeOf3
  v3 := Tryz.zeroValue3
  t4 := Tryz.underlying4
  a4 := Tryz.isAgg4
  z4 := Tryz.sizeOf4
  v4 := Tryz.zeroValue4
  t5 := Tryz.underlying5
  a5 := Tryz.isAgg5
  z5 := Tryz.sizeOf5
  v5 := Tryz.zeroValue5
  t9 := Tryz.underlying9
  a9 := Tryz.isAgg9
  z9 := Tryz.sizeOf9
  v9 := Tryz.zeroValue9
  t22 := Tryz.underlying38
  a22 := Tryz.isAgg38
  z22 := Tryz.sizeOf38
  v22 := Tryz.zeroValue38
  t23 := Tryz.underlying38
  a23 := Tryz.isAgg38
  z23 := Tryz.sizeOf38
  v23 := Tryz.zeroValue38
  t25 := Tryz.underlying3
  a25 := Tryz.isAgg3
  z25 := Tryz.sizeOf3
  v25 := Tryz.zeroValue3
  t32 := Tryz.underlying162
  a32 := Tryz.isAgg162
  z32 := Tryz.sizeOf162
  v32 := Tryz.zeroValue162
  t35 := Tryz.underlying171
  a35 := Tryz.isAgg171
  z35 := Tryz.sizeOf171
  v35 := Tryz.zeroValue171
  t36 := Tryz.underlying172
  a36 := Tryz.isAgg172
  z36 := Tryz.sizeOf172
  v36 := Tryz.zeroValue172
  t41 := Tryz.underlying91
  a41 := Tryz.isAgg91
  z41 := Tryz.sizeOf91
  v41 := Tryz.zeroValue91
  t44 := Tryz.underlying179
  a44 := Tryz.isAgg179
  z44 := Tryz.sizeOf179
  v44 := Tryz.zeroValue179
  t46 := Tryz.underlying181
  a46 := Tryz.isAgg181
  z46 := Tryz.sizeOf181
  v46 := Tryz.zeroValue181
  t53 := Tryz.underlying196
  a53 := Tryz.isAgg196
  z53 := Tryz.sizeOf196
  v53 := Tryz.zeroValue196
  t57 := Tryz.underlying200
  a57 := Tryz.isAgg200
  z57 := Tryz.sizeOf200
  v57 := Tryz.zeroValue200
  t63 := Tryz.underlying210
  a63 := Tryz.isAgg210
  z63 := Tryz.sizeOf210
  v63 := Tryz.zeroValue210
  t64 := Tryz.underlying211
  a64 := Tryz.isAgg211
  z64 := Tryz.sizeOf211
  v64 := Tryz.zeroValue211 }
theorem sortsA (m : Nat) : AnyZI.SortsIn Tryz.prog sortedA_ren Fence.wide m :=
  ⟨fun blk off cap ss W hH hblk hsz => callsIn_wide.2 (AnyM.slices_Sort_int sortA blk off cap ss W hH hblk hsz),
   fun p cap W => callsIn_wide.2 (AnyM.slices_Sort_int_none sortA p cap W)⟩
end Go.Proofs.YtpgigpajpcianaaGreatDoor

namespace Go.Proofs.YtpgigpajpcianaaGreatDoor
open Go.Shelf Go.RowKit Go.Maps Go.Sort

theorem mem_liveFrom : ∀ (T : List (List UInt8 × Bool)) (k : Nat) (x : Int), x ∈ liveFrom k T ↔ ∃ j t, T[j]? = some (t, true) ∧ x = ((k + j : Nat) : Int) + 1
  | [], k, x => by simp [liveFrom]
  | t :: r, k, x => by
    have ih := mem_liveFrom r (k + 1) x
    obtain ⟨b, f⟩ := t
    cases f with
    | true =>
      simp only [liveFrom, if_true, List.mem_cons, ih]
      constructor
      · rintro (rfl | ⟨j, u, hj, rfl⟩)
        · exact ⟨0, b, rfl, by simp⟩
        · exact ⟨j + 1, u, by simpa using hj, by omega⟩
      · rintro ⟨j, u, hj, rfl⟩
        cases j with
        | zero => exact .inl (by simp)
        | succ j => exact .inr ⟨j, u, by simpa using hj, by omega⟩
    | false =>
      simp only [liveFrom, Bool.false_eq_true, if_false, ih]
      constructor
      · rintro ⟨j, u, hj, rfl⟩
        exact ⟨j + 1, u, by simpa using hj, by omega⟩
      · rintro ⟨j, u, hj, rfl⟩
        cases j with
        | zero => simp at hj
        | succ j => exact ⟨j, u, by simpa using hj, by omega⟩
theorem live_rises : ∀ (T : List (List UInt8 × Bool)) (k : Nat), (liveFrom k T).Pairwise (· < ·)
  | [], k => by simp [liveFrom]
  | t :: r, k => by
    have ih := live_rises r (k + 1)
    unfold liveFrom
    split
    · refine List.pairwise_cons.2 ⟨fun x hx => ?_, ih⟩
      obtain ⟨j, u, -, rfl⟩ := (mem_liveFrom r (k + 1) x).1 hx
      omega
    · exact ih
theorem live_len : ∀ (T : List (List UInt8 × Bool)) (k : Nat), (liveFrom k T).length ≤ T.length
  | [], k => by simp [liveFrom]
  | t :: r, k => by
    have ih := live_len r (k + 1)
    unfold liveFrom
    split <;> simp <;> omega
theorem mem_live {T : List (List UInt8 × Bool)} {F : List (Nat × Value)} (hl : F.length = T.length) (x : Int) : x ∈ liveL T ↔ (filesF T F x).isSome = true := by
  unfold liveL
  rw [mem_liveFrom]
  constructor
  · rintro ⟨j, t, hj, rfl⟩
    have hlt := (List.getElem?_eq_some_iff.1 hj).1
    obtain ⟨f, hf⟩ : ∃ f, F[j]? = some f := ⟨F[j]'(by omega), List.getElem?_eq_getElem (by omega)⟩
    rw [show ((0 + j : Nat) : Int) + 1 = (j : Int) + 1 by omega, filesF_some (b := f.1) (v := f.2) hj hf]
    rfl
  · intro h
    rcases fileAt_cases T x with ⟨k, t, rfl, hk, -⟩ | hn
    · exact ⟨k, t, hk, by omega⟩
    · rw [filesF_none hn] at h
      cases h
section
variable {base g : Nat} {own : Nat → Nat} {S : Script} {s : DSt} {w : World}
theorem sorted_keys {P : Program} {k n b : Nat} {R : Value → Option (DataW Unit × List MemPlace)} {D : DataW Unit} {w : World} (hown : w.ownsMap P k R b n D) (hk : P.underlying k = some (.int .i64)) {T : List (List UInt8 × Bool)}
    (hm : ∀ x, x ∈ liveL T ↔ Maps.has D (.int .i64 x) = true) {ss : List Int} (hs : ss.Perm (intKeys D)) : ss.mergeSort (fun x y => decide (x ≤ y)) = liveL T := by
  have hnd : (liveL T).Nodup := (live_rises T 0).imp (fun h e => by omega)
  have hC : CollectedI D (fun _ => false) (liveL T) := ⟨hnd, fun x => by rw [hm]; simp⟩
  have hp := hC.perm hown (int_keyed hk) hk (fun _ => rfl)
  have h1 := mergeSort_of_perm_i hs
  have h2 := mergeSort_of_perm_i hp
  rw [h1, ← h2]
  exact List.mergeSort_of_pairwise ((live_rises T 0).imp (fun h => by simpa using Int.le_of_lt h))
set_option maxRecDepth 100000 in
set_option maxHeartbeats 1000000 in
theorem live_any (h : DiskAt base g own S s w) (hT : s.T.length ≤ 64) :
    Calls Tryz.prog 22 #[.pointer (some ⟨g, 0, none⟩)] w fun e w' => ∃ v, e = .returned v ∧ w'.ownsRow w.heap.size 3 1 v (liveL s.T).length ((liveL s.T).map (Value.int .i64)) ∧ Below w.heap.size w w' := by
  obtain ⟨bf, mf, F, h⟩ := h
  have c0 := h.c0
  cases mf with
  | none =>
    have hT0 := h.none rfl
    have hL : liveL s.T = [] := by rw [hT0]; rfl
    rw [hL]
    clear h hT hT0 hL
    refine (callsIn_wide (n := 6)).1 ?_
    have hseq : SeqGives Fence.wide 2 Tryz.prog 70 #[.pointer (some ⟨w.heap.size, 0, none⟩)] encZ (fun ss : List Int => ss = []) 0 (w.alloc (.cells #[.map none] 86)) :=
      AnyZI.keys_gives_nil (ρ := keysA_ren) { keysA with } Fence.wide _ trivial rfl w.heap.size _ (by simp) (by simp)
    have cK : ∀ mb W, CallsIn Fence.wide 5 Tryz.prog 46 #[.map mb] W fun e w' => e = .returned (.func (.func 70) #[] #[.pointer (some ⟨W.heap.size, 0, none⟩)]) ∧ w' = W.alloc (.cells #[.map mb] 86) := fun mb W => AnyZI.keys_in keysA Fence.wide 5 trivial rfl mb W
    have cS := AnyZI.sorted_in sortedA Fence.wide 5 trivial trivial trivial trivial rfl (by omega) (sortsA _) (enters_of Tryz.func69 (by kernel_rfl) rfl) 70 #[.pointer (some ⟨w.heap.size, 0, none⟩)] trivial (enters_of Tryz.func70 (by kernel_rfl) rfl) _ 0 (Nat.zero_le _) (by omega) _ hseq
    change CallsIn _ _ Tryz.prog 45 _ _ _ at cS
    have hfK : Fence.wide.fn 46 := trivial
    have hfS : Fence.wide.fn 45 := trivial
    refine callsIn_of_wp Tryz.func22 rfl trivial ?_ rfl
    simp only [Tryz.ntmps22, List.size_toArray, List.length_cons, List.length_nil, Nat.reduceAdd, Nat.reduceSub, Array.replicate_succ, Array.replicate_zero, List.push_toArray, List.append_toArray, List.nil_append, List.cons_append]
    gi_wp2_with (first | (gi_at_call 46; refine (cK _ _).mono ?_; rintro e w' ⟨rfl, rfl⟩) | (gi_at_call 45; refine cS.mono ?_; rintro e w' ⟨v, ss, rfl, rfl, hrow, hnil, hb⟩; obtain rfl : v = .slice none 0 0 := hnil.2 rfl))
    go_ret
    exact ⟨_, rfl, World.ownsRow_nil _ _ _ _, ((Below.refl _ w).alloc (Nat.le_refl _) _).trans (hb.mono (by simp))⟩
  | some m =>
    obtain ⟨⟨D, hown, hhas, -⟩, -⟩ := h.files m rfl
    have hmem : ∀ x, x ∈ liveL s.T ↔ Maps.has D (.int .i64 x) = true := fun x => by rw [hhas]; exact mem_live h.len x
    have hkeys := fun ss (hs : List.Perm ss (intKeys D)) => sorted_keys hown Tryz.underlying3 hmem hs
    have HK := Lib.hid hkeys
    have hsz := hown.size_le
    have hmax : Maps.size D ≤ maxLen := by unfold maxLen; omega
    have hbytes : Maps.size D * 8 ≤ 140737488355328 := by omega
    have hbl := hown.lt
    clear hkeys hmem hhas h
    refine (callsIn_wide (n := 6)).1 ?_
    have hseq : SeqGives Fence.wide 2 Tryz.prog 70 #[.pointer (some ⟨w.heap.size, 0, none⟩)] encZ (fun ss => ss.Perm (intKeys D)) (Maps.size D) (w.alloc (.cells #[.map (some m)] 86)) :=
      AnyZI.keys_gives (ρ := keysA_ren) { keysA with } Fence.wide _ trivial rfl (by omega) w.heap.size m _ D _ (by simp) (by simp) (by
        obtain ⟨es, clock, hb, Ft, hs, hD⟩ := hown
        exact ⟨es, clock, (Below.heap_alloc _ _ m hbl).trans hb, Ft, hs, hD⟩)
    have cK : ∀ mb W, CallsIn Fence.wide 5 Tryz.prog 46 #[.map mb] W fun e w' => e = .returned (.func (.func 70) #[] #[.pointer (some ⟨W.heap.size, 0, none⟩)]) ∧ w' = W.alloc (.cells #[.map mb] 86) := fun mb W => AnyZI.keys_in keysA Fence.wide 5 trivial rfl mb W
    have cS := AnyZI.sorted_in sortedA Fence.wide 5 trivial trivial trivial trivial rfl (by omega) (sortsA _) (enters_of Tryz.func69 (by kernel_rfl) rfl) 70 #[.pointer (some ⟨w.heap.size, 0, none⟩)] trivial (enters_of Tryz.func70 (by kernel_rfl) rfl) _ _ hmax hbytes _ hseq
    change CallsIn _ _ Tryz.prog 45 _ _ _ at cS
    have hfK : Fence.wide.fn 46 := trivial
    have hfS : Fence.wide.fn 45 := trivial
    clear hown hsz hmax hbytes
    refine callsIn_of_wp Tryz.func22 rfl trivial ?_ rfl
    simp only [Tryz.ntmps22, List.size_toArray, List.length_cons, List.length_nil, Nat.reduceAdd, Nat.reduceSub, Array.replicate_succ, Array.replicate_zero, List.push_toArray, List.append_toArray, List.nil_append, List.cons_append]
    gi_wp2_with (first | (gi_at_call 46; refine (cK _ _).mono ?_; rintro e w' ⟨rfl, rfl⟩) | (gi_at_call 45; refine cS.mono ?_; rintro e w' ⟨v, ss, rfl, hS, hrow, hnil, hb⟩))
    go_ret
    refine ⟨v, rfl, ?_, ((Below.refl _ w).alloc (Nat.le_refl _) _).trans (hb.mono (by simp))⟩
    have h1 := HK.out ss hS
    have hr := ownsRow_base_a (base' := w.heap.size) hrow (by simp)
    rw [h1] at hr
    have hlen : ss.length = (liveL s.T).length := by rw [← h1, List.length_mergeSort]
    rw [hlen] at hr
    exact hr
end
end Go.Proofs.YtpgigpajpcianaaGreatDoor
