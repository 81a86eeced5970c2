/- What strings.Cut does at one byte: the shelf's contract, laid at this cut: a line's key, and its rest. -/
import Derived.Test.YtpgigpajpcianaaGreatDoorZDdefs
import Derived.Test.YtpgigpajpcianaaGreatDoorZGheavy
import Derived.Test.YtpgigpajpcianaaGreatDoorZSpA
import Derived.Test.YtpgigpajpcianaaGreatDoorZSpB
import Derived.Test.YtpgigpajpcianaaGreatDoorZFsA
import Derived.Test.YtpgigpajpcianaaGreatDoorZFsB
import Derived.Test.YtpgigpajpcianaaGreatDoorZRA
import Derived.Test.YtpgigpajpcianaaGreatDoorZLjoin
import Derived.Shelf.Strings.Cut
import Derived.Shelf.Vars
import Derived.StillTailTactics
import Derived.Deep.QuietTactic
import Derived.Deep.Cut
import Derived.BigRegion
import Derived.Shelf.RegionOpenPlain
import Derived.Deep.LoopGhost
namespace Go.Proofs.YtpgigpajpcianaaGreatDoor
open Go.Shelf Go.RowKit

def keyL (a : UInt8) (l : List UInt8) : List UInt8 := l.takeWhile (· != a)
def restL (a : UInt8) (l : List UInt8) : List UInt8 := (l.dropWhile (· != a)).drop 1
def lays145_ren : Go.Shelf.Ren := ⟨fun | 145 => 151 | 217 => 162 | 219 => 160 | 220 => 157 | 224 => 164 | 225 => 163 | 266 => 166 | 267 => 165 | 314 => 167 | n => n, fun | 3 => 3 | 4 => 4 | 5 => 5 | 9 => 9 | 46 => 162 | 51 => 179 | 59 => 208 | 146 => 220 | n => n, fun | 1 => 1 | n => n⟩
theorem lays145 : Go.Proofs.Lays.n145 Tryz.prog lays145_ren := {
  mixed := by kernel_rfl
  f145 := Tryz.func151.trans (congrArg some (by kernel_rfl))
  f217 := Tryz.func162.trans (congrArg some (by kernel_rfl))
  f219 := Tryz.func160.trans (congrArg some (by kernel_rfl))
  f220 := Tryz.func157.trans (congrArg some (by kernel_rfl))
  f224 := Tryz.func164.trans (congrArg some (by kernel_rfl))
  f225 := Tryz.func163.trans (congrArg some (by kernel_rfl))
  f266 := Tryz.func166.trans (congrArg some (by kernel_rfl))
  f267 := Tryz.func165.trans (congrArg some (by kernel_rfl))
  f314 := Tryz.func167.trans (congrArg some (by kernel_rfl))
  t3 := Tryz.underlying3
  a3 := Tryz.isAgg3
  z3 := Tryz.sizeOf3
  v3 := Tryz.zeroValue3
  t4 := Tryz.underlying4
  a4 := Tryz.isAgg4
  z4 := Tryz.sizeOf4
  v4 := Tryz.zeroValue4
  t5 := Tryz.underlying5
  a5 := Tryz.isAgg5
  z5 := Tryz.sizeOf5
  v5 := Tryz.zeroValue5
  t9 := Tryz.underlying9
  a9 := Tryz.isAgg9
  z9 := Tryz.sizeOf9
  v9 := Tryz.zeroValue9
  t46 := Tryz.underlying162
  a46 := Tryz.isAgg162
  z46 := Tryz.sizeOf162
  v46 := Tryz.zeroValue162
  t51 := Tryz.underlying179
  a51 := Tryz.isAgg179
  z51 := Tryz.sizeOf179
  v51 := Tryz.zeroValue179
  t59 := Tryz.underlying208
  a59 := Tryz.isAgg208
  z59 := Tryz.sizeOf208
  v59 := Tryz.zeroValue208
  t146 := Tryz.underlying220
  a146 := Tryz.isAgg220
  z146 := Tryz.sizeOf220
  v146 := Tryz.zeroValue220
  g1 := by kernel_rfl }
def MaxAt (w : World) : Prop := ∃ m, w.cell? ⟨1, 0, none⟩ = some (.int .i64 m)
theorem MaxAt.frame {p : Nat → Prop} {w w' : World} (h : MaxAt w) (hf : Frame p w w') (hp : ¬ p 1) : MaxAt w' := by
  obtain ⟨m, h⟩ := h
  exact ⟨m, hf.cell? h hp⟩
theorem MaxAt.lt {w : World} (h : MaxAt w) : 1 < w.heap.size := by
  obtain ⟨m, h⟩ := h
  exact block_lt_of_cell h
def MaxTab (w : World) : Prop := Pm.Tab w ∧ MaxAt w
theorem MaxTab.below {w w' : World} (h : MaxTab w) (hb : Below w.heap.size w w') : MaxTab w' := ⟨h.1.below hb, h.2.frame (Below.toFrame hb fun _ => False) (fun h => h)⟩
theorem maxTab_of {w : World} (hL : laidMetH Tryz.prog [("penstock/params.rows", Rows.laid_penstock_params_rows)] w) (hS : w.ShapedOpen Tryz.prog) : MaxTab w :=
  ⟨Pm.tab_of_laid hL, cell_of_shapedOpen_int (P := Tryz.prog) (g := 1) (t := 3) (zero := #[.int .i64 0]) hS (of_decide_eq_true (by kernel_rfl)) (by kernel_rfl) rfl (by kernel_rfl) (by kernel_rfl) Tryz.underlying3⟩
theorem index_one (a : UInt8) : ∀ l : List UInt8, (Lib.index l [a] = -1 ∧ keyL a l = l ∧ restL a l = []) ∨ ∃ i : Nat, Lib.index l [a] = i ∧ l.take i = keyL a l ∧ l.drop (i + 1) = restL a l
  | [] => .inl ⟨rfl, rfl, rfl⟩
  | b :: l => by
    by_cases h : b = a
    · subst h
      refine .inr ⟨0, ?_, ?_, ?_⟩
      · rw [Lib.index]; simp
      · simp [keyL]
      · simp [restL]
    · have hk : keyL a (b :: l) = b :: keyL a l := by simp [keyL, h]
      have hr : restL a (b :: l) = restL a l := by simp [restL, h]
      have hi : Lib.index (b :: l) [a] = if Lib.index l [a] == -1 then -1 else Lib.index l [a] + 1 := by
        rw [Lib.index, if_neg (by simp; exact fun e => h e.symm)]
      rcases index_one a l with ⟨h1, h2, h3⟩ | ⟨i, h1, h2, h3⟩
      · exact .inl ⟨by rw [hi, h1]; rfl, by rw [hk, h2], by rw [hr, h3]⟩
      · refine .inr ⟨i + 1, by rw [hi, h1, if_neg (by simp)]; omega, by rw [hk, List.take_succ_cons, h2], by rw [hr, ← h3]; rfl⟩
theorem cut_key (a : UInt8) (l : List UInt8) : (Lib.cut l [a]).1 = keyL a l ∧ (Lib.cut l [a]).2.1 = restL a l := by
  unfold Lib.cut
  rcases index_one a l with ⟨h1, h2, h3⟩ | ⟨i, h1, h2, h3⟩
  · rw [h1, h2, h3]; exact ⟨rfl, rfl⟩
  · rw [h1]
    rw [if_pos (by omega)]
    simp [h2, h3]
theorem cutby_any (a : UInt8) (l : List UInt8) (w : World) (hl : l.length ≤ 1000000) (hm : MaxAt w) :
    Calls Tryz.prog 151 #[strV l, strV [a]] w fun e w' => (∃ f, e = .returned (.tuple #[strV (keyL a l), strV (restL a l), .bool f])) ∧ ∃ n, w' = w.drewN n := by
  obtain ⟨m, hm⟩ := hm
  have h := Go.Proofs.Any.strings_Cut lays145 ⟨l.toArray⟩ ⟨[a].toArray⟩ m w (by simp [ByteArray.size]; omega) hm
  obtain ⟨k1, k2⟩ := cut_key a l
  refine h.mono fun e w' ⟨h1, h2⟩ => ⟨⟨(Lib.cut l [a]).2.2, ?_⟩, h2⟩
  rw [h1]
  show Ending.returned (.tuple #[.string ⟨(Lib.cut l [a]).1.toArray⟩, .string ⟨(Lib.cut l [a]).2.1.toArray⟩, .bool (Lib.cut l [a]).2.2]) = _
  rw [k1, k2]
  rfl
end Go.Proofs.YtpgigpajpcianaaGreatDoor

namespace Go.Proofs.YtpgigpajpcianaaGreatDoor
open Go.RowKit

def ptrV (k : Nat) : Value := .pointer (some ⟨k, 0, none⟩)
def RunAt (k : Nat) (r : Rn) (w : World) : Prop := w.heap[k]? = some (.cells #[.int .i64 r.no, .int .i64 r.at', strV r.next, .bool r.over] 143 (0, 0))
theorem RunAt.frame {k : Nat} {r : Rn} {w w' : World} {p : Nat → Prop} (h : RunAt k r w) (hf : Frame p w w') (hp : ¬ p k) : RunAt k r w' := hf.heap h hp
theorem RunAt.c0 {k : Nat} {r : Rn} {w : World} (h : RunAt k r w) : w.cell? ⟨k, 0, none⟩ = some (.int .i64 r.no) := by rw [cell_of_row _ _ _ _ _ _ h]; rfl
theorem RunAt.c1 {k : Nat} {r : Rn} {w : World} (h : RunAt k r w) : w.cell? ⟨k, 1, none⟩ = some (.int .i64 r.at') := by rw [cell_of_row _ _ _ _ _ _ h]; rfl
theorem RunAt.c2 {k : Nat} {r : Rn} {w : World} (h : RunAt k r w) : w.cell? ⟨k, 2, none⟩ = some (strV r.next) := by rw [cell_of_row _ _ _ _ _ _ h]; rfl
theorem RunAt.c3 {k : Nat} {r : Rn} {w : World} (h : RunAt k r w) : w.cell? ⟨k, 3, none⟩ = some (.bool r.over) := by rw [cell_of_row _ _ _ _ _ _ h]; rfl
theorem RunAt.froz {k : Nat} {r : Rn} {w : World} (h : RunAt k r w) (i : Nat) : w.frozen? ⟨k, i, none⟩ = false := by unfold RunAt at h; simp [World.frozen?, h]
theorem RunAt.lt {k : Nat} {r : Rn} {w : World} (h : RunAt k r w) : k < w.heap.size := (Array.getElem?_eq_some_iff.1 h).1
def PtrsIn (p : Nat → Prop) (w : World) (v : Value) (Bs : List Nat) : Prop :=
  ∃ a cap, v = .slice a Bs.length cap ∧ Bs.length ≤ cap ∧ ∀ (j k : Nat), Bs[j]? = some k → ∃ gb off, a = some ⟨gb, off, none⟩ ∧ p gb ∧ w.cell? ⟨gb, off + j, none⟩ = some (ptrV k)
theorem PtrsIn.frame {p q : Nat → Prop} {w w' : World} {v : Value} {Bs : List Nat} (h : PtrsIn p w v Bs) (hf : Frame q w w') (hpq : ∀ k, p k → ¬ q k) : PtrsIn p w' v Bs := by
  obtain ⟨a, cap, rfl, hl, hc⟩ := h
  refine ⟨a, cap, rfl, hl, fun j k hj => ?_⟩
  obtain ⟨gb, off, rfl, hp, hx⟩ := hc j k hj
  exact ⟨gb, off, rfl, hp, hf.cell? hx (hpq _ hp)⟩
theorem PtrsIn.mono {p q : Nat → Prop} {w : World} {v : Value} {Bs : List Nat} (h : PtrsIn p w v Bs) (hpq : ∀ k, k < w.heap.size → p k → q k) : PtrsIn q w v Bs := by
  obtain ⟨a, cap, rfl, hl, hc⟩ := h
  refine ⟨a, cap, rfl, hl, fun j k hj => ?_⟩
  obtain ⟨gb, off, rfl, hp, hx⟩ := hc j k hj
  exact ⟨gb, off, rfl, hpq _ (block_lt_of_cell hx) hp, hx⟩
structure RunsAt (F : Bool) (S : Script) (base g gd : Nat) (ownD : Nat → Nat) (d : DSt) (Bs : List Nat) (rs : List Rn) (w : World) : Prop where
  c73 : w.cell? ⟨g, 73, none⟩ = some (cmpV F)
  c74 : w.cell? ⟨g, 74, none⟩ = some (ptrV gd)
  disk : DiskAt base gd ownD S d w
  len : Bs.length = rs.length
  run : ∀ (j k : Nat) (r : Rn), Bs[j]? = some k → rs[j]? = some r → RunAt k r w
  apart : ∀ k ∈ Bs, ownD k = 0 ∧ k ≠ g ∧ k ≠ 1
  ag : ownD g = 0
  am : ownD 1 = 0
  max : MaxAt w
  nodup : Bs.Nodup
def RunsLeft (F : Bool) (S : Script) (base g gd : Nat) (ownD : Nat → Nat) (d : DSt) (Bs : List Nat) (rs : List Rn) (w w' : World) : Prop :=
  ∃ ownD', RunsAt F S base g gd ownD' d Bs rs w' ∧ (∀ k, k < w.heap.size → ownD' k = ownD k) ∧ Frame (fun k => ownD k ≠ 0 ∨ k ∈ Bs) w w'
section
variable {F : Bool} {S : Script} {base g gd : Nat} {ownD : Nat → Nat} {d : DSt} {Bs : List Nat} {rs : List Rn} {w : World}
theorem RunsAt.glt (h : RunsAt F S base g gd ownD d Bs rs w) : g < w.heap.size := block_lt_of_cell h.c73
theorem RunsAt.at_ (h : RunsAt F S base g gd ownD d Bs rs w) {j k : Nat} (hk : Bs[j]? = some k) : ∃ r, rs[j]? = some r ∧ RunAt k r w := by
  have h1 := (List.getElem?_eq_some_iff.1 hk).1
  have h2 : j < rs.length := by rw [← h.len]; exact h1
  exact ⟨rs[j], List.getElem?_eq_getElem h2, h.run j k _ hk (List.getElem?_eq_getElem h2)⟩
theorem RunsAt.frame {p : Nat → Prop} {w' : World} (h : RunsAt F S base g gd ownD d Bs rs w) (hf : Frame p w w') (hp : ∀ k, p k → ownD k = 0 ∧ k ≠ g ∧ k ≠ 1 ∧ k ∉ Bs) : RunsAt F S base g gd ownD d Bs rs w' where
  c73 := hf.cell? h.c73 (fun e => (hp _ e).2.1 rfl)
  c74 := hf.cell? h.c74 (fun e => (hp _ e).2.1 rfl)
  disk := h.disk.frame hf (fun k hk => (hp k hk).1)
  len := h.len
  run j k r h1 h2 := (h.run j k r h1 h2).frame hf (fun e => (hp _ e).2.2.2 (List.mem_of_getElem? h1))
  apart := h.apart
  ag := h.ag
  am := h.am
  max := h.max.frame hf (fun e => (hp _ e).2.2.1 rfl)
  nodup := h.nodup
theorem RunsAt.below {w' : World} (h : RunsAt F S base g gd ownD d Bs rs w) (hb : Below w.heap.size w w') : RunsAt F S base g gd ownD d Bs rs w' := h.frame (Below.toFrame hb fun _ => False) (fun _ e => e.elim)
theorem RunsAt.turn {w' : World} (h : RunsAt F S base g gd ownD d Bs rs w) {ownD' : Nat → Nat} {d' : DSt} {j k : Nat} {r' : Rn} (hk : Bs[j]? = some k) (hd : DiskAt base gd ownD' S d' w') (ho : ∀ i, i < w.heap.size → ownD' i = ownD i) (hf : Frame (fun i => ownD i ≠ 0 ∨ i = k) w w') (hr : RunAt k r' w') : RunsAt F S base g gd ownD' d' Bs (rs.set j r') w' := by
  have hg := h.glt
  have hm := h.max.lt
  have hkm := List.mem_of_getElem? hk
  have hka := h.apart k hkm
  refine ⟨hf.cell? h.c73 (fun e => ?_), hf.cell? h.c74 (fun e => ?_), hd, by rw [List.length_set]; exact h.len, fun i k2 r2 h1 h2 => ?_, fun k2 hk2 => ?_, by rw [ho _ hg]; exact h.ag, by rw [ho _ hm]; exact h.am, h.max.frame hf (fun e => ?_), h.nodup⟩
  · rcases e with e | e
    · exact e h.ag
    · exact hka.2.1 e.symm
  · rcases e with e | e
    · exact e h.ag
    · exact hka.2.1 e.symm
  · by_cases hij : i = j
    · subst hij
      rw [hk] at h1
      cases h1
      have hl : i < rs.length := by rw [← h.len]; exact (List.getElem?_eq_some_iff.1 hk).1
      rw [List.getElem?_set_self hl] at h2
      cases h2
      exact hr
    · rw [List.getElem?_set_ne (fun e => hij e.symm)] at h2
      refine (h.run i k2 r2 h1 h2).frame hf (fun e => ?_)
      rcases e with e | e
      · exact e (h.apart k2 (List.mem_of_getElem? h1)).1
      · subst e
        exact hij ((List.getElem?_inj (List.getElem?_eq_some_iff.1 h1).1 h.nodup).1 (h1.trans hk.symm))
  · obtain ⟨j2, hj2⟩ := List.mem_iff_getElem?.1 hk2
    obtain ⟨r2, -, hr2⟩ := h.at_ hj2
    have := h.apart k2 hk2
    exact ⟨by rw [ho _ hr2.lt]; exact this.1, this.2⟩
  · rcases e with e | e
    · exact e h.am
    · exact hka.2.2 e.symm
theorem RunsAt.disks {w' : World} (h : RunsAt F S base g gd ownD d Bs rs w) {ownD' : Nat → Nat} {d' : DSt} (hd : DiskAt base gd ownD' S d' w') (ho : ∀ i, i < w.heap.size → ownD' i = ownD i) (hf : Frame (fun i => ownD i ≠ 0) w w') : RunsAt F S base g gd ownD' d' Bs rs w' := by
  have hg := h.glt
  have hm := h.max.lt
  refine ⟨hf.cell? h.c73 (fun e => e h.ag), hf.cell? h.c74 (fun e => e h.ag), hd, h.len, fun i k2 r2 h1 h2 => (h.run i k2 r2 h1 h2).frame hf (fun e => e (h.apart k2 (List.mem_of_getElem? h1)).1), fun k2 hk2 => ?_, by rw [ho _ hg]; exact h.ag, by rw [ho _ hm]; exact h.am, h.max.frame hf (fun e => e h.am), h.nodup⟩
  obtain ⟨j2, hj2⟩ := List.mem_iff_getElem?.1 hk2
  obtain ⟨r2, -, hr2⟩ := h.at_ hj2
  have := h.apart k2 hk2
  exact ⟨by rw [ho _ hr2.lt]; exact this.1, this.2⟩
theorem RunsLeft.refl (h : RunsAt F S base g gd ownD d Bs rs w) : RunsLeft F S base g gd ownD d Bs rs w w := ⟨ownD, h, fun _ _ => rfl, Frame.refl _ _⟩
theorem left_trans {ownD1 ownD2 : Nat → Nat} {w1 w2 : World} {q : Nat → Prop} (h1 : ∀ k, k < w.heap.size → ownD1 k = ownD k) (f1 : Frame (fun k => ownD k ≠ 0 ∨ q k) w w1) (h2 : ∀ k, k < w1.heap.size → ownD2 k = ownD1 k) (f2 : Frame (fun k => ownD1 k ≠ 0 ∨ q k) w1 w2) :
    (∀ k, k < w.heap.size → ownD2 k = ownD k) ∧ Frame (fun k => ownD k ≠ 0 ∨ q k) w w2 :=
  ⟨fun k hk => (h2 k (Nat.lt_of_lt_of_le hk f1.size)).trans (h1 k hk), f1.then f2 (fun k hk e => by rw [h1 k hk] at e; exact e)⟩
end

end Go.Proofs.YtpgigpajpcianaaGreatDoor

namespace Go.Proofs.YtpgigpajpcianaaGreatDoor
open Go.RowKit

def RunsEnd (F : Bool) (S : Script) (base g gd : Nat) (ownD : Nat → Nat) (d : DSt) (Bs : List Nat) (rs : List Rn) (v : Value) (w : World) (e : Ending) (w' : World) : Prop := e = .returned v ∧ RunsLeft F S base g gd ownD d Bs rs w w'
theorem wrap64_of_small {a : Int} (h1 : -1000000000000 ≤ a) (h2 : a ≤ 1000000000000) : wrap64 a = a := by
  unfold wrap64
  omega
theorem keyL_is (b : List UInt8) : keyL 10 b = b.takeWhile (· ≠ 10) := by
  unfold keyL
  congr 1
  funext c
  by_cases h : c = 10 <;> simp [h]
theorem keyL_le (b : List UInt8) : (keyL 10 b).length ≤ b.length := by
  unfold keyL
  exact (List.takeWhile_prefix _).length_le
theorem RunAt.set1 {k : Nat} {r : Rn} {w : World} (h : RunAt k r w) (a : Nat) : RunAt k ⟨r.no, a, r.next, r.over⟩ (w.setCell ⟨k, 1, none⟩ (.int .i64 a)) := by
  unfold RunAt at h ⊢
  rw [setCell_row h]
  rfl
theorem RunAt.set2 {k : Nat} {r : Rn} {w : World} (h : RunAt k r w) (l : List UInt8) : RunAt k ⟨r.no, r.at', l, r.over⟩ (w.setCell ⟨k, 2, none⟩ (strV l)) := by
  unfold RunAt at h ⊢
  rw [setCell_row h]
  rfl
theorem RunAt.set3 {k : Nat} {r : Rn} {w : World} (h : RunAt k r w) (o : Bool) : RunAt k ⟨r.no, r.at', r.next, o⟩ (w.setCell ⟨k, 3, none⟩ (.bool o)) := by
  unfold RunAt at h ⊢
  rw [setCell_row h]
  rfl
section
variable {F : Bool} {S : Script} {base g gd : Nat} {ownD : Nat → Nat} {d : DSt} {Bs : List Nat} {rs : List Rn} {w : World}
set_option maxRecDepth 100000 in
set_option maxHeartbeats 4000000 in
theorem readNext_any (h : RunsAt F S base g gd ownD d Bs rs w) (hs : Small d) {j k : Nat} {r : Rn} (hk : Bs[j]? = some k) (hr : rs[j]? = some r) (hno : I64 r.no) (hat : r.at' ≤ 1000000) :
    Calls Tryz.prog 139 #[ptrV g, ptrV k] w (RunsEnd F S base g gd ownD (readR S d r).1 Bs (rs.set j (readR S d r).2.1) (.int .i64 (readR S d r).2.2) w) := by
  have hrun := h.run j k r hk hr
  have c74 := h.c74
  have q0 := hrun.c0
  have q1 := hrun.c1
  have H := Lib.hid h
  have HRun := Lib.hid hrun
  have HK := Lib.hid hk
  have HR := Lib.hid (read_any (w := w.drew) (h.disk.below ((Below.refl _ _).drew)) hs hno r.at' 65)
  have hka := h.apart k (List.mem_of_getElem? hk)
  have HKA := Lib.hid hka
  have HGD := Lib.hid (show gd ≠ k ∧ ownD gd ≠ 0 by
    obtain ⟨bf, mf, FF, hd⟩ := h.disk
    have := hd.og
    exact ⟨fun e => by rw [← e, this] at hka; exact absurd hka.1 (by decide), by rw [this]; decide⟩)
  have HSet := Lib.hid (show readE S d r.no r.at' 65 ≠ 0 → rs.set j (readR S d r).2.1 = rs from fun hE => by
    unfold readR
    rw [if_pos hE]
    exact List.ext_getElem? fun i => by
      by_cases hij : i = j
      · subst hij
        rw [List.getElem?_set_self (List.getElem?_eq_some_iff.1 hr).1, hr]
      · rw [List.getElem?_set_ne (fun e => hij e.symm)])
  have HAt := Lib.hid hat
  have HMem := Lib.hid (show readR S d r = if readE S d r.no r.at' 65 ≠ 0 then (readS S d r.no r.at' 65, r, readE S d r.no r.at' 65) else (readS S d r.no r.at' 65, ⟨r.no, r.at' + (keyL 10 (readB S d r.no r.at' 65)).length + 1, keyL 10 (readB S d r.no r.at' 65), (readB S d r.no r.at' 65).isEmpty⟩, 0) by unfold readR; rw [keyL_is])
  have HBl := Lib.hid (show (readB S d r.no r.at' 65).length ≤ 65 by unfold readB; split; exact List.length_take_le _ _; simp)
  obtain ⟨E, hE⟩ : ∃ E, E = readE S d r.no r.at' 65 := ⟨_, rfl⟩
  obtain ⟨b, hb⟩ : ∃ b, b = readB S d r.no r.at' 65 := ⟨_, rfl⟩
  obtain ⟨d', hd'⟩ : ∃ d', d' = readS S d r.no r.at' 65 := ⟨_, rfl⟩
  rw [← hE, ← hb, ← hd'] at HR HMem
  rw [← hE] at HSet
  rw [← hb] at HBl
  obtain ⟨A, hA⟩ : ∃ A : Nat, A = r.at' := ⟨_, rfl⟩
  obtain ⟨no, hnoe⟩ : ∃ no, no = r.no := ⟨_, rfl⟩
  rw [← hA] at q1 HR HMem HAt
  rw [← hnoe] at q0 HR HMem
  have hA2 : (A : Int) ≤ 1000000 := by have := HAt.out; omega
  have HAr := Lib.hid hA
  have HNr := Lib.hid hnoe
  clear h hs hrun hk hr hno hat hE hb hd' hA hnoe hka
  unfold ptrV at c74 ⊢
  go_enter Tryz.func139, Tryz.ntmps139
  go_upto_region 1 with fail
  go_cut [5, 6] (fun x y W => ∃ av cv, x = .slice av b.length cv ∧ y = .int .i64 E ∧ RowKit.Hid (W.ownsRow w.heap.size 5 1 (.slice av b.length cv) b.length (bytesL b)) ∧ RowKit.Hid (DiskAt base gd ownD S d' W) ∧ RowKit.Hid (Frame (· = gd) w W))
  case first =>
    go_region_with (go_at_call 150; refine HR.out.mono ?_; rintro e w1 ⟨v, rfl, ho, hd, hf⟩; obtain ⟨av, cv, rfl⟩ := owns_slice ho; have HO := Lib.hid ho; have HD := Lib.hid hd; have HF := Lib.hid ((Frame.refl (· = gd) w).drew.trans hf); clear ho hd hf)
    all_goals
      go_wp2_with fail
      go_meet
      case rel => exact ⟨av, cv, rfl, rfl, HO, HD, HF⟩
  case rest =>
    obtain ⟨av, cv, rfl, rfl, HO, HD, HF⟩ := hcut
    have hf0 := HF.out
    have hrun1 : RunAt k r wc := HRun.out.frame hf0 (fun e => HGD.out.1 e.symm)
    have hfo : Frame (fun i => ownD i ≠ 0 ∨ i = k) w wc := hf0.mono (fun i _ e => by have e' : i = gd := e; rw [e']; exact .inl HGD.out.2)
    have HFo := Lib.hid hfo
    have HRun1 := Lib.hid hrun1
    clear c74 q0 q1
    by_cases h0 : E = 0
    · have g1 : (E != 0) = false := by simpa using h0
      have hb1 : IsBytes (w.heap.size ≤ ·) wc (.slice av b.length cv) b := isBytes_of_owns HO.out
      have kc := conv_any hb1
      obtain ⟨B, hB⟩ : ∃ B : ByteArray, strV b = .string B := ⟨_, rfl⟩
      have HCut := Lib.hid (cutby_any 10 b wc (by have := HBl.out; omega) (H.out.max.frame hf0 (fun e => by
        have e' : 1 = gd := e
        exact HGD.out.2 (by rw [← e']; exact H.out.am))))
      rw [hB] at kc HCut
      rw [show strV [10] = .string ⟨#[10]⟩ from rfl] at HCut
      obtain ⟨l, hl⟩ : ∃ l, l = keyL 10 b := ⟨_, rfl⟩
      obtain ⟨L, hL⟩ : ∃ L : ByteArray, strV l = .string L := ⟨_, rfl⟩
      have hLs : L.size = l.length := (strCells_eq hL).2
      have hll : l.length ≤ 65 := by rw [hl]; exact Nat.le_trans (keyL_le b) HBl.out
      obtain ⟨R, hR⟩ : ∃ R : ByteArray, strV (restL 10 b) = .string R := ⟨_, rfl⟩
      rw [← hl, hL, hR] at HCut
      rw [← hl] at HMem
      have HL := Lib.hid hL
      have HLl := Lib.hid hll
      have HE0 := Lib.hid h0
      have HA0 := Lib.hid (show r.at' = A from HAr.out.symm)
      have HNo := Lib.hid (show r.no = no from HNr.out.symm)
      have HE0 := Lib.hid h0
      have HBe := Lib.hid (show ((b.length : Int) == 0) = b.isEmpty by cases b <;> simp; omega)
      have HKm := Lib.hid (List.mem_of_getElem? HK.out)
      obtain ⟨bl, hbl⟩ : ∃ bl : Nat, bl = b.length := ⟨_, rfl⟩
      rw [← hbl] at HBe HO
      have HBll := Lib.hid hbl
      clear hf0 hrun1 hfo hb1 h0 hL hR hl hll hbl
      go_wp2_with fail
      refine HCut.out.mono ?_
      rintro e W2 ⟨⟨fl, rfl⟩, n, rfl⟩
      have HRun2 := Lib.hid (show RunAt k r (wc.drewN n) from HRun1.out)
      have HD2 := Lib.hid (HD.out.below (show Below wc.heap.size wc (wc.drewN n) from ⟨rfl, rfl, rfl, Nat.le_refl _, fun _ _ => rfl⟩))
      have HFo2 := Lib.hid (HFo.out.drewN n)
      clear kc HCut HRun1 HD HF HFo
      generalize wc.drewN n = W2 at HRun2 HD2 HFo2 ⊢
      have z2 := HRun2.out.froz 2
      have p2 := HRun2.out.c2
      go_upto_region 5 with fail
      have hr3 := HRun2.out.set2 l
      have hfc := Frame.cell W2 ⟨k, 2, none⟩ (.string L)
      rw [HL.out] at hr3
      have hd3 := HD2.out.frame hfc (fun i e => by have e' : i = k := e; rw [e']; exact HKA.out.1)
      have hf3 := HFo2.out.trans (hfc.mono (fun i _ e => by have e' : i = k := e; exact .inr e'))
      clear z2 p2 HRun2 HD2 HFo2 hfc
      generalize W2.setCell ⟨k, 2, none⟩ (.string L) = W3 at hr3 hd3 hf3 ⊢
      have z1 := hr3.froz 1
      have p1 := hr3.c1
      have p2 := hr3.c2
      simp only [HA0.out, HL.out] at p1 p2
      have HR3 := Lib.hid hr3
      have HD3 := Lib.hid hd3
      have HF3 := Lib.hid hf3
      clear hr3 hd3 hf3
      have a1 : IntKind.i64.wrap ((L.size : Int) + 1) = (L.size : Int) + 1 := by rw [IntKind.wrap_i64]; have := HLl.out; omega
      have a2 : IntKind.i64.wrap ((A : Int) + ((L.size : Int) + 1)) = (A : Int) + ((L.size : Int) + 1) := by rw [IntKind.wrap_i64]; have := HLl.out; omega
      have mixed : Tryz.prog.follows .mixedOrders = true := by kernel_rfl
      go_big_region_o
      clear mixed a1 a2
      have hw : wrap64 ((A : Int) + wrap64 ((l.length : Int) + 1)) = ((A + l.length + 1 : Nat) : Int) := by
        have h1 : wrap64 ((l.length : Int) + 1) = (l.length : Int) + 1 := wrap64_of_small (by have := HLl.out; omega) (by have := HLl.out; omega)
        rw [h1, wrap64_of_small (by have := HLl.out; omega) (by have := HLl.out; omega)]
        omega
      have hr4 := HR3.out.set1 (A + l.length + 1)
      have hfc := Frame.cell W3 ⟨k, 1, none⟩ (.int .i64 ((A + l.length + 1 : Nat) : Int))
      have hd4 := (HD3.out.frame hfc (fun i e => by have e' : i = k := e; rw [e']; exact HKA.out.1)).below ((Below.refl _ _).drew)
      have hf4 := (HF3.out.trans (hfc.mono (fun i _ e => by have e' : i = k := e; exact .inr e'))).drew
      have hr4 : RunAt k ⟨r.no, A + l.length + 1, l, r.over⟩ ((W3.setCell ⟨k, 1, none⟩ (.int .i64 ((A + l.length + 1 : Nat) : Int))).drew) := hr4
      rw [hw]
      clear hw hfc z1 p1 p2 HR3 HD3 HF3
      generalize (W3.setCell ⟨k, 1, none⟩ (.int .i64 ((A + l.length + 1 : Nat) : Int))).drew = W4 at hr4 hd4 hf4 ⊢
      have z3 := hr4.froz 3
      have p3 := hr4.c3
      have HR4 := Lib.hid hr4
      have HD4 := Lib.hid hd4
      have HF4 := Lib.hid hf4
      clear hr4 hd4 hf4
      go_wp2_with fail
      go_ret
      have hr5 := HR4.out.set3 b.isEmpty
      have hfc := Frame.cell W4 ⟨k, 3, none⟩ (.bool b.isEmpty)
      have hd5 := HD4.out.frame hfc (fun i e => by have e' : i = k := e; rw [e']; exact HKA.out.1)
      have hf5 := HF4.out.trans (hfc.mono (fun i _ e => by have e' : i = k := e; exact .inr e'))
      have hbe : ((b.length : Int) == 0) = b.isEmpty := by rw [← HBll.out]; exact HBe.out
      rw [hbe, HMem.out, if_neg (by rw [HE0.out]; simp)]
      refine ⟨rfl, ownD, H.out.turn HK.out hd5 (fun _ _ => rfl) hf5 ?_, fun _ _ => rfl, hf5.mono (fun i _ e => by rcases e with e | e; exact .inl e; exact .inr (by rw [e]; exact HKm.out))⟩
      rw [← HNo.out]
      exact hr5
    · have g1 : (E != 0) = true := by simpa using h0
      have HE0 := Lib.hid h0
      clear hf0 hrun1 hfo h0
      go_wp2_with fail
      go_ret
      rw [HMem.out, if_pos HE0.out]
      rw [HMem.out, if_pos HE0.out] at HSet
      refine ⟨rfl, ownD, ?_, fun _ _ => rfl, HFo.out.mono (fun i _ e => by rcases e with e | e; exact .inl e; exact .inr (by rw [e]; exact List.mem_of_getElem? HK.out))⟩
      exact H.out.turn HK.out HD.out (fun _ _ => rfl) HFo.out HRun1.out
end

end Go.Proofs.YtpgigpajpcianaaGreatDoor

namespace Go.Proofs.YtpgigpajpcianaaGreatDoor
open Go.RowKit

section
variable {F : Bool} {S : Script} {base g gd : Nat} {ownD : Nat → Nat} {d : DSt} {Bs : List Nat} {rs : List Rn} {w : World}
theorem readR_d (S : Script) (d : DSt) (r : Rn) : (readR S d r).1.T = d.T ∧ (readR S d r).1.n ≤ d.n + 1 ∧ (readR S d r).2.1.no = r.no := by
  have h : (readS S d r.no r.at' 65).T = d.T ∧ (readS S d r.no r.at' 65).n ≤ d.n + 1 := by
    unfold readS
    split
    · exact ⟨rfl, Nat.le_succ _⟩
    · exact ⟨rfl, Nat.le_refl _⟩
  unfold readR
  split
  · exact ⟨h.1, h.2, rfl⟩
  · exact ⟨h.1, h.2, rfl⟩
theorem Small.of {d d' : DSt} (h : Small d) (ht : d'.T = d.T) (hn : d'.n ≤ 1000000) : Small d' := ⟨hn, by rw [ht]; exact h.T, by rw [ht]; exact h.t⟩
structure FirstAt (F : Bool) (S : Script) (base g gd : Nat) (ownD : Nat → Nat) (d : DSt) (Bs : List Nat) (rs : List Rn) (w : World) (i : Nat) (wr : World) : Prop where
  le : i ≤ Bs.length
  is : ∃ ownI di ri, RunsAt F S base g gd ownI di Bs ri wr ∧ (∀ k, k < w.heap.size → ownI k = ownD k) ∧ Frame (fun k => ownD k ≠ 0 ∨ k ∈ Bs) w wr ∧ di.T = d.T ∧ di.n ≤ d.n + i ∧ ri.drop i = rs.drop i ∧ readAll S d rs = ((readAll S di (rs.drop i)).1, ri.take i ++ (readAll S di (rs.drop i)).2.1, (readAll S di (rs.drop i)).2.2)
theorem readAll_cons (S : Script) (d : DSt) (r : Rn) (rs : List Rn) : readAll S d (r :: rs) = if (readR S d r).2.2 ≠ 0 then ((readR S d r).1, r :: rs, (readR S d r).2.2) else ((readAll S (readR S d r).1 rs).1, (readR S d r).2.1 :: (readAll S (readR S d r).1 rs).2.1, (readAll S (readR S d r).1 rs).2.2) := rfl
theorem drop_oneA {α : Type} {A : List α} {i : Nat} {x : α} (h : A[i]? = some x) : A.drop i = x :: A.drop (i + 1) := by
  obtain ⟨hk, rfl⟩ := List.getElem?_eq_some_iff.1 h
  exact List.drop_eq_getElem_cons hk
theorem set_same_at {α : Type} {A : List α} {i : Nat} {x : α} (h : A[i]? = some x) : A.set i x = A := List.ext_getElem? fun j => by
  by_cases hij : j = i
  · subst hij
    rw [List.getElem?_set_self (List.getElem?_eq_some_iff.1 h).1, h]
  · rw [List.getElem?_set_ne (fun e => hij e.symm)]
set_option maxRecDepth 100000 in
set_option maxHeartbeats 4000000 in
theorem readFirst_any {p : Nat → Prop} (h : RunsAt F S base g gd ownD d Bs rs w) (hs : Small d) (hn : d.n + rs.length ≤ 1000000) (hrs : ∀ r ∈ rs, I64 r.no ∧ r.at' ≤ 1000000) (v : Value) (hv : PtrsIn p w v Bs) (hp : ∀ k, p k → ownD k = 0 ∧ k ∉ Bs) (hl : Bs.length ≤ 1000) :
    Calls Tryz.prog 113 #[ptrV g, v] w (RunsEnd F S base g gd ownD (readAll S d rs).1 Bs (readAll S d rs).2.1 (.int .i64 (readAll S d rs).2.2) w) := by
  have H0 := Lib.hid (show FirstAt F S base g gd ownD d Bs rs w 0 w from ⟨Nat.zero_le _, ownD, d, rs, h, fun _ _ => rfl, Frame.refl _ _, rfl, Nat.le_refl _, rfl, by simp⟩)
  have HS := Lib.hid hs
  have HN := Lib.hid hn
  have HRs := Lib.hid hrs
  have HLen := Lib.hid h.len
  obtain ⟨av, cv, rfl, hcap, hcell⟩ := hv
  have HCell := Lib.hid hcell
  have HP := Lib.hid hp
  have q0 : (Bs.length : Int) ≤ 1000 := by omega
  have q1 : (Bs.length : Int) ≤ (cv : Int) := by omega
  clear h hs hn hrs hcell hp hl
  unfold ptrV
  go_enter Tryz.func113, Tryz.ntmps113
  go_wp2_with fail
  go_loopw [10] (fun iv wr => ∃ i : Nat, iv = .int .i64 i ∧ RowKit.Hid (FirstAt F S base g gd ownD d Bs rs w i wr)) (fun iv _ => Bs.length - (intOf iv).toNat)
  case atStart => exact ⟨0, rfl, H0⟩
  case round =>
    clear H0
    obtain ⟨i, rfl, HI⟩ := hrel
    by_cases hlt : i < Bs.length
    · obtain ⟨k, hk⟩ : ∃ k, Bs[i]? = some k := ⟨_, List.getElem?_eq_getElem hlt⟩
      obtain ⟨r, hr⟩ : ∃ r, rs[i]? = some r := ⟨_, List.getElem?_eq_getElem (by rw [← HLen.out]; exact hlt)⟩
      obtain ⟨hle, ownI, di, ri, hR, hO, hF, hT, hnI, hdr, hall⟩ := HI.out
      obtain ⟨gb, off, rfl, hpg, hc⟩ := HCell.out i k hk
      have hri : ri[i]? = some r := by
        have e := congrArg (fun l => l[0]?) hdr
        simp only [List.getElem?_drop, Nat.add_zero] at e
        rw [e, hr]
      have hdrop := drop_oneA hr
      have hmem := HRs.out r (List.mem_of_getElem? hr)
      have hsz : rs.length = Bs.length := HLen.out.symm
      have hcw : wr.cell? ⟨gb, off + i, none⟩ = some (.pointer (some ⟨k, 0, none⟩)) := hF.cell? hc (fun e => by
        rcases e with e | e
        · exact e (HP.out gb hpg).1
        · exact (HP.out gb hpg).2 e)
      have hsm : Small di := HS.out.of hT (by have := HN.out; omega)
      have HC := Lib.hid (readNext_any hR hsm hk hri hmem.1 hmem.2)
      obtain ⟨t1, t2, t3⟩ := readR_d S di r
      have HNext := Lib.hid (show ∀ wX, (readR S di r).2.2 = 0 → RunsLeft F S base g gd ownI (readR S di r).1 Bs (ri.set i (readR S di r).2.1) wr wX → FirstAt F S base g gd ownD d Bs rs w (i + 1) wX from fun wX h0 ⟨o2, k1, k2, k3⟩ => by
        obtain ⟨m1, m2⟩ := left_trans hO hF k2 k3
        have hil : i < ri.length := (List.getElem?_eq_some_iff.1 hri).1
        refine ⟨hlt, o2, _, _, k1, m1, m2, by rw [t1, hT], by omega, ?_, ?_⟩
        · rw [List.drop_set_of_lt (by omega)]
          have e := congrArg (List.drop 1) hdr
          simpa [List.drop_drop] using e
        · rw [hall, hdrop, readAll_cons, if_neg (by rw [h0]; simp)]
          simp only
          rw [show (ri.set i (readR S di r).2.1).take (i + 1) = ri.take i ++ [(readR S di r).2.1] by rw [List.take_set, List.take_succ_eq_append_getElem hil, List.set_append_right _ _ (by simp; omega)]; simp [Nat.min_eq_left (Nat.le_of_lt hil)], List.append_assoc]
          rfl)
      have HStop := Lib.hid (show ∀ wX, (readR S di r).2.2 ≠ 0 → RunsLeft F S base g gd ownI (readR S di r).1 Bs (ri.set i (readR S di r).2.1) wr wX → RunsEnd F S base g gd ownD (readAll S d rs).1 Bs (readAll S d rs).2.1 (.int .i64 (readAll S d rs).2.2) w (.returned (.int .i64 (readR S di r).2.2)) wX from fun wX h0 ⟨o2, k1, k2, k3⟩ => by
        obtain ⟨m1, m2⟩ := left_trans hO hF k2 k3
        have hrr : (readR S di r).2.1 = r := by
          unfold readR at h0 ⊢
          split
          · rfl
          · rename_i hx
            rw [if_neg hx] at h0
            exact absurd rfl h0
        rw [hall, hdrop, readAll_cons, if_pos h0]
        refine ⟨rfl, o2, ?_, m1, m2⟩
        simp only
        rw [hrr, set_same_at hri] at k1
        rw [← hdrop, ← hdr, List.take_append_drop]
        exact k1)
      obtain ⟨E, hE⟩ : ∃ E, E = (readR S di r).2.2 := ⟨_, rfl⟩
      rw [← hE] at HC HNext HStop
      have v1 : (i : Int) < (Bs.length : Int) := by omega
      clear hk hr hle hR hO hF hT hnI hdr hall hc hri hdrop hmem hsz hsm t1 t2 t3 hE HI hpg
      unfold ptrV at HC
      go_wp2_with fail
      refine HC.out.mono ?_
      rintro e wX ⟨rfl, hleft⟩
      have HLeft := Lib.hid hleft
      clear hleft hcw
      by_cases h0 : E = 0
      · have g1 : (E != 0) = false := by simpa using h0
        have HX := Lib.hid (HNext.out wX h0 HLeft.out)
        clear HNext HStop HLeft h0 HC
        go_wp2_with fail
        go_roundw
        case rel => exact ⟨i + 1, by go_num, HX⟩
        case measure => simp [intOf]; omega
      · have g1 : (E != 0) = true := by simpa using h0
        have HX := Lib.hid (HStop.out wX h0 HLeft.out)
        clear HNext HStop HLeft h0 HC
        go_wp2_with fail
        go_ret
        exact HX.out
    · have hi : i = Bs.length := by have := HI.out.le; omega
      have HEnd := Lib.hid (show RunsEnd F S base g gd ownD (readAll S d rs).1 Bs (readAll S d rs).2.1 (.int .i64 (readAll S d rs).2.2) w (.returned (.int .i64 0)) wr by
        obtain ⟨hle, ownI, di, ri, hR, hO, hF, hT, hnI, hdr, hall⟩ := HI.out
        have hz : rs.drop i = [] := List.drop_of_length_le (by rw [← HLen.out]; omega)
        have hz2 : ri.take i = ri := List.take_of_length_le (by rw [← hR.len]; omega)
        rw [hall, hz, hz2]
        exact ⟨rfl, ownI, by simpa [readAll] using hR, hO, hF⟩)
      have v1 : ¬ (i : Int) < (Bs.length : Int) := by omega
      clear HI hi hlt
      go_wp2_with fail
      go_ret
      exact HEnd.out
end

end Go.Proofs.YtpgigpajpcianaaGreatDoor

namespace Go.Proofs.YtpgigpajpcianaaGreatDoor
open Go.RowKit

section
variable {F : Bool} {S : Script} {base g gd : Nat} {ownD : Nat → Nat} {d : DSt} {Bs : List Nat} {rs : List Rn} {w : World}
theorem removeS_n (S : Script) (d : DSt) (no : Int) : (removeS S d no).n ≤ d.n + 1 := by
  unfold removeS
  split
  · exact Nat.le_succ _
  · split
    · exact Nat.le_refl _
    · exact Nat.le_refl _
theorem Small.remove {d : DSt} (h : Small d) (S : Script) (no : Int) (hn : d.n + 1 ≤ 1000000) : Small (removeS S d no) := by
  refine ⟨Nat.le_trans (removeS_n S d no) hn, ?_, ?_⟩
  · unfold removeS
    split
    · exact h.T
    · split
      · simpa using h.T
      · exact h.T
  · unfold removeS
    split
    · exact h.t
    · split
      · intro t ht
        rcases List.mem_or_eq_of_mem_set ht with ht | rfl
        · exact h.t t ht
        · cases hf : fileAt d.T no with
          | none => simp
          | some x =>
            obtain ⟨k, -, hk⟩ : ∃ k : Nat, no = (k : Int) + 1 ∧ d.T[k]? = some (x, true) := by
              rcases fileAt_cases d.T no with ⟨k, t', e, hk, hf2⟩ | hf2
              · rw [hf2] at hf; cases hf; exact ⟨k, e, hk⟩
              · rw [hf2] at hf; cases hf
            exact h.t (x, true) (List.mem_of_getElem? hk)
      · exact h.t
structure RemAt (F : Bool) (S : Script) (base g gd : Nat) (ownD : Nat → Nat) (d : DSt) (Bs : List Nat) (rs : List Rn) (w : World) (i : Nat) (wr : World) : Prop where
  le : i ≤ Bs.length
  is : ∃ ownI di, RunsAt F S base g gd ownI di Bs rs wr ∧ (∀ k, k < w.heap.size → ownI k = ownD k) ∧ Frame (fun k => ownD k ≠ 0 ∨ k ∈ Bs) w wr ∧ Small di ∧ di.n ≤ d.n + i ∧ removeAll S d rs = removeAll S di (rs.drop i)
theorem removeAll_cons (S : Script) (d : DSt) (r : Rn) (rs : List Rn) : removeAll S d (r :: rs) = if removeE S d r.no ≠ 0 then (removeS S d r.no, removeE S d r.no) else removeAll S (removeS S d r.no) rs := rfl
set_option maxRecDepth 100000 in
set_option maxHeartbeats 4000000 in
theorem remove_runs {p : Nat → Prop} (h : RunsAt F S base g gd ownD d Bs rs w) (hs : Small d) (hn : d.n + rs.length ≤ 1000000) (hrs : ∀ r ∈ rs, I64 r.no) (v : Value) (hv : PtrsIn p w v Bs) (hp : ∀ k, p k → ownD k = 0 ∧ k ∉ Bs) (hl : Bs.length ≤ 1000) :
    Calls Tryz.prog 140 #[ptrV g, v] w (RunsEnd F S base g gd ownD (removeAll S d rs).1 Bs rs (.int .i64 (removeAll S d rs).2) w) := by
  have H0 := Lib.hid (show RemAt F S base g gd ownD d Bs rs w 0 w from ⟨Nat.zero_le _, ownD, d, h, fun _ _ => rfl, Frame.refl _ _, hs, Nat.le_refl _, rfl⟩)
  have HN := Lib.hid hn
  have HRs := Lib.hid hrs
  have HLen := Lib.hid h.len
  obtain ⟨av, cv, rfl, hcap, hcell⟩ := hv
  have HCell := Lib.hid hcell
  have HP := Lib.hid hp
  have q0 : (Bs.length : Int) ≤ 1000 := by omega
  have q1 : (Bs.length : Int) ≤ (cv : Int) := by omega
  clear h hs hn hrs hcell hp hl
  unfold ptrV
  go_enter Tryz.func140, Tryz.ntmps140
  go_wp2_with fail
  go_loopw [10] (fun iv wr => ∃ i : Nat, iv = .int .i64 i ∧ RowKit.Hid (RemAt F S base g gd ownD d Bs rs w i wr)) (fun iv _ => Bs.length - (intOf iv).toNat)
  case atStart => exact ⟨0, rfl, H0⟩
  case round =>
    clear H0
    obtain ⟨i, rfl, HI⟩ := hrel
    by_cases hlt : i < Bs.length
    · obtain ⟨k, hk⟩ : ∃ k, Bs[i]? = some k := ⟨_, List.getElem?_eq_getElem hlt⟩
      obtain ⟨r, hr⟩ : ∃ r, rs[i]? = some r := ⟨_, List.getElem?_eq_getElem (by rw [← HLen.out]; exact hlt)⟩
      obtain ⟨hle, ownI, di, hR, hO, hF, hsm, hnI, hall⟩ := HI.out
      obtain ⟨gb, off, rfl, hpg, hc⟩ := HCell.out i k hk
      have hdrop := drop_oneA hr
      have hmem := HRs.out r (List.mem_of_getElem? hr)
      have hsz : rs.length = Bs.length := HLen.out.symm
      have hcw : wr.cell? ⟨gb, off + i, none⟩ = some (.pointer (some ⟨k, 0, none⟩)) := hF.cell? hc (fun e => by
        rcases e with e | e
        · exact e (HP.out gb hpg).1
        · exact (HP.out gb hpg).2 e)
      have hrun := hR.run i k r hk hr
      have c74 := hR.c74
      have r0 := hrun.c0
      have hRd := hR.below ((Below.refl _ _).drew)
      have HC := Lib.hid (remove_any hRd.disk hsm hmem)
      have HNext := Lib.hid (show ∀ wX, DiskLeft base gd ownI S (removeS S di r.no) wr.drew wX → removeE S di r.no = 0 → i < Bs.length → RemAt F S base g gd ownD d Bs rs w (i + 1) wX from fun wX ⟨o2, k1, k2, k3⟩ h0 hlt => by
        have hf2 : Frame (fun k => ownI k ≠ 0 ∨ k ∈ Bs) wr wX := ((Frame.refl _ wr).drew.trans k3).mono (fun _ _ e => .inl e)
        obtain ⟨m1, m2⟩ := left_trans hO hF k2 hf2
        exact ⟨hlt, o2, _, hRd.disks k1 k2 k3, m1, m2, hsm.remove S _ (by have := HN.out; omega), by have := removeS_n S di r.no; omega, by rw [hall, hdrop, removeAll_cons, if_neg (by rw [h0]; simp)]⟩)
      have HStop := Lib.hid (show ∀ wX, DiskLeft base gd ownI S (removeS S di r.no) wr.drew wX → removeE S di r.no ≠ 0 → RunsEnd F S base g gd ownD (removeAll S d rs).1 Bs rs (.int .i64 (removeAll S d rs).2) w (.returned (.int .i64 (removeE S di r.no))) wX from fun wX ⟨o2, k1, k2, k3⟩ h0 => by
        have hf2 : Frame (fun k => ownI k ≠ 0 ∨ k ∈ Bs) wr wX := ((Frame.refl _ wr).drew.trans k3).mono (fun _ _ e => .inl e)
        obtain ⟨m1, m2⟩ := left_trans hO hF k2 hf2
        rw [hall, hdrop, removeAll_cons, if_pos h0]
        exact ⟨rfl, o2, hRd.disks k1 k2 k3, m1, m2⟩)
      obtain ⟨E, hE⟩ : ∃ E, E = removeE S di r.no := ⟨_, rfl⟩
      obtain ⟨no, hno⟩ : ∃ no, no = r.no := ⟨_, rfl⟩
      rw [← hE] at HC HNext HStop
      rw [← hno] at HC r0 HNext HStop
      have v1 : (i : Int) < (Bs.length : Int) := by omega
      have HLt := Lib.hid hlt
      clear hk hr hle hR hO hF hsm hnI hall hc hdrop hmem hsz hE HI hpg hrun hRd hno
      unfold ptrV at c74
      go_upto_region 4 with fail
      go_cut [7] (fun x W => x = .int .i64 E ∧ RowKit.Hid (DiskLeft base gd ownI S (removeS S di no) wr.drew W))
      case first =>
        go_region_with (go_at_call 72; refine HC.out.mono ?_; rintro e wX ⟨rfl, hleft⟩; have HLeft := Lib.hid hleft; clear hleft)
        all_goals
          go_wp2_with fail
          go_meet
          case rel => exact ⟨rfl, HLeft⟩
      case rest =>
      obtain ⟨rfl, HLeft⟩ := hcut
      clear c74 r0 hcw
      by_cases h0 : E = 0
      · have g1 : (E != 0) = false := by simpa using h0
        have HX := Lib.hid (HNext.out _ HLeft.out h0 HLt.out)
        clear HNext HStop HLeft h0 HC
        go_wp2_with fail
        go_roundw
        case rel => exact ⟨i + 1, by go_num, HX⟩
        case measure => simp [intOf]; omega
      · have g1 : (E != 0) = true := by simpa using h0
        have HX := Lib.hid (HStop.out _ HLeft.out h0)
        clear HNext HStop HLeft h0 HC
        go_wp2_with fail
        go_ret
        exact HX.out
    · have hi : i = Bs.length := by have := HI.out.le; omega
      have HEnd := Lib.hid (show RunsEnd F S base g gd ownD (removeAll S d rs).1 Bs rs (.int .i64 (removeAll S d rs).2) w (.returned (.int .i64 0)) wr by
        obtain ⟨hle, ownI, di, hR, hO, hF, hsm, hnI, hall⟩ := HI.out
        have hz : rs.drop i = [] := List.drop_of_length_le (by rw [← HLen.out]; omega)
        rw [hall, hz]
        exact ⟨rfl, ownI, hR, hO, hF⟩)
      have v1 : ¬ (i : Int) < (Bs.length : Int) := by omega
      clear HI hi hlt
      go_wp2_with fail
      go_ret
      exact HEnd.out
end

end Go.Proofs.YtpgigpajpcianaaGreatDoor

namespace Go.Proofs.YtpgigpajpcianaaGreatDoor
open Go.RowKit

def leastV (Bs : List Nat) : Option (Nat × List UInt8) → Value
  | none => .pointer none
  | some p => ptrV (Bs.getD p.1 0)
section
variable {F : Bool} {S : Script} {base g gd : Nat} {ownD : Nat → Nat} {d : DSt} {Bs : List Nat} {rs : List Rn} {w : World}
structure LeastAt (F : Bool) (rs : List Rn) (w : World) (i : Nat) (kk : Option (Nat × List UInt8)) (wr : World) : Prop where
  le : i ≤ rs.length
  eq : leastOf F rs = leastFrom F i kk (rs.drop i)
  of : ∀ j l, kk = some (j, l) → ∃ r, rs[j]? = some r ∧ r.next = l
  wd : ∃ m, wr = w.drewN m
theorem LeastAt.next {i : Nat} {kk : Option (Nat × List UInt8)} {wr : World} {r : Rn} (h : LeastAt F rs w i kk wr) (hr : rs[i]? = some r) {kk' : Option (Nat × List UInt8)} {wX : World} (hk : kk' = if r.over = false ∧ winsB F kk r.next = true then some (i, r.next) else kk) (hw : wX = wr.drew) : LeastAt F rs w (i + 1) kk' wX := by
  refine ⟨(List.getElem?_eq_some_iff.1 hr).1, ?_, fun j l e => ?_, ?_⟩
  · rw [h.eq, drop_oneA hr, leastFrom_cons, hk]
  · rw [hk] at e
    split at e
    · cases e; exact ⟨r, hr, rfl⟩
    · exact h.of j l e
  · obtain ⟨m, hm⟩ := h.wd
    exact ⟨m + 1, by rw [hw, hm]; rfl⟩
def LeastEnd (v : Value) (w : World) (e : Ending) (w' : World) : Prop := e = .returned v ∧ ∃ m, w' = w.drewN m
set_option maxRecDepth 100000 in
set_option maxHeartbeats 8000000 in
theorem least_any {p : Nat → Prop} (h : RunsAt F S base g gd ownD d Bs rs w) (v : Value) (hv : PtrsIn p w v Bs) (hl : Bs.length ≤ 1000) :
    Calls Tryz.prog 138 #[ptrV g, v] w (LeastEnd (leastV Bs (leastOf F rs)) w) := by
  have H0 := Lib.hid (show LeastAt F rs w 0 none w from ⟨Nat.zero_le _, rfl, (fun j l e => by cases e), 0, rfl⟩)
  have HR := Lib.hid h
  have HLen := Lib.hid h.len
  obtain ⟨av, cv, rfl, hcap, hcell⟩ := hv
  have HCell := Lib.hid hcell
  have q0 : (Bs.length : Int) ≤ 1000 := by omega
  have q1 : (Bs.length : Int) ≤ (cv : Int) := by omega
  have hent := cmp_enters
  clear h hcell hl
  unfold ptrV
  go_enter Tryz.func138, Tryz.ntmps138
  go_wp2_with fail
  go_loopw [5, 10] (fun fv iv wr => ∃ (i : Nat) (kk : Option (Nat × List UInt8)), fv = leastV Bs kk ∧ iv = .int .i64 i ∧ RowKit.Hid (LeastAt F rs w i kk wr)) (fun _ iv _ => Bs.length - (intOf iv).toNat)
  case atStart => exact ⟨0, none, rfl, rfl, H0⟩
  case round =>
    clear H0
    obtain ⟨i, kk, rfl, rfl, HI⟩ := hrel
    by_cases hlt : i < Bs.length
    · obtain ⟨k, hk⟩ : ∃ k, Bs[i]? = some k := ⟨_, List.getElem?_eq_getElem hlt⟩
      obtain ⟨r, hr⟩ : ∃ r, rs[i]? = some r := ⟨_, List.getElem?_eq_getElem (by rw [← HLen.out]; exact hlt)⟩
      obtain ⟨m, hm⟩ := HI.out.wd
      obtain ⟨gb, off, rfl, hpg, hc⟩ := HCell.out i k hk
      have hcw : wr.cell? ⟨gb, off + i, none⟩ = some (.pointer (some ⟨k, 0, none⟩)) := by rw [hm]; exact hc
      have hRd : RunsAt F S base g gd ownD d Bs rs wr.drew := HR.out.below (by rw [hm]; exact ⟨rfl, rfl, rfl, Nat.le_refl _, fun _ _ => rfl⟩)
      have hrun := hRd.run i k r hk hr
      have c73 := hRd.c73
      have r2 := hrun.c2
      have r3 := hrun.c3
      have hkk : ∀ j l, kk = some (j, l) → ∃ kj : Nat, leastV Bs kk = .pointer (some ⟨kj, 0, none⟩) ∧ wr.drew.cell? ⟨kj, 2, none⟩ = some (strV l) := fun j l e => by
        obtain ⟨rj, hj, hnx⟩ := HI.out.of j l e
        have hjl : j < Bs.length := by rw [hRd.len]; exact (List.getElem?_eq_some_iff.1 hj).1
        have hb : Bs[j]? = some Bs[j] := List.getElem?_eq_getElem hjl
        refine ⟨Bs[j], by rw [e]; show ptrV (Bs.getD j 0) = _; rw [List.getD_eq_getElem?_getD, hb]; rfl, ?_⟩
        have := (hRd.run j _ rj hb hj).c2
        rw [hnx] at this
        exact this
      have hnew : leastV Bs (some (i, r.next)) = .pointer (some ⟨k, 0, none⟩) := by
        show ptrV (Bs.getD i 0) = _
        rw [List.getD_eq_getElem?_getD, hk]
        rfl
      have HNew := Lib.hid hnew
      have HNext := Lib.hid (fun (kk' : Option (Nat × List UInt8)) (wX : World) (e1 : kk' = if r.over = false ∧ winsB F kk r.next = true then some (i, r.next) else kk) (e2 : wX = wr.drew) => HI.out.next hr e1 e2)
      have v1 : (i : Int) < (Bs.length : Int) := by omega
      obtain ⟨A, hA⟩ : ∃ A : ByteArray, strV r.next = .string A := ⟨_, rfl⟩
      rw [hA] at r2
      have HA := Lib.hid hA
      obtain ⟨fv, hfv⟩ : ∃ fv, fv = leastV Bs kk := ⟨_, rfl⟩
      have HFv := Lib.hid hfv
      have HKk := Lib.hid hkk
      clear hk hr hm hc hpg hRd hrun hnew hA HI hkk
      unfold cmpV at c73
      cases hov : r.over with
      | true =>
        rw [hov] at r3
        have HX := Lib.hid (HNext.out kk wr.drew (by rw [if_neg (by rw [hov]; simp)]) rfl)
        clear HNext hov HNew HKk hfv
        go_upto_region 5 with fail
        refine region_stillG (by kernel_rfl) (by kernel_rfl) ?_
        clear hcw
        generalize wr.drew = wd at c73 r2 r3 HX ⊢
        repeat (refine stillG_step (fun K hK => ?_); go_simp; refine hK.out _ ?_; clear hK K)
        refine stillG_nil ?_
        go_wp2_with fail
        go_roundw
        case rel => exact ⟨i + 1, kk, rfl, by go_num, HX⟩
        case measure => simp [intOf]; omega
      | false =>
        rw [hov] at r3
        cases kk with
        | none =>
          have HX := Lib.hid (HNext.out (some (i, r.next)) wr.drew (by rw [if_pos ⟨hov, rfl⟩]) rfl)
          clear HNext hov HKk hfv
          unfold leastV
          go_upto_region 5 with fail
          refine region_stillG (by kernel_rfl) (by kernel_rfl) ?_
          clear hcw
          generalize wr.drew = wd at c73 r2 r3 HX ⊢
          repeat (refine stillG_step (fun K hK => ?_); go_simp; refine hK.out _ ?_; clear hK K)
          refine stillG_nil ?_
          go_wp2_with fail
          go_roundw
          case rel => exact ⟨i + 1, some (i, r.next), HNew.out.symm, by go_num, HX⟩
          case measure => simp [intOf]; omega
        | some jl =>
          obtain ⟨j, l⟩ := jl
          obtain ⟨kj, e1, e2⟩ := HKk.out j l rfl
          obtain ⟨B, hB⟩ : ∃ B : ByteArray, strV l = .string B := ⟨_, rfl⟩
          rw [hB] at e2
          have HC := Lib.hid (cmp_at F r.next l A B HA.out hB)
          have hlt2 := cmpI_lt F r.next l
          obtain ⟨c, hc⟩ : ∃ c, c = cmpI F r.next l := ⟨_, rfl⟩
          rw [← hc] at HC hlt2
          have HE1 := Lib.hid e1
          rw [e1]
          clear hc hB hfv HKk e1
          by_cases hah : aheadB F r.next l = true
          · have hc0 : c < 0 := hlt2.2 hah
            have hd0 : decide (c < 0) = true := decide_eq_true hc0
            have HX := Lib.hid (HNext.out (some (i, r.next)) wr.drew (by rw [if_pos ⟨hov, hah⟩]) rfl)
            clear HNext hov hlt2 hah
            go_upto_region 5 with fail
            refine region_stillG (by kernel_rfl) (by kernel_rfl) ?_
            clear hcw
            generalize wr.drew = wd at c73 r2 r3 e2 HX ⊢
            repeat (refine stillG_step (fun K hK => ?_); go_simp; refine hK.out _ ?_; clear hK K)
            refine stillG_step (fun K hK => ?_)
            go_simp
            refine ⟨_, HC.out _, hK.out _ ?_⟩
            clear hK K
            repeat (refine stillG_step (fun K hK => ?_); go_simp; refine hK.out _ ?_; clear hK K)
            refine stillG_nil ?_
            go_wp2_with fail
            go_roundw
            case rel => exact ⟨i + 1, some (i, r.next), HNew.out.symm, by go_num, HX⟩
            case measure => simp [intOf]; omega
          · have hc0 : ¬ c < 0 := fun e => hah (hlt2.1 e)
            have hd0 : decide (c < 0) = false := decide_eq_false hc0
            have HX := Lib.hid (HNext.out (some (j, l)) wr.drew (by rw [if_neg (fun e => hah e.2)]) rfl)
            clear HNext hov hlt2 hah
            go_upto_region 5 with fail
            refine region_stillG (by kernel_rfl) (by kernel_rfl) ?_
            clear hcw
            generalize wr.drew = wd at c73 r2 r3 e2 HX ⊢
            repeat (refine stillG_step (fun K hK => ?_); go_simp; refine hK.out _ ?_; clear hK K)
            refine stillG_step (fun K hK => ?_)
            go_simp
            refine ⟨_, HC.out _, hK.out _ ?_⟩
            clear hK K
            repeat (refine stillG_step (fun K hK => ?_); go_simp; refine hK.out _ ?_; clear hK K)
            refine stillG_nil ?_
            go_wp2_with fail
            go_roundw
            case rel => exact ⟨i + 1, some (j, l), HE1.out.symm, by go_num, HX⟩
            case measure => simp [intOf]; omega
    · have hi : rs.drop i = [] := List.drop_of_length_le (by rw [← HLen.out]; omega)
      have hend : leastOf F rs = kk := by rw [HI.out.eq, hi]; rfl
      have v1 : ¬ (i : Int) < (Bs.length : Int) := by omega
      have HEnd := Lib.hid hend
      have HWd := Lib.hid HI.out.wd
      clear HI hi hlt hend
      obtain ⟨fv, hfv⟩ : ∃ fv, fv = leastV Bs kk := ⟨_, rfl⟩
      rw [← hfv]
      have HFv := Lib.hid hfv
      clear hfv
      go_wp2_with fail
      go_ret
      rw [HEnd.out]
      exact ⟨by rw [HFv.out]; rfl, HWd.out⟩
end

end Go.Proofs.YtpgigpajpcianaaGreatDoor

namespace Go.Proofs.YtpgigpajpcianaaGreatDoor
open Go.RowKit

theorem DiskLeft.of_below {base g : Nat} {own : Nat → Nat} {S : Script} {s' : DSt} {w w1 w' : World} (h : DiskLeft base g own S s' w1 w') (hb : Below w.heap.size w w1) : DiskLeft base g own S s' w w' := by
  obtain ⟨o, h1, h2, h3⟩ := h
  exact ⟨o, h1, fun k hk => h2 k (Nat.lt_of_lt_of_le hk hb.size), (Below.toFrame hb _).trans h3⟩
theorem text_one (w : World) (x : List UInt8) (S : ByteArray) (hS : strV x = .string S) (m : Nat × Nat) : IsTexts (fun _ => True) (w.alloc (.cells #[.string S] 9 m)) (.slice (some ⟨w.heap.size, 0, none⟩) 1 1) [x] := by
  refine ⟨_, 1, rfl, fun j c hj => ⟨_, _, rfl, trivial, ?_⟩⟩
  match j, hj with
  | 0, hj =>
    simp at hj
    subst hj
    rw [cell_of_row _ _ _ _ _ _ (heap_alloc_last w _), hS]
    rfl
theorem joinL_one (l : List UInt8) : joinL [l] = l ++ [10] := by simp [joinL]
theorem removeAll_congr (S : Script) : ∀ (rs rs' : List Rn) (d : DSt), rs.map (·.no) = rs'.map (·.no) → removeAll S d rs = removeAll S d rs'
  | [], [], _, _ => rfl
  | [], _ :: _, _, h => by simp at h
  | _ :: _, [], _, h => by simp at h
  | r :: rs, r' :: rs', d, h => by
    simp only [List.map_cons, List.cons.injEq] at h
    have e1 : removeAll S d (r :: rs) = if removeE S d r.no ≠ 0 then (removeS S d r.no, removeE S d r.no) else removeAll S (removeS S d r.no) rs := rfl
    have e2 : removeAll S d (r' :: rs') = if removeE S d r'.no ≠ 0 then (removeS S d r'.no, removeE S d r'.no) else removeAll S (removeS S d r'.no) rs' := rfl
    rw [e1, e2, h.1, removeAll_congr S rs rs' _ h.2]
section
variable {F : Bool} {S : Script} {base g gd : Nat} {ownD : Nat → Nat} {d : DSt} {Bs : List Nat} {rs : List Rn} {w : World}
theorem Tryz.built_run (n : Int) : Tryz.prog.built 143 [(0, .int .i64 n)] = some #[.int .i64 n, .int .i64 0, .string ByteArray.empty, .bool false] := by kernel_rfl
structure MergeAt (F : Bool) (S : Script) (base g gd : Nat) (ownD : Nat → Nat) (Bs : List Nat) (rs : List Rn) (no : Int) (R : DSt × List Rn × Int) (C B : Nat) (w : World) (gh : Nat) (pv : Value) (wr : World) : Prop where
  is : ∃ ownI di ri Li ti f, RunsAt F S base g gd ownI di Bs ri wr ∧ (∀ k, k < w.heap.size → ownI k = ownD k) ∧ Frame (fun k => ownD k ≠ 0 ∨ k ∈ Bs) w wr ∧ MS no di ri Li ti ∧ lsum Li ≤ f ∧ lsum Li ≤ gh ∧ SmallD (C - 2 * lsum Li) B di ∧ ri.map (·.no) = rs.map (·.no) ∧ 2 * lsum Li ≤ C ∧ ti.length + wsum Li ≤ B ∧ R = mergeGo S F no f di ri ∧ pv = leastV Bs (leastOf F ri)
def MergeEnd (F : Bool) (S : Script) (base g gd : Nat) (ownD : Nat → Nat) (Bs : List Nat) (q : DSt × Option Rn × Int) (w : World) (e : Ending) (w' : World) : Prop :=
  ∃ pv rs', e = .returned (.tuple #[pv, .int .i64 q.2.2]) ∧ (∃ ownD', RunsAt F S base g gd ownD' q.1 Bs rs' w' ∧ (∀ k, k < w.heap.size → ownD' k = ownD k) ∧ Frame (fun k => ownD k ≠ 0 ∨ k ∈ Bs) w w' ∧
    (q.2.2 = 0 → ∃ kr r, pv = ptrV kr ∧ q.2.1 = some r ∧ RunAt kr r w' ∧ ownD' kr = 0 ∧ kr ≠ g ∧ kr ≠ 1 ∧ (kr ∈ Bs ∨ w.heap.size ≤ kr)))
set_option maxRecDepth 100000 in
set_option maxHeartbeats 16000000 in
theorem merge_any {p : Nat → Prop} {Ms : List Lines} (C B : Nat) (h : RunsAt F S base g gd ownD d Bs rs w) (hok : RunsOk F d rs Ms) (hs : SmallD (C - (1 + 2 * rs.length + 2 * lsum Ms)) B d) (hC0 : 1 + 2 * rs.length + 2 * lsum Ms ≤ C) (hC : C ≤ 1000000) (hB : wsum Ms ≤ B) (hB2 : B ≤ 1000000) (v : Value) (hv : PtrsIn p w v Bs) (hp : ∀ k, p k → ownD k = 0 ∧ k ∉ Bs) (hl : Bs.length ≤ 1000) (hne : rs ≠ []) :
    Calls Tryz.prog 137 #[ptrV g, v] w (MergeEnd F S base g gd ownD Bs (mergeR S F d rs) w) := by
  have HOk := Lib.hid hok
  have HR := Lib.hid h
  have HLen := Lib.hid h.len
  have HV := Lib.hid (hv.mono (q := fun k => ownD k = 0 ∧ k ∉ Bs ∧ k < w.heap.size) (fun k hk e => ⟨(hp k e).1, (hp k e).2, hk⟩))
  obtain ⟨av, cv, rfl, hcap, hcell⟩ := hv
  by_cases h1 : rs.length = 1
  · obtain ⟨r, rfl⟩ := List.length_eq_one_iff.1 h1
    obtain ⟨k, rfl⟩ := List.length_eq_one_iff.1 (h.len.trans h1)
    obtain ⟨gb, off, rfl, hpg, hc⟩ := hcell 0 k rfl
    have HRun := Lib.hid (h.run 0 k r rfl rfl)
    have HAp := Lib.hid (h.apart k (by simp))
    have q1 : (1 : Int) ≤ (cv : Int) := by simp at hcap; omega
    rw [mergeR_one]
    simp only [List.length_cons, List.length_nil, Nat.zero_add]
    have hc' : w.cell? ⟨gb, off, none⟩ = some (.pointer (some ⟨k, 0, none⟩)) := hc
    clear hcell hc h hok hs hC0 hC hB hB2 hp hl hne h1 hcap hpg
    unfold ptrV
    go_enter Tryz.func137, Tryz.ntmps137
    go_wp2_with fail
    go_ret2
    exact ⟨_, [r], rfl, ownD, HR.out, fun _ _ => rfl, Frame.refl _ _, fun _ => ⟨k, r, rfl, rfl, HRun.out, HAp.out.1, HAp.out.2.1, HAp.out.2.2, .inl (by simp)⟩⟩
  · have h2 : Bs.length ≠ 1 := by rw [h.len]; exact h1
    have g1 : ((Bs.length : Int) == 1) = false := by simp; omega
    have g2 : ¬ ((Bs.length : Int) = 1) := by omega
    have HQ := Lib.hid (mergeR_many (S := S) (F := F) d rs h1)
    have HCre := Lib.hid (create_any h.disk (hs.small (by omega) hB2))
    have c74 := h.c74
    have HS := Lib.hid hs
    have HC0 := Lib.hid hC0
    have HC1 := Lib.hid hC
    have HB1 := Lib.hid hB
    have HB2 := Lib.hid hB2
    have HL := Lib.hid hl
    have HNe := Lib.hid hne
    obtain ⟨q, hq⟩ : ∃ q, q = mergeR S F d rs := ⟨_, rfl⟩
    rw [← hq] at HQ ⊢
    obtain ⟨E, hE⟩ : ∃ E, E = createE S d := ⟨_, rfl⟩
    obtain ⟨no, hno⟩ : ∃ no, no = createN S d := ⟨_, rfl⟩
    rw [← hE, ← hno] at HCre
    have HE := Lib.hid hE
    have HNo := Lib.hid hno
    have hcs : createS S d = createS S d := rfl
    clear hcell h hok hs hC0 hC hB hB2 hp hl hne h1 h2 hq hE hno hcs
    unfold ptrV at c74 ⊢
    go_enter Tryz.func137, Tryz.ntmps137
    go_wp2_with fail
    refine HCre.out.mono ?_
    rintro e w1 ⟨rfl, own1, k1, k2, k3⟩
    have HR1 := Lib.hid (HR.out.disks k1 k2 k3)
    have HO1 := Lib.hid k2
    have HF1 := Lib.hid (k3.mono (q := fun k => ownD k ≠ 0 ∨ k ∈ Bs) (fun _ _ e => .inl e))
    have HV1 := Lib.hid (HV.out.frame k3 (fun k hk e => e hk.1))
    clear k1 k2 k3 c74 HCre
    by_cases h0 : E = 0
    case neg =>
      have f1 : (E != 0) = true := by simpa using h0
      have HE0 := Lib.hid h0
      clear h0
      go_wp2_with fail
      go_ret2
      rw [HQ.out, ← HE.out, if_pos HE0.out]
      exact ⟨_, rs, rfl, own1, HR1.out, HO1.out, HF1.out, fun e => absurd e HE0.out⟩
    case pos =>
      have f1 : (E != 0) = false := by simpa using h0
      have HE0 := Lib.hid h0
      have hcr : createE S d = 0 := by rw [← HE.out]; exact h0
      have hcre : (createS S d).n = d.n + 1 ∧ (createS S d).T = d.T ++ [([], true)] ∧ d.T.length < 64 := by
        rcases create_is S d with ⟨a1, a2, a3, a4⟩ | ⟨a1, -⟩ | ⟨a1, -⟩
        · rw [a2]; exact ⟨rfl, rfl, a4⟩
        · rw [a1] at hcr; cases hcr
        · rw [a1] at hcr; cases hcr
      have hs1 : SmallD (C - (2 * rs.length + 2 * lsum Ms)) B (createS S d) := by
        have hs := HS.out
        have := HC0.out
        refine ⟨by rw [hcre.1]; have := hs.n; omega, by rw [hcre.2.1, List.length_append]; simp only [List.length_cons, List.length_nil]; omega, fun t ht => ?_⟩
        rw [hcre.2.1] at ht
        rcases List.mem_append.1 ht with ht | ht
        · exact hs.t t ht
        · rw [List.mem_singleton.1 ht]; exact Nat.zero_le _
      have hrs1 : ∀ r ∈ rs, I64 r.no ∧ r.at' ≤ 1000000 := fun r hr => by
        obtain ⟨M, -, hfr, hf, -⟩ := HOk.out.mem hr
        have h3 := fileAt_range hf
        have h4 := HS.out.T
        exact ⟨⟨by omega, by omega⟩, by rw [hfr]; exact Nat.zero_le _⟩
      have HNoR := Lib.hid (show ∀ n ∈ rs.map (·.no), I64 n from fun n hn => by
        obtain ⟨r, hr, rfl⟩ := List.mem_map.1 hn
        exact (hrs1 r hr).1)
      have HFi := Lib.hid (readFirst_any HR1.out (hs1.small (by have := HC1.out; omega) HB2.out) (by have := hs1.n; have := HC0.out; have := HC1.out; omega) hrs1 _ HV1.out (fun k hk => ⟨by rw [HO1.out k hk.2.2]; exact hk.1, hk.2.1⟩) HL.out)
      have HS1 := Lib.hid hs1
      have hbh : ∀ (k : Nat) (r : Rn) (L : Lines), rs[k]? = some r → Ms[k]? = some L → Behind (createS S d).T r L := fun k r L h1 h2 => by
        obtain ⟨a, b, c, e, -⟩ := HOk.out.file k r L h1 h2
        refine ⟨joinL L, [], ?_, rfl, by rw [a]; rfl, e⟩
        rw [hcre.2.1]
        exact (fileAt_old _ b).1
      obtain ⟨b1, b2, b3, b4⟩ := readAll_is (S := S) rs (createS S d) Ms HOk.out.len hbh
      have HRd := Lib.hid (show (readAll S (createS S d) rs).1.T = (createS S d).T ∧ (readAll S (createS S d) rs).1.n ≤ (createS S d).n + rs.length from ⟨b1, b2⟩)
      have HMs := Lib.hid (fun h0 => merge_ms (S := S) HOk.out hcr h0)
      have HNos := Lib.hid (fun h0 => (b4 h0).2.2)
      have HCr := Lib.hid hcr
      obtain ⟨RA, hRA⟩ : ∃ RA, RA = readAll S (createS S d) rs := ⟨_, rfl⟩
      rw [← hRA] at HFi HRd HMs HNos HQ
      obtain ⟨E1, hE1⟩ : ∃ E1, E1 = RA.2.2 := ⟨_, rfl⟩
      rw [← hE1] at HFi HMs HNos HQ
      rw [← HE.out, HE0.out, if_neg (by simp)] at HQ
      clear hcre hs1 hrs1 hbh b1 b2 b3 b4 hcr h0 hRA hE1 HE HE0
      unfold ptrV at HFi
      go_wp2_with fail
      refine HFi.out.mono ?_
      rintro e w2 ⟨rfl, own2, k1, k2, k3⟩
      obtain ⟨m1, m2⟩ := left_trans HO1.out HF1.out k2 k3
      have HR2 := Lib.hid k1
      have HO2 := Lib.hid m1
      have HF2 := Lib.hid m2
      have HV2 := Lib.hid (HV.out.frame m2 (fun k hk e => by rcases e with e | e; exact e hk.1; exact hk.2.1 e))
      clear k1 k2 k3 m1 m2 HFi HR1 HO1 HF1 HV1
      by_cases h0 : E1 = 0
      case neg =>
        have f1 : (E1 != 0) = true := by simpa using h0
        have HE0 := Lib.hid h0
        clear h0
        go_wp2_with fail
        go_ret2
        rw [HQ.out, if_pos HE0.out]
        exact ⟨_, _, rfl, own2, HR2.out, HO2.out, HF2.out, fun e => absurd e HE0.out⟩
      case pos =>
        have f1 : (E1 != 0) = false := by simpa using h0
        rw [if_neg (by rw [h0]; simp)] at HQ
        have HMS := Lib.hid (HMs.out h0)
        have HNs := Lib.hid (HNos.out h0)
        obtain ⟨R, hR⟩ : ∃ R, R = mergeGo S F (createN S d) fuelM RA.1 RA.2.1 := ⟨_, rfl⟩
        rw [← hR, ← HNo.out] at HQ
        rw [← HNo.out] at hR HMS
        have HLe := Lib.hid (least_any HR2.out _ HV2.out HL.out)
        have hat : ∀ n, MergeAt F S base g gd ownD Bs rs no R (C - rs.length) B w (lsum Ms) (leastV Bs (leastOf F RA.2.1)) (w2.drewN n) := fun n => by
          have hs1 := HS1.out
          have h5 := HC0.out
          refine ⟨own2, RA.1, RA.2.1, Ms, [], fuelM, HR2.out.below ⟨rfl, rfl, rfl, Nat.le_refl _, fun _ _ => rfl⟩, HO2.out, HF2.out.drewN n, HMS.out, ?_, Nat.le_refl _, ⟨?_, by rw [HRd.out.1]; exact hs1.T, by rw [HRd.out.1]; exact hs1.t⟩, HNs.out, by omega, by have := HB1.out; simpa using this, hR, rfl⟩
          · have := lsum_le_wsum Ms
            have := HB1.out
            have := HB2.out
            show _ ≤ 1000000
            omega
          · have := HRd.out.2
            have := hs1.n
            omega
        have HAt := Lib.hid hat
        clear h0 hR hat HMs HNos HMS HNs HS1 HRd
        unfold ptrV at HLe
        go_wp2_with fail
        refine HLe.out.mono ?_
        rintro e w3 ⟨rfl, n3, rfl⟩
        have HA0 := Lib.hid (HAt.out n3)
        clear HAt HLe HR2 HO2 HF2 HV2
        generalize w2.drewN n3 = w3 at HA0 ⊢
        generalize leastV Bs (leastOf F RA.2.1) = pv0 at HA0 ⊢
        go_wp2_with fail
        go_loopg [9] (lsum Ms) (fun gh pv wr => RowKit.Hid (MergeAt F S base g gd ownD Bs rs no R (C - rs.length) B w gh pv wr))
        case atStart => exact HA0
        case round =>
          clear HA0
          have HAt := hrel
          clear hrel
          obtain ⟨ownI, di, ri, Li, ti, f, hR, hO, hF, hms, hf, hgh, hsd, hmap, hC2, htB, hRq, hpv⟩ := HAt.out.is
          have HVr := Lib.hid (HV.out.frame hF (fun k hk e => by rcases e with e | e; exact e hk.1; exact hk.2.1 e))
          have hpr : ∀ k, (ownD k = 0 ∧ k ∉ Bs ∧ k < w.heap.size) → ownI k = 0 ∧ k ∉ Bs := fun k hk => ⟨by rw [hO k hk.2.2]; exact hk.1, hk.2.1⟩
          cases hlo : leastOf F ri with
          | none =>
            rw [hlo] at hpv
            have hz := least_all hms.len hms.reads hlo
            have hRz : R = (di, ri, 0) := by
              rw [hRq]
              cases f with
              | zero => rfl
              | succ f => rw [mergeGo_succ, hlo]
            have HRm := Lib.hid (remove_runs hR (hsd.small (by have := HC1.out; omega) HB2.out) (by have := hsd.n; have := congrArg List.length hmap; have := HC0.out; have := HC1.out; simp at *; omega) (fun r hr => HNoR.out r.no (by rw [← hmap]; exact List.mem_map.2 ⟨r, hr, rfl⟩)) _ HVr.out hpr HL.out)
            rw [hRz] at HQ
            rw [if_neg (by simp)] at HQ
            simp only at HQ
            rw [removeAll_congr S rs ri di hmap.symm] at HQ
            have HO3 := Lib.hid hO
            have HF3 := Lib.hid hF
            have HR3 := Lib.hid hR
            obtain ⟨E3, hE3⟩ : ∃ E3, E3 = (removeAll S di ri).2 := ⟨_, rfl⟩
            rw [← hE3] at HRm HQ
            subst hpv
            clear HAt hR hO hF hms hf hgh hsd hC2 htB hmap hRq hpr hlo hz hRz hE3 HVr
            unfold leastV
            unfold ptrV at HRm
            go_wp2_with fail
            refine HRm.out.mono ?_
            rintro e w4 ⟨rfl, own4, k1, k2, k3⟩
            obtain ⟨m1, m2⟩ := left_trans HO3.out HF3.out k2 k3
            have HR4 := Lib.hid k1
            have HO4 := Lib.hid m1
            have HF4 := Lib.hid m2
            clear k1 k2 k3 m1 m2 HRm HR3 HO3 HF3
            by_cases h0 : E3 = 0
            · have f2 : (E3 != 0) = false := by simpa using h0
              rw [if_neg (by rw [h0]; simp)] at HQ
              have HE0 := Lib.hid h0
              clear h0
              have hz1 := HF4.out.size
              have HSz := Lib.hid hz1
              clear hz1
              go_wp2_with (with_reducible refine wpList_build1 rfl 143 0 (.tmp 71) rfl (.int .i64 no) rfl _ (Tryz.built_run no) ?_)
              go_ret2
              rw [HQ.out, HE0.out]
              have hb5 : Below w4.heap.size w4 (w4.alloc (.cells #[.int .i64 no, .int .i64 0, .string ByteArray.empty, .bool false] 143)) := (Below.refl _ _).alloc (Nat.le_refl _) _
              have h5 := HR4.out.below hb5
              have hbd := HR4.out.disk.bnd
              refine ⟨_, ri, rfl, own4, h5, HO4.out, HF4.out.trans (Below.toFrame hb5 _), fun _ => ⟨w4.heap.size, fresh no, rfl, by rw [HNo.out], ?_, ?_, ?_, ?_, .inr HSz.out⟩⟩
              · have := heap_alloc_last w4 (.cells #[.int .i64 no, .int .i64 0, .string ByteArray.empty, .bool false] 143)
                exact this
              · cases hz : own4 w4.heap.size with
                | zero => rfl
                | succ m => have := (hbd w4.heap.size (by rw [hz]; exact Nat.succ_ne_zero _)).2; omega
              · have := HR4.out.glt; omega
              · have := HR4.out.max.lt; omega
            · have f2 : (E3 != 0) = true := by simpa using h0
              rw [if_pos h0] at HQ
              have HE0 := Lib.hid h0
              clear h0
              go_wp2_with fail
              go_ret2
              rw [HQ.out]
              exact ⟨_, _, rfl, own4, HR4.out, HO4.out, HF4.out, fun e => absurd e HE0.out⟩
          | some kl =>
            obtain ⟨k, l⟩ := kl
            obtain ⟨f, rfl⟩ : ∃ f', f = f' + 1 := by
              obtain ⟨r, L, -, h2, -⟩ := least_head hms.len hms.reads hlo
              have := lsum_at h2
              simp at this
              exact ⟨f - 1, by omega⟩
            rw [mergeGo_succ, hlo] at hRq
            simp only at hRq
            obtain ⟨x0, x1, x2, x3⟩ := ms_write (S := S) hms hlo
            obtain ⟨r, r1, r2, r3, -⟩ := least_some hlo
            have hkb : k < Bs.length := by rw [hR.len]; exact (List.getElem?_eq_some_iff.1 r1).1
            obtain ⟨kb, hkb⟩ : ∃ kb, Bs[k]? = some kb := ⟨_, List.getElem?_eq_getElem hkb⟩
            have hpv2 := hpv.trans (show leastV Bs (leastOf F ri) = .pointer (some ⟨kb, 0, none⟩) by rw [hlo]; show ptrV (Bs.getD k 0) = _; rw [List.getD_eq_getElem?_getD, hkb]; rfl)
            have hrun := hR.run k kb r hkb r1
            have n2 := hrun.c2
            rw [r3] at n2
            obtain ⟨SL, hSL⟩ : ∃ SL : ByteArray, strV l = .string SL := ⟨_, rfl⟩
            rw [hSL] at n2
            have c74 := hR.c74
            unfold ptrV at c74
            have hno : I64 no := by
              have h3 := fileAt_range hms.target
              have h4 := hsd.T
              exact ⟨by omega, by omega⟩
            have hsm : Small di := hsd.small (by have := HC1.out; omega) HB2.out
            have hRd := hR.below ((Below.refl _ _).drew)
            have HJn := Lib.hid (join_any (.slice (some ⟨wr.drew.heap.size, 0, none⟩) 1 1) [l] (wr.drew.alloc (.cells #[.string SL] 9)) (text_one wr.drew l SL hSL (0, 0)) (by simp) (by rw [joinL_one]; simp; omega))
            rw [joinL_one] at HJn
            have HWr := Lib.hid (fun (w2 : World) (hb : Below wr.heap.size wr w2) (x : Value) (b0 : Nat) (hb0 : wr.heap.size ≤ b0) (ho : w2.ownsRow b0 5 1 x (l ++ [10]).length (bytesL (l ++ [10]))) =>
              (write_any (hR.disk.below hb) hsm hno x (l ++ [10]) (isBytes_of_owns ho) (fun i hi => by
                cases hz : ownI i with
                | zero => rfl
                | succ m => have := (hR.disk.bnd i (by rw [hz]; exact Nat.succ_ne_zero _)).2; omega)).mono fun e w3 hh => (⟨hh.1, hh.2.of_below hb⟩ : e = .returned (.int .i64 (writeE S di no (l ++ [10]))) ∧ DiskLeft base gd ownI S (writeS S di no (l ++ [10])) wr w3))
            obtain ⟨y, hy⟩ : ∃ y, y = l ++ [10] := ⟨_, rfl⟩
            rw [← hy] at HJn HWr
            have HYy := Lib.hid hy
            have HC74 := Lib.hid (fun (w2 : World) (hb : Below wr.heap.size wr w2) => (World.cell?_of_block (a := ⟨g, 74, none⟩) (w := wr) (hb.block g hR.glt)).trans c74)
            have hb0 : Below wr.heap.size wr (wr.drew.alloc (.cells #[.string SL] 9)) := ((Below.refl _ _).drew).alloc (Nat.le_refl _) _
            have HB0 := Lib.hid hb0
            have HRk := Lib.hid hR
            have HOk2 := Lib.hid hO
            have HFk := Lib.hid hF
            have HHx1 := Lib.hid x1
            have HHx3 := Lib.hid x3
            have HHx2 := Lib.hid x2
            have HRq := Lib.hid hRq
            have HSd := Lib.hid hsd
            have HMapk := Lib.hid hmap
            have HNums := Lib.hid (show lsum Li ≤ f + 1 ∧ lsum Li ≤ gk ∧ 2 * lsum Li ≤ C - rs.length ∧ ti.length + wsum Li ≤ B from ⟨hf, hgh, hC2, htB⟩)
            have HHlo := Lib.hid hlo
            have HR1k := Lib.hid r1
            have HKb := Lib.hid hkb
            have HMsk := Lib.hid hms
            have HNoI := Lib.hid hno
            have HX0 := Lib.hid x0
            obtain ⟨EW, hEW⟩ : ∃ EW, EW = writeE S di no (l ++ [10]) := ⟨_, rfl⟩
            obtain ⟨dW, hdW⟩ : ∃ dW, dW = writeS S di no (l ++ [10]) := ⟨_, rfl⟩
            rw [hy, ← hEW, ← hdW, ← hy] at HWr
            have HEW := Lib.hid hEW
            have HDW := Lib.hid hdW
            subst hpv2
            clear hy HAt hR hO hF hms hf hgh hsd hC2 htB hmap hRq hpr hlo x0 x1 x2 x3 r1 r2 r3 hkb hrun hno hsm hRd hb0 hEW hdW hpv hSL
            go_upto_region 12 with fail
            go_cut [10] (fun x W => x = .int .i64 EW ∧ RowKit.Hid (DiskLeft base gd ownI S dW wr W))
            case first =>
              have HN2 := Lib.hid (fun (W : World) (hb : Below wr.heap.size wr W) => (World.cell?_of_block (a := ⟨kb, 2, none⟩) (w := wr) (hb.block kb (block_lt_of_cell n2))).trans n2)
              have HS3 := Lib.hid (fun (w3 : World) (hl : DiskLeft base gd ownI S dW wr w3) => (by
                obtain ⟨o3, -, -, e3⟩ := hl
                exact ⟨e3.cell? c74 (fun e => e HRk.out.ag), e3.cell? n2 (fun e => e (HRk.out.apart kb (List.mem_of_getElem? HKb.out)).1)⟩ : w3.cell? ⟨g, 74, none⟩ = some (.pointer (some ⟨gd, 0, none⟩)) ∧ w3.cell? ⟨kb, 2, none⟩ = some (.string SL)))
              have hw : wr.drew.cell? ⟨g, 74, none⟩ = some (.pointer (some ⟨gd, 0, none⟩)) ∧ wr.drew.cell? ⟨kb, 2, none⟩ = some (.string SL) := ⟨c74, n2⟩
              clear n2 c74
              refine anyG_start (S := fun W => W.cell? ⟨g, 74, none⟩ = some (.pointer (some ⟨gd, 0, none⟩)) ∧ W.cell? ⟨kb, 2, none⟩ = some (.string SL)) (by kernel_rfl) ?_
              generalize hWd : wr.drew = Wd at hw HJn HB0 ⊢
              clear hWd
              refine anyG_take (i := 0) 44 (.pointer (some ⟨g, 0, none⟩)) rfl rfl (by kernel_rfl) (by kernel_rfl) (by kernel_rfl) rfl (fun _ _ => by go_simp) hw ?_
              simp only [Act.put, List.setIfInBounds_toArray, List.set_cons_succ, List.set_cons_zero]
              refine anyG_take (i := 1) 45 (.pointer (some ⟨g, 0, none⟩)) rfl rfl (by kernel_rfl) (by kernel_rfl) (by kernel_rfl) rfl (fun _ _ => by go_simp) hw ?_
              simp only [Act.put, List.setIfInBounds_toArray, List.set_cons_succ, List.set_cons_zero]
              refine anyG_take (i := 2) 46 (.pointer (some ⟨g, 74, none⟩)) rfl rfl (by kernel_rfl) (by kernel_rfl) (by kernel_rfl) rfl (fun _ _ => by go_simp) hw ?_
              simp only [Act.put, List.setIfInBounds_toArray, List.set_cons_succ, List.set_cons_zero]
              refine anyG_take (i := 3) 47 (.pointer (some ⟨gd, 0, none⟩)) rfl rfl (by kernel_rfl) (by kernel_rfl) (by kernel_rfl) rfl (fun W h => by have z := h.1; go_simp) hw ?_
              simp only [Act.put, List.setIfInBounds_toArray, List.set_cons_succ, List.set_cons_zero]
              refine anyG_take (i := 4) 48 (.int .i64 no) rfl rfl (by kernel_rfl) (by kernel_rfl) (by kernel_rfl) rfl (fun _ _ => by go_simp) hw ?_
              simp only [Act.put, List.setIfInBounds_toArray, List.set_cons_succ, List.set_cons_zero]
              refine anyG_take (i := 5) 49 (.pointer (some ⟨kb, 0, none⟩)) rfl rfl (by kernel_rfl) (by kernel_rfl) (by kernel_rfl) rfl (fun _ _ => by go_simp) hw ?_
              simp only [Act.put, List.setIfInBounds_toArray, List.set_cons_succ, List.set_cons_zero]
              refine anyG_take (i := 6) 50 (.pointer (some ⟨kb, 0, none⟩)) rfl rfl (by kernel_rfl) (by kernel_rfl) (by kernel_rfl) rfl (fun _ _ => by go_simp) hw ?_
              simp only [Act.put, List.setIfInBounds_toArray, List.set_cons_succ, List.set_cons_zero]
              refine anyG_take (i := 7) 51 (.pointer (some ⟨kb, 2, none⟩)) rfl rfl (by kernel_rfl) (by kernel_rfl) (by kernel_rfl) rfl (fun _ _ => by go_simp) hw ?_
              simp only [Act.put, List.setIfInBounds_toArray, List.set_cons_succ, List.set_cons_zero]
              refine anyG_take (i := 8) 52 (.string SL) rfl rfl (by kernel_rfl) (by kernel_rfl) (by kernel_rfl) rfl (fun W h => by have z := h.2; go_simp) hw ?_
              simp only [Act.put, List.setIfInBounds_toArray, List.set_cons_succ, List.set_cons_zero]
              refine anyG_step (i := 9) rfl (by kernel_rfl) rfl (fun K hK => ?_)
              go_simp
              refine hK.out _ _ ⟨HC74.out _ HB0.out, HN2.out _ HB0.out⟩ ?_
              clear hK K
              try simp only [Act.put, List.setIfInBounds_toArray, List.set_cons_succ, List.set_cons_zero]
              refine anyG_step (i := 10) rfl (by kernel_rfl) rfl (fun K hK => ?_)
              go_simp
              refine HJn.out.mono ?_
              rintro e w2 ⟨xv, rfl, ho, hb⟩
              have HB := Lib.hid (HB0.out.trans (hb.mono HB0.out.size))
              have HO := Lib.hid ho
              obtain ⟨xa, xc, rfl⟩ := owns_slice ho
              clear ho hb
              refine hK.out _ _ ⟨HC74.out _ HB.out, HN2.out _ HB.out⟩ ?_
              clear hK K
              try simp only [Act.put, List.setIfInBounds_toArray, List.set_cons_succ, List.set_cons_zero]
              refine anyG_step (i := 11) rfl (by kernel_rfl) rfl (fun K hK => ?_)
              go_simp
              refine (HWr.out _ HB.out _ _ HB0.out.size HO.out).mono ?_
              rintro e w3 ⟨rfl, hleft⟩
              have HLf := Lib.hid hleft
              clear hleft
              refine hK.out _ _ (HS3.out _ HLf.out) ?_
              clear hK K
              try simp only [Act.put, List.setIfInBounds_toArray, List.set_cons_succ, List.set_cons_zero]
              refine anyG_take (i := 12) 10 (.int .i64 EW) rfl rfl (by kernel_rfl) (by kernel_rfl) (by kernel_rfl) rfl (fun _ _ => rfl) (HS3.out _ HLf.out) ?_
              simp only [Act.put, List.setIfInBounds_toArray, List.set_cons_succ, List.set_cons_zero]
              refine anyG_done (by kernel_rfl) ?_
              go_wp2_with fail
              go_meet
              case rel => exact ⟨rfl, HLf⟩
            case rest =>
            obtain ⟨rfl, HLf⟩ := hcut
            obtain ⟨ownW, k1, k2, k3⟩ := HLf.out
            have hf5 : Frame (fun k => ownI k ≠ 0 ∨ k ∈ Bs) wr wc := k3.mono (fun _ _ e => .inl e)
            obtain ⟨m1, m2⟩ := left_trans HOk2.out HFk.out k2 hf5
            have HRw := Lib.hid (HRk.out.disks k1 k2 k3)
            have HOw := Lib.hid m1
            have HFw := Lib.hid m2
            clear k1 k2 k3 hf5 m1 m2 HLf HRk HOk2 HFk c74 n2 HJn HWr HC74 HB0
            by_cases h0 : EW = 0
            case neg =>
              have f2 : (EW != 0) = true := by simpa using h0
              have hRn : R = (dW, ri, EW) := by rw [HRq.out, ← HEW.out, if_pos h0, HDW.out]
              rw [hRn, if_pos h0] at HQ
              have HE0 := Lib.hid h0
              clear h0 hRn
              go_wp2_with fail
              go_ret2
              rw [HQ.out]
              exact ⟨_, ri, rfl, ownW, HRw.out, HOw.out, HFw.out, fun e => absurd e HE0.out⟩
            case pos =>
              have f2 : (EW != 0) = false := by simpa using h0
              have hcz : cntE S di = 0 := by rw [← HHx1.out, ← HEW.out]; exact h0
              obtain ⟨y1, y2, y3⟩ := HHx3.out hcz
              rw [← HDW.out] at y1 y2 y3
              obtain ⟨r', L, z1, z2, z3, z4, z5⟩ := ms_read (S := S) y1 HHlo.out
              rw [HR1k.out] at z1
              cases z1
              have hsd := HSd.out
              obtain ⟨nm1, nm2, nm3, nm4⟩ := HNums.out
              obtain ⟨s1, s2⟩ := sum_tail z2
              have hsdW : SmallD (C - rs.length - 2 * lsum Li + 1) B dW := ⟨by have := hsd.n; omega, by rw [y3, List.length_set]; exact hsd.T, fun t ht => by
                rw [y3] at ht
                rcases List.mem_or_eq_of_mem_set ht with ht | rfl
                · exact hsd.t t ht
                · show (ti ++ (l ++ [10])).length ≤ B
                  simp
                  omega⟩
              have hrno : I64 r.no ∧ r.at' ≤ 1000000 := by
                refine ⟨HNoR.out _ (by rw [← HMapk.out]; exact List.mem_map.2 ⟨r, List.mem_of_getElem? HR1k.out, rfl⟩), ?_⟩
                obtain ⟨r2, L2, w1, -, ⟨t2, pre2, w2, w3, w4, -⟩, -⟩ := least_head y1.len y1.reads HHlo.out
                rw [HR1k.out] at w1
                cases w1
                have h7 := hsdW.t
                have : t2.length ≤ B := by
                  rcases fileAt_cases dW.T r.no with ⟨k7, t7, -, hk7, hf7⟩ | hf7
                  · rw [hf7] at w2; cases w2; exact h7 _ (List.mem_of_getElem? hk7)
                  · rw [hf7] at w2; cases w2
                have h8 : t2.length = pre2.length + (joinL L2).length := by rw [w3, List.length_append]
                have := HB2.out
                omega
              have HNx := Lib.hid (readNext_any HRw.out (hsdW.small (by have := HC1.out; omega) HB2.out) HKb.out HR1k.out hrno.1 hrno.2)
              have hrA : readAt S dW ri k = ((readR S dW r).1, ri.set k (readR S dW r).2.1, (readR S dW r).2.2) := by unfold readAt; rw [HR1k.out]
              have hRn : R = if (readR S dW r).2.2 ≠ 0 then ((readR S dW r).1, ri.set k (readR S dW r).2.1, (readR S dW r).2.2) else mergeGo S F no f (readR S dW r).1 (ri.set k (readR S dW r).2.1) := by
                rw [HRq.out, ← HEW.out, if_neg (by simpa using h0), ← HDW.out, hrA]
              rw [hrA] at z3 z4 z5
              simp only at z3 z4 z5
              have hnext : (readR S dW r).2.2 = 0 → ∀ own6 w6, RunsAt F S base g gd own6 (readR S dW r).1 Bs (ri.set k (readR S dW r).2.1) w6 → (∀ k, k < w.heap.size → own6 k = ownD k) → Frame (fun k => ownD k ≠ 0 ∨ k ∈ Bs) w w6 →
                  MergeAt F S base g gd ownD Bs rs no R (C - rs.length) B w (lsum Li - 1) (leastV Bs (leastOf F (ri.set k (readR S dW r).2.1))) w6 := fun e0 own6 w6 q1 q2 q3 => by
                have e1 : cntE S dW = 0 := by rw [← z4]; exact e0
                obtain ⟨v1, v2⟩ := z5 e1
                have e3 : cntS S dW = (readR S dW r).1 := z3.symm
                refine ⟨own6, _, _, _, ti ++ (l ++ [10]), f, q1, q2, q3, by rw [← e3]; exact v1, by omega, by omega, ⟨?_, ?_, ?_⟩, by rw [v2]; exact HMapk.out, by omega, by simp; omega, by rw [hRn, if_neg (by rw [e0]; simp)], rfl⟩
                · rw [z3]
                  show dW.n + 1 ≤ _
                  have := hsd.n
                  omega
                · rw [z3]; exact hsdW.T
                · rw [z3]; exact hsdW.t
              have HNext := Lib.hid hnext
              have HRn := Lib.hid hRn
              have HPos := Lib.hid (show lsum Li - 1 < gk by omega)
              obtain ⟨E4, hE4⟩ : ∃ E4, E4 = (readR S dW r).2.2 := ⟨_, rfl⟩
              rw [← hE4] at HNx HNext HRn
              clear h0 hcz y1 y2 y3 z2 z3 z4 z5 hsd nm1 nm2 nm3 nm4 s1 s2 hsdW hrno hrA hRn hnext hE4
              unfold ptrV at HNx
              go_wp2_with fail
              refine HNx.out.mono ?_
              rintro e w5 ⟨rfl, own5, k1, k2, k3⟩
              obtain ⟨m1, m2⟩ := left_trans HOw.out HFw.out k2 k3
              have HR5 := Lib.hid k1
              have HO5 := Lib.hid m1
              have HF5 := Lib.hid m2
              clear k1 k2 k3 m1 m2 HNx HRw HOw HFw
              by_cases h0 : E4 = 0
              case neg =>
                have f2 : (E4 != 0) = true := by simpa using h0
                rw [if_pos h0] at HRn
                rw [HRn.out, if_pos h0] at HQ
                have HE0 := Lib.hid h0
                clear h0
                go_wp2_with fail
                go_ret2
                rw [HQ.out]
                exact ⟨_, _, rfl, own5, HR5.out, HO5.out, HF5.out, fun e => absurd e HE0.out⟩
              case pos =>
                have f2 : (E4 != 0) = false := by simpa using h0
                have hN5 := HNext.out h0
                have hV5 := HV.out.frame HF5.out (fun k hk e => by rcases e with e | e; exact e hk.1; exact hk.2.1 e)
                have HLe := Lib.hid (least_any HR5.out _ hV5 HL.out)
                have HN5 := Lib.hid hN5
                clear h0 hN5 hV5
                unfold ptrV at HLe
                go_wp2_with fail
                refine HLe.out.mono ?_
                rintro e w6 ⟨rfl, n6, rfl⟩
                have HN6 := Lib.hid (HN5.out own5 (w5.drewN n6) (HR5.out.below ⟨rfl, rfl, rfl, Nat.le_refl _, fun _ _ => rfl⟩) HO5.out (HF5.out.drewN n6))
                clear HLe HN5
                generalize w5.drewN n6 = w6 at HN6 ⊢
                generalize leastV Bs (leastOf F (ri.set k (readR S dW r).2.1)) = pv6 at HN6 ⊢
                go_wp2_with fail
                go_roundg (lsum Li - 1)
                case measure => exact HPos.out
                case rel => exact HN6
end

end Go.Proofs.YtpgigpajpcianaaGreatDoor
