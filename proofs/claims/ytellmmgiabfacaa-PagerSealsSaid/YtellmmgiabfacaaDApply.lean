/-
  Of disk: what a piece does to bytes: the methods apply of patch and cut.
-/
import Derived.Test.YtellmmgiabfacaaDZero
import Derived.Test.YtellmmgiabfacaaDLib
import Derived.Test.YtellmmgiabfacaaDMath
import Derived.Deep.RegionHeld3
import Derived.Laws.CopyOwn
namespace Go.Proofs.Ytellmmgiabfacaa
open Go.ChangeShapes Go.WideShapes Go.ChangeAt Go.RowKit
set_option linter.unusedVariables false

theorem own_form {w : World} {v : Value} {l : List UInt8} (h : OwnB w 0 v l) (h0 : 0 < l.length) : ∃ g cap cur, v = .slice (some ⟨g, 0, none⟩) l.length cap ∧ w.heap[g]? = some (.cells cur 5 (0, 0)) ∧ l.length ≤ cap ∧ cap ≤ maxLen ∧ cur.size = cap ∧ cur.toList.take l.length = Lib.byteCells l := by
  rcases h.2 with ⟨_, h1⟩ | ⟨g, cap, cur, hv, hbg, hg, hnc, hcm, hcs, htake⟩
  · omega
  · exact ⟨g, cap, cur, hv, hg, hnc, hcm, by omega, by rwa [Nat.mul_one] at htake⟩
theorem take_splice {α : Type} (L B : List α) (pos n : Nat) (h : pos + B.length ≤ n) (hn : n ≤ L.length) : (L.take pos ++ (B ++ L.drop (pos + B.length))).take n = (L.take n).take pos ++ (B ++ (L.take n).drop (pos + B.length)) := by
  have h1 : (L.take pos).length = pos := by simp; omega
  rw [List.take_append, List.take_append, h1, List.take_take, List.take_take, List.take_of_length_le (l := B) (by omega), List.drop_take, Nat.min_comm, Nat.sub_sub]
/-- Bytes are copied into a slice of the call's own. -/
theorem own_copy {w : World} {g cap : Nat} {m : List UInt8} (hown : OwnB w 0 (.slice (some ⟨g, 0, none⟩) m.length cap) m) (h0 : 0 < m.length) {A : Option Addr} {b : List UInt8} (hA : BRd w A b) (hb : 0 < b.length) (pos : Nat) (hfit : pos + b.length ≤ m.length) :
    ∃ w1, (∀ ty dc sc dl, dl = m.length - pos → (Builtin.copy_ #[23, 23] ty #[.slice (some ⟨g, pos, none⟩) dl dc, .slice A b.length sc]).run Try.prog w = .ok (goInt b.length) w1) ∧
      OwnB w1 0 (.slice (some ⟨g, 0, none⟩) m.length cap) (m.take pos ++ b ++ m.drop (pos + b.length)) ∧ w.grownBy w1 (some g) := by
  obtain ⟨g', cap', cur, hv, hg, hc1, hc2, hc3, hc4⟩ := own_form hown h0
  obtain ⟨rfl, rfl⟩ : g = g' ∧ cap = cap' := by simpa using hv
  obtain ⟨i0, hi, hz0, hz1, hz2⟩ := info_parts byteInfo
  obtain ⟨q, off, rfl, hq, hcells⟩ := hA hb
  have hcl : cur.toList.length = cur.size := Array.length_toList
  have hcs' : m.length ≤ cur.toList.length := by omega
  have hbl : (Lib.byteCells b).length = b.length := by simp [Lib.byteCells]
  have hml : (Lib.byteCells m).length = m.length := by simp [Lib.byteCells]
  refine ⟨w.setRow g (cur.toList.take pos ++ (Lib.byteCells b ++ cur.toList.drop (pos + (Lib.byteCells b).length))).toArray, fun ty dc sc dl hdl => ?_, ?_, ?_⟩
  · have := run_copy_row (P := Try.prog) w 23 23 ty 5 g pos dl dc ⟨q, off, none⟩ b.length sc cur 5 (Lib.byteCells b) Try.underlying23 (by rw [hi]; simp [hz1]) hg (by rw [hbl]; exact (Nat.min_eq_left (by omega)).symm) (fun j u hj => by
      obtain ⟨hj', rfl⟩ := byteCells_get hj
      rw [Go.WideShapes.add_plain, hcells j hj']) (by rw [hbl]; omega) (fun u hu => by simp [Lib.byteCells] at hu; obtain ⟨c, _, rfl⟩ := hu; rfl)
    rw [this, hbl, List.append_assoc]
  · have hL : (m.take pos ++ b ++ m.drop (pos + b.length)).length = m.length := by simp; omega
    unfold OwnB
    rw [hL]
    refine ⟨by simp [Lib.byteCells]; omega, .inr ⟨g, cap, _, rfl, Nat.zero_le _, setRow_heap w g cur _ 5 _ hg, hc1, hc2, ?_, ?_⟩⟩
    · simp only [List.size_toArray, List.length_append, List.length_take, List.length_drop, Array.length_toList, hbl]
      omega
    · have hB : Lib.byteCells (m.take pos ++ b ++ m.drop (pos + b.length)) = (Lib.byteCells m).take pos ++ (Lib.byteCells b ++ (Lib.byteCells m).drop (pos + b.length)) := by simp [Lib.byteCells]
      rw [hB, ← hc4, Nat.mul_one, ← hbl]
      exact take_splice cur.toList (Lib.byteCells b) pos m.length (by rw [hbl]; exact hfit) (by have := hcs'; omega)
  · exact ⟨rfl, rfl, rfl, by simp, fun j _ hj => setRow_other w g j _ (fun e => hj (by rw [e]))⟩

theorem own_cut {w : World} {a : Option Addr} {cap : Nat} {l : List UInt8} (h : OwnB w 0 (.slice a l.length cap) l) (n : Nat) : OwnB w 0 (.slice a (min n l.length) cap) (l.take n) := by
  have hL : (l.take n).length = min n l.length := List.length_take
  unfold OwnB
  rw [hL]
  have hB : Lib.byteCells (l.take n) = (Lib.byteCells l).take n := by simp [Lib.byteCells]
  refine ⟨by rw [hB]; simp [Lib.byteCells], ?_⟩
  rcases h.2 with ⟨h1, h2⟩ | ⟨g, cap', cur, hv, hbg, hg, hnc, hcm, hcs, htake⟩
  · obtain ⟨rfl, rfl⟩ : a = none ∧ cap = 0 := by
      simp at h1
      exact ⟨h1.1, h1.2.2⟩
    have : l = [] := List.length_eq_zero_iff.1 h2
    subst this
    exact .inl ⟨by simp, by simp⟩
  · obtain ⟨rfl, rfl⟩ : a = some ⟨g, 0, none⟩ ∧ cap = cap' := by simpa using hv
    refine .inr ⟨g, cap, cur, rfl, hbg, hg, by omega, hcm, hcs, ?_⟩
    rw [hB, ← htake, List.take_take, Nat.mul_one, Nat.mul_one]
    try (congr 1; omega)

set_option maxHeartbeats 1000000 in
theorem cut_apply (n : Nat) (v : Value) (l : List UInt8) (w : World) (hown : OwnB w 0 v l) :
    Calls Try.prog 173 #[.agg #[.int .i64 n], v] w fun e w' => ∃ v', e = .returned v' ∧ OwnB w' 0 v' (l.take n) ∧ Grw w w' v v' := by
  obtain ⟨a, cap, rfl, hcap, hcn⟩ := hown.slice
  have HO := Lib.hid hown
  have HCP := Lib.hid hcap
  clear hown
  have hmin : (min (n : Int) (l.length : Int)) = ((min n l.length : Nat) : Int) := by omega
  have hle : min n l.length ≤ cap := by omega
  go_enter Try.func173, Try.ntmps173
  go_wp2_with fail
  go_ret
  exact ⟨_, rfl, (own_cut HO.out n).alloc _, Grw.of_below (alloc_below _ _) ⟨⟨rfl, rfl, rfl, Nat.le_refl _, fun _ _ _ => rfl⟩, .inl (by cases a <;> rfl)⟩⟩

theorem putAt_over (k : Nat) (b l : List UInt8) (h : k + b.length ≤ l.length) : putAt k b l = l.take k ++ b ++ l.drop (k + b.length) := by
  unfold putAt
  rw [pad_id h]
theorem putAt_pad (k : Nat) (b l : List UInt8) : putAt k b l = (l ++ List.replicate (k + b.length - l.length) 0).take k ++ b ++ (l ++ List.replicate (k + b.length - l.length) 0).drop (k + b.length) := rfl
theorem OwnB.drew {w : World} {v : Value} {l : List UInt8} (h : OwnB w 0 v l) : OwnB w.drew 0 v l := h
theorem BRd.drew {w : World} {A : Option Addr} {l : List UInt8} (h : BRd w A l) : BRd w.drew A l := h.below ((Below.refl _ _).drew)
theorem Grw.of_own {w w1 : World} {g n c : Nat} (h : w.grownBy w1 (some g)) : Grw w w1 (.slice (some ⟨g, 0, none⟩) n c) (.slice (some ⟨g, 0, none⟩) n c) := ⟨h, .inl rfl⟩
theorem Grw.of_drew {w w1 : World} {v v' : Value} (h : Grw w.drew w1 v v') : Grw w w1 v v' := Grw.of_below ((Below.refl _ _).drew) h

set_option maxHeartbeats 2000000 in
theorem patch_apply (pos : Nat) (A : Option Addr) (c : Nat) (b : List UInt8) (v : Value) (l : List UInt8) (w : World) (hown : OwnB w 0 v l) (hA : BRd w A b) (hb : 0 < b.length) (hd : Apart A v) (hlim : pos + b.length ≤ maxFile) (hl : l.length ≤ maxFile) :
    Calls Try.prog 172 #[.agg #[.int .i64 pos, .slice A b.length c], v] w fun e w' => ∃ v', e = .returned v' ∧ OwnB w' 0 v' (putAt pos b l) ∧ Grw w w' v v' := by
  unfold maxFile at hlim hl
  by_cases hgrow : l.length < pos + b.length
  · obtain ⟨q, off, rfl, hq, -⟩ := hA hb
    have HZ := Lib.hid (run_zeros (w.alloc (.cells #[.int .i64 pos, .slice (some ⟨q, off, none⟩) b.length c] 175)) 23 v l (hown.alloc _) (pos + b.length - l.length) (by omega) (by omega))
    obtain ⟨v1, w1, hz, hown1, hg1⟩ := HZ.out
    have hk : ((pos + b.length - l.length : Nat) : Int) = (pos : Int) + b.length - l.length := by omega
    have hm : (l ++ List.replicate (pos + b.length - l.length) 0).length = pos + b.length := by simp; omega
    have hcell0 : w1.cell? ⟨w.heap.size, 0, none⟩ = some (.int .i64 pos) := by
      have hne : some w.heap.size ≠ v.ownBlock := fun e => absurd (hown.lt _ e.symm).2 (Nat.lt_irrefl _)
      exact World.grownBy.cell hg1.by_ (World.cell?_alloc_at _ _ _ _ rfl) hne
    have hcell1 : w1.cell? ⟨w.heap.size, 1, none⟩ = some (.slice (some ⟨q, off, none⟩) b.length c) := by
      have hne : some w.heap.size ≠ v.ownBlock := fun e => absurd (hown.lt _ e.symm).2 (Nat.lt_irrefl _)
      exact World.grownBy.cell hg1.by_ (World.cell?_alloc_at _ _ _ _ rfl) hne
    have hA1 : BRd w1 (some ⟨q, off, none⟩) b := (hA.alloc _).grw hg1 hd
    obtain ⟨g, cap, cur, rfl, hg, hcap, -, -, -⟩ := own_form hown1 (by omega)
    obtain ⟨w2, hcp, hown2, hg2⟩ := own_copy hown1.drew (by omega) hA1.drew hb pos (by omega)
    obtain ⟨a0, cap0, hv0, hcap0, hcn0⟩ := hown.slice
    subst hv0
    have HO := Lib.hid hown2
    have HG := Lib.hid (hg1.alloc.trans (Grw.of_own hg2).of_drew)
    have HP := Lib.hid (putAt_pad pos b l)
    have h1 : ¬ cap = pos := by omega
    have h2 : pos ≤ pos + b.length := by omega
    have h3 : pos < cap := by omega
    have hcp' := fun ty dc sc => hcp ty dc sc _ rfl
    have HM := Lib.hid hm
    rw [hm] at hcp' hcap
    have hbp : pos + b.length - pos = b.length := by omega
    rw [hbp] at hcp'
    have hgI : (l.length : Int) < (pos : Int) + b.length := by omega
    have hz' := hz
    rw [hk, hm] at hz'
    clear hown hown1 hown2 hg1 hg2 hA hA1 hg hd hcp HZ hm hz hk hgrow hcn0
    generalize l ++ List.replicate (pos + b.length - l.length) 0 = m at *
    go_enter Try.func172, Try.ntmps172
    go_wp2_with (at_builtin; refine Lib.wpList_append_run _ rfl _ _ _ _ rfl _ _ rfl rfl _ _ hz' ?_)
    go_region
    go_wp2_with fail
    go_ret
    exact ⟨_, rfl, by rw [HP.out]; have := HO.out; rw [HM.out] at this; exact this, by have := HG.out; rw [HM.out] at this; exact this⟩
  · obtain ⟨g, cap, cur, rfl, hg, hcap, -, -, -⟩ := own_form hown (by omega)
    obtain ⟨q, off, rfl, hq, -⟩ := hA hb
    obtain ⟨w1, hcp, hown1, hg1⟩ := own_copy (hown.alloc (.cells #[.int .i64 pos, .slice (some ⟨q, off, none⟩) b.length c] 175)).drew (by omega) (hA.alloc _).drew hb pos (by omega)
    have HO := Lib.hid hown1
    have HG := Lib.hid (Grw.of_own (n := l.length) (c := cap) hg1).of_drew.alloc
    have HP := Lib.hid (putAt_over pos b l (by omega))
    have h1 : ¬ cap = pos := by omega
    have h2 : pos ≤ l.length := by omega
    have h3 : pos < cap := by omega
    have hcp' := fun ty dc sc => hcp ty dc sc _ rfl
    have hlen : (putAt pos b l).length = l.length := by rw [putAt_len]; omega
    clear hown hown1 hg1 hA hg hd hcp
    go_enter Try.func172, Try.ntmps172
    go_wp2_with fail
    go_region
    go_wp2_with fail
    go_ret
    exact ⟨_, rfl, by rw [HP.out]; exact HO.out, HG.out⟩
end Go.Proofs.Ytellmmgiabfacaa
