/-
  Sums of whole numbers in any order: plain lists; and slices of int64 as they are read.
-/
import Derived.Test.YtflkljenkhjnfaaDoorAddW
import Derived.ChangeSlices
import Derived.Deep.AppendLies
namespace Go.Proofs.YtflkljenkhjnfaaDoor
open Go.ChangeShapes Go.WideShapes Go.ChangeAt Go.RowKit
set_option linter.unusedVariables false

theorem sum_bd (zs : List Int) (h : ∀ z ∈ zs, In64 z) : -((zs.length : Int) * 9223372036854775808) ≤ zs.sum ∧ zs.sum ≤ (zs.length : Int) * 9223372036854775808 := by
  induction zs with
  | nil => simp
  | cons a r ih =>
    have i := ih fun z hz => h z (by simp [hz])
    have ha := h a (by simp)
    unfold In64 at ha
    rw [List.sum_cons, List.length_cons]
    omega
/-- A sum that 128 bits hold. -/
def Fit128 (S : Int) : Prop := -170141183460469231731687303715884105728 ≤ S ∧ S < 170141183460469231731687303715884105728
theorem sum_fit (zs : List Int) (h : ∀ z ∈ zs, In64 z) (hl : zs.length ≤ 140737488355328) : Fit128 zs.sum := by
  have := sum_bd zs h
  unfold Fit128
  omega
theorem num128_of {S : Int} (h : Fit128 S) : num128 (hiOf S) (loOf S) = S := by
  unfold Fit128 at h
  unfold num128 hiOf loOf wrap64
  omega
theorem okW_of {S : Int} (h : Fit128 S) : okW (hiOf S, loOf S) := by
  unfold Fit128 at h
  unfold okW In64 hiOf loOf wrap64
  constructor
  · constructor <;> simp only <;> omega
  · constructor <;> simp only <;> omega
theorem fit_64 {n : Int} (h : In64 n) : Fit128 n := by unfold In64 at h; unfold Fit128; omega
theorem add_two {S n : Int} (h : Fit128 S) (h' : Fit128 n) : sumW [(hiOf S, loOf S), (hiOf n, loOf n)] = S + n := by
  simp [sumW, num128_of h, num128_of h']
theorem sum_take (zs : List Int) (k : Nat) (h : k < zs.length) : (zs.take (k + 1)).sum = (zs.take k).sum + zs[k] := by
  rw [List.take_succ_eq_append_getElem h, List.sum_append]; simp
theorem sum_last (zs : List Int) (k : Nat) (h : k < zs.length) : (zs.drop (zs.length - (k + 1))).sum = (zs[zs.length - 1 - k]'(by omega)) + (zs.drop (zs.length - k)).sum := by
  have e : zs.length - (k + 1) < zs.length := by omega
  rw [List.drop_eq_getElem_cons e, List.sum_cons]
  have e3 : zs.length - (k + 1) = zs.length - 1 - k := by omega
  simp only [e3]
  rw [show zs.length - 1 - k + 1 = zs.length - k by omega]

/-- The numbers below nought among the first k, and the others. -/
def negs (zs : List Int) (k : Nat) : List Int := (zs.take k).filter fun z => decide (z < 0)
def poss (zs : List Int) (k : Nat) : List Int := (zs.take k).filter fun z => !decide (z < 0)
theorem negs_hit {zs : List Int} {k : Nat} (h : k < zs.length) (hn : zs[k] < 0) : negs zs (k + 1) = negs zs k ++ [zs[k]] ∧ poss zs (k + 1) = poss zs k := by
  unfold negs poss
  rw [List.take_succ_eq_append_getElem h, List.filter_append, List.filter_append]
  simp [hn]
theorem poss_hit {zs : List Int} {k : Nat} (h : k < zs.length) (hn : ¬ zs[k] < 0) : negs zs (k + 1) = negs zs k ∧ poss zs (k + 1) = poss zs k ++ [zs[k]] := by
  unfold negs poss
  rw [List.take_succ_eq_append_getElem h, List.filter_append, List.filter_append]
  simp [hn]
theorem parts_len (zs : List Int) (k : Nat) : (negs zs k).length ≤ k ∧ (poss zs k).length ≤ k := by
  unfold negs poss
  have h1 := List.length_filter_le (fun z => decide (z < 0)) (zs.take k)
  have h2 := List.length_filter_le (fun z => !decide (z < 0)) (zs.take k)
  rw [List.length_take] at h1 h2
  omega
theorem parts_both (zs : List Int) : (negs zs zs.length).length + (poss zs zs.length).length ≤ zs.length := by
  unfold negs poss
  rw [List.take_length]
  induction zs with
  | nil => simp
  | cons a r ih =>
    by_cases h : a < 0
    · simp only [List.filter_cons, h, decide_true, Bool.not_true, if_true, List.length_cons, Bool.false_eq_true, if_false]; omega
    · simp only [List.filter_cons, h, decide_false, Bool.not_false, if_true, List.length_cons, Bool.false_eq_true, if_false]; omega
theorem split_sum (l : List Int) : (l.filter fun z => decide (z < 0)).sum + (l.filter fun z => !decide (z < 0)).sum = l.sum := by
  induction l with
  | nil => rfl
  | cons a r ih =>
    by_cases h : a < 0
    · simp only [List.filter_cons, h, decide_true, Bool.not_true, if_true, List.sum_cons, Bool.false_eq_true, if_false]; omega
    · simp only [List.filter_cons, h, decide_false, Bool.not_false, if_true, List.sum_cons, Bool.false_eq_true, if_false]; omega
theorem parts_sum (zs : List Int) : (negs zs zs.length).sum + (poss zs zs.length).sum = zs.sum := by
  unfold negs poss
  rw [List.take_length]
  exact split_sum zs
theorem negs_mem {zs : List Int} {k : Nat} {z : Int} (h : z ∈ negs zs k) : z ∈ zs ∧ z < 0 := by
  unfold negs at h
  obtain ⟨h1, h2⟩ := List.mem_filter.1 h
  exact ⟨List.mem_of_mem_take h1, by simpa using h2⟩
theorem poss_mem {zs : List Int} {k : Nat} {z : Int} (h : z ∈ poss zs k) : z ∈ zs ∧ 0 ≤ z := by
  unfold poss at h
  obtain ⟨h1, h2⟩ := List.mem_filter.1 h
  exact ⟨List.mem_of_mem_take h1, by simpa using h2⟩
theorem sum_neg (l : List Int) (h : ∀ z ∈ l, z < 0) : l.sum ≤ 0 := by
  induction l with
  | nil => simp
  | cons a r ih =>
    have := ih fun z hz => h z (by simp [hz])
    have := h a (by simp)
    rw [List.sum_cons]; omega
theorem sum_pos (l : List Int) (h : ∀ z ∈ l, 0 ≤ z) : 0 ≤ l.sum := by
  induction l with
  | nil => simp
  | cons a r ih =>
    have := ih fun z hz => h z (by simp [hz])
    have := h a (by simp)
    rw [List.sum_cons]; omega

/-- What stands behind a slice of int64. -/
def IRd (w : World) (A : Option Addr) (zs : List Int) : Prop := 0 < zs.length → ∃ b off, A = some ⟨b, off, none⟩ ∧ b < w.heap.size ∧ ∀ i (h : i < zs.length), w.cell? ⟨b, off + i, none⟩ = some (.int .i64 zs[i])
theorem IRd.below {w w' : World} {A : Option Addr} {zs : List Int} (h : IRd w A zs) (hb : Below w.heap.size w w') : IRd w' A zs := fun hn => by
  obtain ⟨b, off, e, hB, hw⟩ := h hn
  exact ⟨b, off, e, Nat.lt_of_lt_of_le hB hb.size, fun i hi => (hb.cell (p := ⟨b, off + i, none⟩) hB).trans (hw i hi)⟩
end Go.Proofs.YtflkljenkhjnfaaDoor
