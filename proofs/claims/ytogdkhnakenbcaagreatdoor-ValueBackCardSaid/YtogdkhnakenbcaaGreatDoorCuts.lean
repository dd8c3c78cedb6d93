/-
  Where a text's first point stands; decimals and dates as lists of bytes: plain lists, no program.
-/
import Derived.Test.YtogdkhnakenbcaaGreatDoorInts
import Derived.Lib.IndexLaws
namespace Go.Proofs.YtogdkhnakenbcaaGreatDoor
open Go.ChangeShapes Go.WideShapes Go.ChangeAt Go.RowKit
set_option linter.unusedVariables false

def cutAt : List UInt8 → Nat
  | [] => 0
  | b :: l => if b = 46 then 0 else cutAt l + 1
theorem cutAt_le : ∀ l, cutAt l ≤ l.length
  | [] => Nat.le_refl _
  | b :: l => by
    have := cutAt_le l
    unfold cutAt
    split <;> simp <;> omega
theorem cutAt_eq : ∀ l, cutAt l < l.length → l[cutAt l]? = some 46
  | [], h => by simp at h
  | b :: l, h => by
    unfold cutAt at h ⊢
    split
    · rename_i hb; simp [hb]
    · rename_i hb
      rw [if_neg hb] at h
      simpa using cutAt_eq l (by simpa using h)
theorem cutAt_ne : ∀ l j, j < cutAt l → l[j]? ≠ some 46
  | [], j, h => by simp
  | b :: l, j, h => by
    unfold cutAt at h
    split at h
    · omega
    · rename_i hb
      match j with
      | 0 => simpa using hb
      | j + 1 => simpa using cutAt_ne l j (by omega)
/-- It is where nothing ahead is a point, and the text ends or a point stands. -/
theorem cutAt_uniq {l : List UInt8} {k : Nat} (h1 : ∀ j, j < k → l[j]? ≠ some 46) (h2 : k ≤ l.length) (h3 : k = l.length ∨ l[k]? = some 46) : cutAt l = k := by
  rcases Nat.lt_trichotomy (cutAt l) k with h | h | h
  · exact absurd (cutAt_eq l (by omega)) (h1 _ h)
  · exact h
  · have hl := cutAt_le l
    rcases h3 with h3 | h3
    · omega
    · exact absurd h3 (cutAt_ne l k h)
theorem indexPoint : ∀ l, Lib.indexByte l 46 = if cutAt l < l.length then (cutAt l : Int) else -1
  | [] => rfl
  | b :: l => by
    have ih := indexPoint l
    unfold Lib.indexByte cutAt
    by_cases hb : b = 46
    · subst hb; simp
    · rw [if_neg (by simpa using hb), if_neg hb, ih]
      by_cases hc : cutAt l < l.length
      · have e : ¬ ((cutAt l : Int) == -1) = true := by simp
        rw [if_pos hc, if_neg e, if_pos (by simp; omega)]
        omega
      · rw [if_neg hc, if_pos (by rfl), if_neg (by simp; omega)]

def decD (u : List UInt8) : List UInt8 := u.take (cutAt u)
def decF (u : List UInt8) : List UInt8 := u.drop (cutAt u + 1)
def decP (u : List UInt8) : Bool := decide (cutAt u < u.length)
/-- Is it no decimal's form? -/
def decBad (u : List UInt8) : Bool := !digitsB (decD u) || decP u && !digitsB (decF u)

theorem cut_neg {l : List UInt8} (h : negB l = true) : ∃ r, l = 45 :: r ∧ unsig l = r ∧ cutAt l = cutAt r + 1 := by
  match l with
  | [] => simp [negB] at h
  | c :: r =>
    have hc : c = 45 := by simpa [negB] using h
    subst hc
    exact ⟨r, rfl, by simp [unsig], by simp [cutAt]⟩
theorem whole_unsig (l : List UInt8) : unsig (l.take (cutAt l)) = decD (unsig l) := by
  unfold decD
  cases h : negB l
  · rw [unsig_pos h]
    match l with
    | [] => rfl
    | c :: r =>
      have hc : ¬ c = 45 := by simpa [negB] using h
      unfold cutAt
      split
      · rfl
      · simp [unsig, hc]
  · obtain ⟨r, rfl, hu, e⟩ := cut_neg h
    rw [hu, e]
    simp [unsig]
theorem rest_unsig (l : List UInt8) : l.drop (cutAt l + 1) = decF (unsig l) := by
  unfold decF
  cases h : negB l
  · rw [unsig_pos h]
  · obtain ⟨r, rfl, hu, e⟩ := cut_neg h
    rw [hu, e]
    simp
theorem point_unsig (l : List UInt8) : decide (cutAt l < l.length) = decP (unsig l) := by
  unfold decP
  cases h : negB l
  · rw [unsig_pos h]
  · obtain ⟨r, rfl, hu, e⟩ := cut_neg h
    rw [hu, e]
    simp
/-- Both parts without the point. -/
theorem both_unsig (l : List UInt8) (hD : digitsB (decD (unsig l)) = true) : unsig (l.take (cutAt l) ++ decF (unsig l)) = decD (unsig l) ++ decF (unsig l) ∧ negB (l.take (cutAt l) ++ decF (unsig l)) = negB l := by
  obtain ⟨hne, hd⟩ := digits_all hD
  have hw := whole_unsig l
  cases h : negB l
  · have hu := unsig_pos h
    have e : l.take (cutAt l) = decD (unsig l) := by rw [hu]; rfl
    rw [e]
    generalize decD (unsig l) = D at *
    match D, hne with
    | c :: r, _ =>
      have hc : ¬ c = 45 := by
        have := isD_bd (hd c (by simp))
        rintro rfl
        revert this; decide
      simp [unsig, negB, hc]
  · obtain ⟨r, rfl, hu, e⟩ := cut_neg h
    have e2 : (45 :: r).take (cutAt (45 :: r)) = 45 :: decD (unsig (45 :: r)) := by
      unfold decD
      rw [hu, e]
      rfl
    rw [e2]
    simp [unsig, negB]
theorem decF_none {u : List UInt8} (h : decP u = false) : decF u = [] := by
  unfold decF
  have : ¬ cutAt u < u.length := by simpa [decP] using h
  exact List.drop_eq_nil_of_le (by omega)
theorem parts_digits {u : List UInt8} (h : decBad u = false) : digitsB (decD u) = true ∧ ∀ c ∈ decF u, isD c = true := by
  unfold decBad at h
  simp only [Bool.or_eq_false_iff, Bool.not_eq_false', Bool.and_eq_false_iff] at h
  refine ⟨h.1, ?_⟩
  rcases h.2 with h2 | h2
  · rw [decF_none h2]; simp
  · exact (digits_all h2).2
theorem sized_D (u : List UInt8) : (decD u).length ≤ u.length := by unfold decD; simp; omega
theorem sized_F (u : List UInt8) : (decF u).length ≤ u.length := by unfold decF; simp
end Go.Proofs.YtogdkhnakenbcaaGreatDoor
