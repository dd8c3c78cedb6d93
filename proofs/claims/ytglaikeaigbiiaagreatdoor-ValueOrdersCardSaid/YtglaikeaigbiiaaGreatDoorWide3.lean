/-
  Contracts of the wide numbers, third part: Narrow, Mul and the document's answers.
-/
import Derived.Test.YtglaikeaigbiiaaGreatDoorWide2
import Derived.Deep.RegionWith
namespace Go.Proofs.YtglaikeaigbiiaaGreatDoor
open Go.ChangeShapes Go.WideShapes Go.ChangeAt Go.RowKit
set_option linter.unusedVariables false

/-- The number that the two halves hold. -/
def num128 (h l : Int) : Int := h * 18446744073709551616 + l
theorem narrow_in {h l : Int} (hh : In64 h) (l0 : 0 ≤ l) (l1 : l ≤ 18446744073709551615) (e : h = sgn (wrap64 l)) : okOr (num128 h l) = wrap64 l ∧ errOr (num128 h l) = 0 := by
  have hN : num128 h l = wrap64 l ∧ In64 (num128 h l) := by
    unfold sgn at e; unfold num128 In64; unfold wrap64 at *; split at e <;> omega
  rw [okOr_in hN.2, errOr_in hN.2]; exact ⟨hN.1, rfl⟩
theorem narrow_out {h l : Int} (hh : In64 h) (l0 : 0 ≤ l) (l1 : l ≤ 18446744073709551615) (e : h ≠ sgn (wrap64 l)) : okOr (num128 h l) = 0 ∧ errOr (num128 h l) = 10 := by
  have hN : ¬ In64 (num128 h l) := by
    intro hc; apply e
    unfold num128 In64 at hc; unfold sgn; unfold wrap64 at *; split <;> omega
  exact ⟨okOr_out hN, errOr_out hN⟩
theorem in64_wrap (l : Int) : In64 (wrap64 l) := by unfold In64 wrap64; omega

theorem num_of_halves (n : Int) (h0 : -170141183460469231731687303715884105728 ≤ n) (h1 : n ≤ 170141183460469231731687303715884105727) : num128 (hiOf n) (loOf n) = n := by
  unfold num128 hiOf loOf wrap64; omega
theorem mul_128 (a b : Int) (ha : In64 a) (hb : In64 b) : -170141183460469231731687303715884105728 ≤ a * b ∧ a * b ≤ 170141183460469231731687303715884105727 := by
  unfold In64 at ha hb
  have key : ∀ x y : Int, 0 ≤ x → x ≤ 9223372036854775808 → 0 ≤ y → y ≤ 9223372036854775808 → 0 ≤ x * y ∧ x * y ≤ 85070591730234615865843651857942052864 := fun x y h0 h1 h2 h3 =>
    ⟨Int.mul_nonneg h0 h2, by have := Int.mul_le_mul h1 h3 h2 (by omega : (0 : Int) ≤ 9223372036854775808); simpa using this⟩
  by_cases c : 0 ≤ a <;> by_cases d : 0 ≤ b
  · have := key a b c (by omega) d (by omega); omega
  · have := key a (-b) c (by omega) (by omega) (by omega); rw [Int.mul_neg] at this; omega
  · have := key (-a) b (by omega) (by omega) d (by omega); rw [Int.neg_mul] at this; omega
  · have := key (-a) (-b) (by omega) (by omega) (by omega) (by omega); rw [Int.neg_mul_neg] at this; omega

end Go.Proofs.YtglaikeaigbiiaaGreatDoor
