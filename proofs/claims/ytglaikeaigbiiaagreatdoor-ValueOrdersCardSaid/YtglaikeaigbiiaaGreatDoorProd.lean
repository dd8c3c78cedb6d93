/-
  Contracts of products, quotients and rests: the document's answers, num.Div and num.Rem.
-/
import Derived.Test.YtglaikeaigbiiaaGreatDoorWide3
namespace Go.Proofs.YtglaikeaigbiiaaGreatDoor
open Go.ChangeShapes Go.WideShapes Go.ChangeAt Go.RowKit
set_option linter.unusedVariables false

/-- A number of so great an amount, with its sign. -/
def sv (n : Nat) (neg : Bool) : Int := if neg = true then -(n : Int) else n
def opp (a b : Int) : Bool := decide (a < 0) != decide (b < 0)
theorem cases_nat (a : Int) : (∃ m : Nat, a = m ∧ a.natAbs = m ∧ decide (a < 0) = false) ∨ ∃ m : Nat, a = -(m : Int) ∧ a.natAbs = m ∧ decide (a < 0) = true := by
  by_cases h : a < 0
  · exact .inr ⟨a.natAbs, by omega, rfl, by simp [h]⟩
  · exact .inl ⟨a.natAbs, by omega, rfl, by simpa using h⟩
theorem tdiv_sv (a b : Int) : a.tdiv b = sv (a.natAbs / b.natAbs) (opp a b) := by
  unfold opp sv
  rcases cases_nat a with ⟨m, e1, e2, e3⟩ | ⟨m, e1, e2, e3⟩ <;> rcases cases_nat b with ⟨n, f1, f2, f3⟩ | ⟨n, f1, f2, f3⟩ <;> rw [e2, f2, e3, f3, e1, f1]
  · rfl
  · rw [Int.tdiv_neg]; rfl
  · rw [Int.neg_tdiv]; rfl
  · rw [Int.tdiv_neg, Int.neg_tdiv, Int.neg_neg]; rfl
theorem tmod_sv (a b : Int) : a.tmod b = sv (a.natAbs % b.natAbs) (decide (a < 0)) := by
  unfold sv
  rcases cases_nat a with ⟨m, e1, e2, e3⟩ | ⟨m, e1, e2, e3⟩ <;> rcases cases_nat b with ⟨n, f1, f2, f3⟩ | ⟨n, f1, f2, f3⟩ <;> rw [e2, f2, e3, e1, f1]
  · rfl
  · rw [Int.tmod_neg]; rfl
  · rw [Int.neg_tmod]; rfl
  · rw [Int.tmod_neg, Int.neg_tmod]; rfl
theorem mul_sv (a b : Int) : a * b = sv (a.natAbs * b.natAbs) (opp a b) := by
  unfold opp sv
  rcases cases_nat a with ⟨m, e1, e2, e3⟩ | ⟨m, e1, e2, e3⟩ <;> rcases cases_nat b with ⟨n, f1, f2, f3⟩ | ⟨n, f1, f2, f3⟩ <;> rw [e2, f2, e3, f3, e1, f1]
  · simp
  · rw [Int.mul_neg]; simp
  · rw [Int.neg_mul]; simp
  · rw [Int.neg_mul_neg]; simp
theorem sv_bd (n : Nat) (neg : Bool) : (sv n neg).natAbs = n := by unfold sv; split <;> omega

theorem tdiv_bd (a b : Int) (ha : In64 a) (h0 : b ≠ 0) (hc : ¬ (a = -9223372036854775808 ∧ b = -1)) : In64 (a.tdiv b) := by
  unfold In64 at *
  have h1 : (a.tdiv b).natAbs ≤ a.natAbs := by rw [tdiv_sv, sv_bd]; exact Nat.div_le_self _ _
  by_cases c : a = -9223372036854775808
  · by_cases d : b = 1
    · subst c; subst d; decide
    · have h2 : (a.tdiv b).natAbs ≤ a.natAbs / 2 := by
        rw [tdiv_sv, sv_bd]; exact Nat.div_le_div_left (by omega) (by omega)
      omega
  · omega

theorem tmod_bd (a b : Int) (ha : In64 a) (hb : In64 b) (h0 : b ≠ 0) : In64 (a.tmod b) ∧ wrap64 (a.tmod b) = a.tmod b := by
  have h1 : (a.tmod b).natAbs < b.natAbs := by rw [tmod_sv, sv_bd]; exact Nat.mod_lt _ (by omega)
  unfold In64 at *
  unfold wrap64
  omega
theorem u64_abs {a : Int} (ha : In64 a) : a.natAbs < 18446744073709551616 := by unfold In64 at ha; omega
theorem div_wrap (x y : Nat) (hx : x < 18446744073709551616) : IntKind.u64.wrap ((x : Int) / (y : Int)) = ((x / y : Nat) : Int) := by
  have h : ((x : Int) / (y : Int)) = ((x / y : Nat) : Int) := rfl
  have h2 : x / y ≤ x := Nat.div_le_self _ _
  rw [h, IntKind.wrap_u64]
  clear h
  generalize x / y = q at *
  omega
theorem mod_wrap (x y : Nat) (hx : x < 18446744073709551616) : IntKind.u64.wrap ((x : Int) % (y : Int)) = ((x % y : Nat) : Int) := by
  have h : ((x : Int) % (y : Int)) = ((x % y : Nat) : Int) := rfl
  have h2 : x % y ≤ x := Nat.mod_le _ _
  rw [h, IntKind.wrap_u64]
  clear h
  generalize x % y = q at *
  omega
end Go.Proofs.YtglaikeaigbiiaaGreatDoor
