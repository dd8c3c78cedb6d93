/-
  Contracts of products, quotients and rests: the document's answers, num.Div and num.Rem.
-/
import Derived.Test.YtogdkhnakenbcaaGreatDoorWide3
namespace Go.Proofs.YtogdkhnakenbcaaGreatDoor
open Go.ChangeShapes Go.WideShapes Go.ChangeAt Go.RowKit
set_option linter.unusedVariables false

/-- A number of so great an amount, with its sign. -/
def sv (n : Nat) (neg : Bool) : Int := if neg = true then -(n : Int) else n
set_option maxHeartbeats 800000 in
theorem signed_any (n : Nat) (neg : Bool) (hn : n < 18446744073709551616) (w : World) :
    Calls Tryz.prog 56 #[.int .u64 n, .bool neg] w fun e w' => e = .returned (.tuple #[.int .i64 (okOr (sv n neg)), .int .i64 (errOr (sv n neg))]) ∧ w = w' := by
  cases neg
  · by_cases h : n ≤ 9223372036854775807
    · have hr : In64 (sv n false) := by unfold In64 sv; simp; omega
      have H1 : Hid (okOr (sv n false) = (n : Int)) := by show _ = _; rw [okOr_in hr]; rfl
      have H2 := Lib.hid (errOr_in hr)
      clear hr
      go_enter Tryz.func56, Tryz.ntmps56
      go_wp2
      go_ret2
      exact ⟨ret_pair H1.out.symm H2.out.symm, rfl⟩
    · have hr : ¬ In64 (sv n false) := by unfold In64 sv; simp; omega
      have H1 := Lib.hid (okOr_out hr)
      have H2 := Lib.hid (errOr_out hr)
      clear hr
      go_enter Tryz.func56, Tryz.ntmps56
      go_wp2
      go_ret2
      exact ⟨ret_pair H1.out.symm H2.out.symm, rfl⟩
  · by_cases h : n ≤ 9223372036854775808
    · have hr : In64 (sv n true) := by unfold In64 sv; simp; omega
      have H1 : Hid (okOr (sv n true) = wrap64 (IntKind.u64.wrap (-(n : Int)))) := by show _ = _; rw [okOr_in hr, IntKind.wrap_u64]; unfold sv wrap64; simp; omega
      have H2 := Lib.hid (errOr_in hr)
      have hd : decide (n ≤ 9223372036854775808) = true := by simpa using h
      clear hr
      go_enter Tryz.func56, Tryz.ntmps56
      go_wp2
      go_ret2
      exact ⟨ret_pair H1.out.symm H2.out.symm, rfl⟩
    · have hr : ¬ In64 (sv n true) := by unfold In64 sv; simp; omega
      have H1 := Lib.hid (okOr_out hr)
      have H2 := Lib.hid (errOr_out hr)
      have hd : decide (n ≤ 9223372036854775808) = false := by simpa using h
      clear hr
      go_enter Tryz.func56, Tryz.ntmps56
      go_wp2
      go_ret2
      exact ⟨ret_pair H1.out.symm H2.out.symm, rfl⟩

def opp (a b : Int) : Bool := decide (a < 0) != decide (b < 0)
theorem cases_nat (a : Int) : (∃ m : Nat, a = m ∧ a.natAbs = m ∧ decide (a < 0) = false) ∨ ∃ m : Nat, a = -(m : Int) ∧ a.natAbs = m ∧ decide (a < 0) = true := by
  by_cases h : a < 0
  · exact .inr ⟨a.natAbs, by omega, rfl, by simp [h]⟩
  · exact .inl ⟨a.natAbs, by omega, rfl, by simpa using h⟩
theorem tdiv_sv (a b : Int) : a.tdiv b = sv (a.natAbs / b.natAbs) (opp a b) := by
  unfold opp sv
  rcases cases_nat a with ⟨m, e1, e2, e3⟩ | ⟨m, e1, e2, e3⟩ <;> rcases cases_nat b with ⟨n, f1, f2, f3⟩ | ⟨n, f1, f2, f3⟩ <;> rw [e2, f2, e3, f3, e1, f1]
  · rfl
  · rw [Int.tdiv_neg]; rfl
  · rw [Int.neg_tdiv]; rfl
  · rw [Int.tdiv_neg, Int.neg_tdiv, Int.neg_neg]; rfl
theorem tmod_sv (a b : Int) : a.tmod b = sv (a.natAbs % b.natAbs) (decide (a < 0)) := by
  unfold sv
  rcases cases_nat a with ⟨m, e1, e2, e3⟩ | ⟨m, e1, e2, e3⟩ <;> rcases cases_nat b with ⟨n, f1, f2, f3⟩ | ⟨n, f1, f2, f3⟩ <;> rw [e2, f2, e3, e1, f1]
  · rfl
  · rw [Int.tmod_neg]; rfl
  · rw [Int.neg_tmod]; rfl
  · rw [Int.tmod_neg, Int.neg_tmod]; rfl
theorem mul_sv (a b : Int) : a * b = sv (a.natAbs * b.natAbs) (opp a b) := by
  unfold opp sv
  rcases cases_nat a with ⟨m, e1, e2, e3⟩ | ⟨m, e1, e2, e3⟩ <;> rcases cases_nat b with ⟨n, f1, f2, f3⟩ | ⟨n, f1, f2, f3⟩ <;> rw [e2, f2, e3, f3, e1, f1]
  · simp
  · rw [Int.mul_neg]; simp
  · rw [Int.neg_mul]; simp
  · rw [Int.neg_mul_neg]; simp
theorem sv_bd (n : Nat) (neg : Bool) : (sv n neg).natAbs = n := by unfold sv; split <;> omega

theorem tdiv_bd (a b : Int) (ha : In64 a) (h0 : b ≠ 0) (hc : ¬ (a = -9223372036854775808 ∧ b = -1)) : In64 (a.tdiv b) := by
  unfold In64 at *
  have h1 : (a.tdiv b).natAbs ≤ a.natAbs := by rw [tdiv_sv, sv_bd]; exact Nat.div_le_self _ _
  by_cases c : a = -9223372036854775808
  · by_cases d : b = 1
    · subst c; subst d; decide
    · have h2 : (a.tdiv b).natAbs ≤ a.natAbs / 2 := by
        rw [tdiv_sv, sv_bd]; exact Nat.div_le_div_left (by omega) (by omega)
      omega
  · omega

theorem tmod_bd (a b : Int) (ha : In64 a) (hb : In64 b) (h0 : b ≠ 0) : In64 (a.tmod b) ∧ wrap64 (a.tmod b) = a.tmod b := by
  have h1 : (a.tmod b).natAbs < b.natAbs := by rw [tmod_sv, sv_bd]; exact Nat.mod_lt _ (by omega)
  unfold In64 at *
  unfold wrap64
  omega
theorem u64_abs {a : Int} (ha : In64 a) : a.natAbs < 18446744073709551616 := by unfold In64 at ha; omega
theorem div_wrap (x y : Nat) (hx : x < 18446744073709551616) : IntKind.u64.wrap ((x : Int) / (y : Int)) = ((x / y : Nat) : Int) := by
  have h : ((x : Int) / (y : Int)) = ((x / y : Nat) : Int) := rfl
  have h2 : x / y ≤ x := Nat.div_le_self _ _
  rw [h, IntKind.wrap_u64]
  clear h
  generalize x / y = q at *
  omega
theorem mod_wrap (x y : Nat) (hx : x < 18446744073709551616) : IntKind.u64.wrap ((x : Int) % (y : Int)) = ((x % y : Nat) : Int) := by
  have h : ((x : Int) % (y : Int)) = ((x % y : Nat) : Int) := rfl
  have h2 : x % y ≤ x := Nat.mod_le _ _
  rw [h, IntKind.wrap_u64]
  clear h
  generalize x % y = q at *
  omega
set_option maxHeartbeats 800000 in
theorem refMul_any (a b : Int) (w : World) (ha : In64 a) (hb : In64 b) :
    Calls Tryz.prog 54 #[.int .i64 a, .int .i64 b] w fun e w' => e = .returned (.tuple #[.int .i64 (okOr (a * b)), .int .i64 (errOr (a * b))]) ∧ w = w' := by
  have hx := u64_abs ha
  have hy := u64_abs hb
  have hs := mul_sv a b
  have hsb := sv_bd (a.natAbs * b.natAbs) (opp a b)
  rw [← hs] at hsb
  obtain ⟨p, hp⟩ : ∃ p, p = a.natAbs * b.natAbs := ⟨_, rfl⟩
  have HP : Calls Tryz.prog 80 #[.int .u64 (a.natAbs : Int), .int .u64 (b.natAbs : Int)] w fun e w' => e = .returned (.tuple #[.int .u64 ((p / 18446744073709551616 : Nat) : Int), .int .u64 ((p % 18446744073709551616 : Nat) : Int)]) ∧ w = w' := by
    rw [hp]; exact product_any _ _ hx hy w
  have HHP := Lib.hid HP
  clear HP
  by_cases h : p < 18446744073709551616
  · have HS : Calls Tryz.prog 56 #[.int .u64 ((p % 18446744073709551616 : Nat) : Int), .bool (!(decide (a < 0) == decide (b < 0)))] w fun e w' => e = .returned (.tuple #[.int .i64 (okOr (a * b)), .int .i64 (errOr (a * b))]) ∧ w = w' := by
      have h2 := signed_any p (opp a b) h w
      rw [hp, ← hs] at h2
      rw [Nat.mod_eq_of_lt h, hp]
      exact h2
    have HH := Lib.hid HS
    have hz : (((p / 18446744073709551616 : Nat) : Int) != 0) = false := by
      have : p / 18446744073709551616 = 0 := by omega
      rw [this]; rfl
    clear HS hs hsb hp h
    generalize p / 18446744073709551616 = q1 at *
    generalize p % 18446744073709551616 = q2 at *
    go_enter Tryz.func54, Tryz.ntmps54
    go_wp2_with (first | (go_at_call 55; refine (amount_any _ _ (by assumption)).mono ?_; rintro e w' ⟨rfl, rfl⟩) | (go_at_call 80; refine HHP.out.mono ?_; rintro e w' ⟨rfl, rfl⟩) | (go_at_call 56; refine HH.out.mono ?_; rintro e w' ⟨rfl, rfl⟩))
    go_ret2
    exact ⟨rfl, rfl⟩
  · have hr : ¬ In64 (a * b) := by
      rw [← hp] at hsb
      unfold In64
      generalize a * b = t at *
      omega
    have H1 := Lib.hid (okOr_out hr)
    have H2 := Lib.hid (errOr_out hr)
    have hz : (((p / 18446744073709551616 : Nat) : Int) != 0) = true := by
      have : ((p / 18446744073709551616 : Nat) : Int) ≠ 0 := by omega
      simpa using this
    clear hs hsb hp h hr
    generalize p / 18446744073709551616 = q1 at *
    generalize p % 18446744073709551616 = q2 at *
    go_enter Tryz.func54, Tryz.ntmps54
    go_wp2_with (first | (go_at_call 55; refine (amount_any _ _ (by assumption)).mono ?_; rintro e w' ⟨rfl, rfl⟩) | (go_at_call 80; refine HHP.out.mono ?_; rintro e w' ⟨rfl, rfl⟩))
    go_ret2
    exact ⟨ret_pair H1.out.symm H2.out.symm, rfl⟩
end Go.Proofs.YtogdkhnakenbcaaGreatDoor
