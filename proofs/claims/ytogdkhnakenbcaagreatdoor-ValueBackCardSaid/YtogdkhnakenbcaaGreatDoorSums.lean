/-
  Contracts of the sums (num.Add, Sub, Neg and the document's answers for them).
-/
import Derived.Test.YtogdkhnakenbcaaGreatDoorRows
import Derived.WalkKit
import Derived.ProofKit
import Derived.OpenShut
import Derived.Lib.Hide
namespace Go.Proofs.YtogdkhnakenbcaaGreatDoor
open Go.ChangeShapes Go.WideShapes Go.ChangeAt Go.RowKit
set_option linter.unusedVariables false

theorem ret_pair {k k' : IntKind} {a b c d : Int} (h : a = b) (h' : c = d) : Ending.returned (.tuple #[.int k a, .int k' c]) = .returned (.tuple #[.int k b, .int k' d]) := by rw [h, h']

theorem ret_int {k : IntKind} {a b : Int} (h : a = b) : Ending.returned (.int k a) = .returned (.int k b) := by rw [h]
theorem ret_bool {a b : Bool} (h : a = b) : Ending.returned (.bool a) = .returned (.bool b) := by rw [h]

/-- Is it a whole number of 64 bits? -/
def In64 (n : Int) : Prop := -9223372036854775808 ≤ n ∧ n ≤ 9223372036854775807
instance (n : Int) : Decidable (In64 n) := by unfold In64; infer_instance
/-- The number, and no error; or nought, and that it is out of range. -/
def okOr (n : Int) : Int := if In64 n then n else 0
def errOr (n : Int) : Int := if In64 n then 0 else 10
theorem okOr_in {n : Int} (h : In64 n) : okOr n = n := if_pos h
theorem errOr_in {n : Int} (h : In64 n) : errOr n = 0 := if_pos h
theorem okOr_out {n : Int} (h : ¬ In64 n) : okOr n = 0 := if_neg h
theorem errOr_out {n : Int} (h : ¬ In64 n) : errOr n = 10 := if_neg h

theorem wrap64_hi {n : Int} (h : 9223372036854775808 ≤ n) (h' : n < 27670116110564327424) : wrap64 n = n - 18446744073709551616 := by unfold wrap64; omega
theorem wrap64_lo {n : Int} (h : n < -9223372036854775808) (h' : -27670116110564327424 ≤ n) : wrap64 n = n + 18446744073709551616 := by unfold wrap64; omega

theorem out_cases {n : Int} (h : ¬ In64 n) : n < -9223372036854775808 ∨ 9223372036854775808 ≤ n := by unfold In64 at h; omega

end Go.Proofs.YtogdkhnakenbcaaGreatDoor
