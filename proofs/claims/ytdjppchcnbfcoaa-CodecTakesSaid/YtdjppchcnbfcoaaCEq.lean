/-
  Two pieces compared.
-/
import Derived.Test.YtdjppchcnbfcoaaCPiece
import Derived.Laws.StructEq
namespace Go.Proofs.Ytdjppchcnbfcoaa
open Go.ChangeShapes Go.WideShapes Go.ChangeAt Go.RowKit
set_option linter.unusedVariables false

def eqP (a b : PR) : Bool := decide (a.k = b.k ∧ a.n = b.n ∧ a.s = b.s)
theorem toL (l : List UInt8) : (⟨l.toArray⟩ : ByteArray).toList = l := by rw [Go.ByteArray.toList_eq]
/-- Two pieces are compared cell by cell. -/
theorem eqPP (k n k' n' : Int) (l l' : List UInt8) (w : World) : (Op.equalIn 10000 28 (.agg #[.int .u8 k, .int .i64 n, .string ⟨l.toArray⟩]) (.agg #[.int .u8 k', .int .i64 n', .string ⟨l'.toArray⟩])).run Try.prog w = .ok (decide (k = k' ∧ n = n' ∧ l = l')) w := by
  have u3 := Try.underlying5
  have u4 := Try.underlying2
  have u5 := Try.underlying9
  have hS : Try.prog.underlying 28 = some (.struct (Try.prog.fieldsOf 28)) := by kernel_rfl
  have hp : Try.prog.stoodInHeld 28 = false := by kernel_rfl
  have t1 := toL l
  have t2 := toL l'
  rw [show (10000 : Nat) = 9999 + 1 from rfl, run_equalIn_agg w 9999 28 _ _ hS hp]
  simp only [Program.fieldsOf, Try.underlying28]
  go_simp
  by_cases h1 : k = k' <;> by_cases h2 : n = n' <;> by_cases h3 : l = l' <;> simp [h1, h2, h3]
end Go.Proofs.Ytdjppchcnbfcoaa
