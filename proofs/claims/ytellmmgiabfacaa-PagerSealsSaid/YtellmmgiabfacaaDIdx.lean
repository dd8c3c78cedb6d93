/-
  Of disk: an element of the array of two files, as a value.
-/
import Derived.Test.YtellmmgiabfacaaDSettle
namespace Go.Proofs.Ytellmmgiabfacaa
open Go.ChangeShapes Go.WideShapes Go.ChangeAt Go.RowKit
set_option linter.unusedVariables false

theorem fileInfo : (Try.prog.info? 91).map (fun i => i.size) = some 2 := by kernel_rfl
theorem index_file (a b c d : Value) (w : World) : (Instr.index 92 (.agg #[a, b, c, d]) (.int .i64 0)).run Try.prog w = .ok (.agg #[a, b]) w ∧ (Instr.index 92 (.agg #[a, b, c, d]) (.int .i64 1)).run Try.prog w = .ok (.agg #[c, d]) w := by
  have hi := fileInfo
  cases h : Try.prog.info? 91 with
  | none => simp [h] at hi
  | some i =>
    have hs : i.size = 2 := by simpa [h] using hi
    constructor <;> simp [Instr.index, asIntOf, run_underlying Try.underlying92, part, isAgg, run_underlying Try.underlying91, sizeOf, typeInfo, h, hs]
end Go.Proofs.Ytellmmgiabfacaa
