/-
  The document's disk: Truncate.
-/
import Derived.Test.YtellmmgiabfacaaEWrite
namespace Go.Proofs.Ytellmmgiabfacaa
open Go.ChangeShapes Go.WideShapes Go.ChangeAt Go.RowKit
set_option linter.unusedVariables false

end Go.Proofs.Ytellmmgiabfacaa
