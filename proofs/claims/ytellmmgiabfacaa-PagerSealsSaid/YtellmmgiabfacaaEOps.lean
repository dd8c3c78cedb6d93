/-
  The document's disk: New, may, Down, Calls, Restart, meets, SetFuse, Size, Read.
-/
import Derived.Test.YtellmmgiabfacaaENow
import Derived.Test.YtellmmgiabfacaaDCount
namespace Go.Proofs.Ytellmmgiabfacaa
open Go.ChangeShapes Go.WideShapes Go.ChangeAt Go.RowKit
set_option linter.unusedVariables false

end Go.Proofs.Ytellmmgiabfacaa
