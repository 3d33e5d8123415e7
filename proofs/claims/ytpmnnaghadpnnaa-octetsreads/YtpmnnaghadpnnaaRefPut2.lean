/-
  The reference's PutVar (layer 9).
-/
import Derived.Test.YtpmnnaghadpnnaaRefPut
namespace Go.Proofs.Ytpmnnaghadpnnaa
open Go.ChangeShapes Go.WideShapes Go.ChangeAt Go.RowKit Go.Deep
set_option linter.unusedVariables false

end Go.Proofs.Ytpmnnaghadpnnaa
