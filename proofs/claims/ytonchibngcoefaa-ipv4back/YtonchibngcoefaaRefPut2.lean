/-
  The reference's PutVar (layer 9).
-/
import Derived.Test.YtonchibngcoefaaRefPut
namespace Go.Proofs.Ytonchibngcoefaa
open Go.ChangeShapes Go.WideShapes Go.ChangeAt Go.RowKit Go.Deep
set_option linter.unusedVariables false

end Go.Proofs.Ytonchibngcoefaa
