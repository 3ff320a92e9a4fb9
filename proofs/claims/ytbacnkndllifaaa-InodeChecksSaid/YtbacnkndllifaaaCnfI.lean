/-
  Package conf: Right.
-/
import Derived.Test.YtbacnkndllifaaaCnfH
namespace Go.Proofs.Ytbacnkndllifaaa
open Go.RowKit
set_option linter.unusedVariables false

end Go.Proofs.Ytbacnkndllifaaa
