/-
  Whether two lists of configurations are the same; what may be, of few.
-/
import Derived.Test.YtbdenjmnohhhiaaDoorCnfS
namespace Go.Proofs.YtbdenjmnohhhiaaDoor
open Go.RowKit
set_option linter.unusedVariables false

end Go.Proofs.YtbdenjmnohhhiaaDoor
