/-
  What bytes.Clone, and the calls Raw, Text, Bool and Done of a fix.Out do.
-/
import Derived.Test.YtokafgleejcbgaaDoorOut
import Derived.Test.YtokafgleejcbgaaDoorBytes
namespace Go.Proofs.YtokafgleejcbgaaDoor
open Go.RowKit

def textErr (l : List Int) : Int := if 65535 < l.length then 4 else 0

end Go.Proofs.YtokafgleejcbgaaDoor
