/-
  The walk of CrcSums.
-/
import Derived.Test.YtpcacndbagiajaaCrcO
import Derived.Test.YtpcacndbagiajaaRef
import Derived.OpenShut
namespace Go.Proofs.Ytpcacndbagiajaa
open Go.RowKit

theorem catL_one (l : List Int) : catL (fun _ => l) 1 = l := by simp [catL]

end Go.Proofs.Ytpcacndbagiajaa
