/-
  The closed facts of the row of ServerNil, each a lemma of its own.
-/
import Derived.Test.YtabmipjpgofgpaaGreatDoorRows
import Derived.Test.YtabmipjpgofgpaaGreatDoorCards
import Derived.Test.YtabmipjpgofgpaaGreatDoorTie
import Derived.JoinedOf
import Derived.KernelRfl
namespace Go.Proofs.YtabmipjpgofgpaaGreatDoor
set_option maxHeartbeats 20000000 in
theorem serverNil_closed : joinedFacts Tryz.prog 6 Tryz.f6 Rows.serverNilSpec Rows.serverNilRow = true := by
  unfold joinedFacts
  simp only [Bool.and_eq_true]
  repeat' apply And.intro
  all_goals as_aux_lemma => kernel_rfl
end Go.Proofs.YtabmipjpgofgpaaGreatDoor
