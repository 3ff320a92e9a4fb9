/-
  The closed facts of the row of UpdateChecks, each a lemma of its own.
-/
import Derived.Test.YtpdkmalfojeghaaGreatDoorRows
import Derived.Test.YtpdkmalfojeghaaGreatDoorCards
import Derived.Test.YtpdkmalfojeghaaGreatDoorTie
import Derived.JoinedOf
import Derived.KernelRfl
namespace Go.Proofs.YtpdkmalfojeghaaGreatDoor
set_option maxHeartbeats 20000000 in
theorem updateChecks_closed : joinedFacts Tryz.prog 4 Tryz.f4 Rows.updateChecksSpec Rows.updateChecksRow = true := by
  unfold joinedFacts
  simp only [Bool.and_eq_true]
  repeat' apply And.intro
  all_goals as_aux_lemma => kernel_rfl
end Go.Proofs.YtpdkmalfojeghaaGreatDoor
