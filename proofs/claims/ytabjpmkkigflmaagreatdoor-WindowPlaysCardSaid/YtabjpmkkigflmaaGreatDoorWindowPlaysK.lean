/-
  The closed facts of the row of WindowPlays, each a lemma of its own.
-/
import Derived.Test.YtabjpmkkigflmaaGreatDoorRows
import Derived.Test.YtabjpmkkigflmaaGreatDoorCards
import Derived.Test.YtabjpmkkigflmaaGreatDoorTie
import Derived.JoinedOf
import Derived.KernelRfl
namespace Go.Proofs.YtabjpmkkigflmaaGreatDoor
set_option maxHeartbeats 20000000 in
theorem windowPlays_closed : joinedFacts Tryz.prog 3 Tryz.f3 Rows.windowPlaysSpec Rows.windowPlaysRow = true := by
  unfold joinedFacts
  simp only [Bool.and_eq_true]
  repeat' apply And.intro
  all_goals as_aux_lemma => kernel_rfl
end Go.Proofs.YtabjpmkkigflmaaGreatDoor
