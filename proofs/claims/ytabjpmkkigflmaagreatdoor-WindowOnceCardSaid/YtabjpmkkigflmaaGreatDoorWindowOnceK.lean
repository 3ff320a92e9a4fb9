/-
  The closed facts of the row of WindowOnce, each a lemma of its own.
-/
import Derived.Test.YtabjpmkkigflmaaGreatDoorRows
import Derived.Test.YtabjpmkkigflmaaGreatDoorCards
import Derived.Test.YtabjpmkkigflmaaGreatDoorTie
import Derived.JoinedOf
import Derived.KernelRfl
namespace Go.Proofs.YtabjpmkkigflmaaGreatDoor
set_option maxHeartbeats 20000000 in
theorem windowOnce_closed : joinedFacts Tryz.prog 4 Tryz.f4 Rows.windowOnceSpec Rows.windowOnceRow = true := by
  unfold joinedFacts
  simp only [Bool.and_eq_true]
  repeat' apply And.intro
  all_goals as_aux_lemma => kernel_rfl
end Go.Proofs.YtabjpmkkigflmaaGreatDoor
