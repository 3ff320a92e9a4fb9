/-
  The closed facts of the row of CraqWaits, each a lemma of its own.
-/
import Derived.Test.YtnnmkmipeoajjaaGreatDoorRows
import Derived.Test.YtnnmkmipeoajjaaGreatDoorCards
import Derived.Test.YtnnmkmipeoajjaaGreatDoorTie
import Derived.JoinedOf
import Derived.KernelRfl
namespace Go.Proofs.YtnnmkmipeoajjaaGreatDoor
set_option maxHeartbeats 20000000 in
theorem craqWaits_closed : joinedFacts Tryz.prog 3 Tryz.f3 Rows.craqWaitsSpec Rows.craqWaitsRow = true := by
  unfold joinedFacts
  simp only [Bool.and_eq_true]
  repeat' apply And.intro
  all_goals as_aux_lemma => kernel_rfl
end Go.Proofs.YtnnmkmipeoajjaaGreatDoor
