/-
  The closed facts of the row of CraqNewer, each a lemma of its own.
-/
import Derived.Test.YtnnmkmipeoajjaaGreatDoorRows
import Derived.Test.YtnnmkmipeoajjaaGreatDoorCards
import Derived.Test.YtnnmkmipeoajjaaGreatDoorTie
import Derived.JoinedOf
import Derived.KernelRfl
namespace Go.Proofs.YtnnmkmipeoajjaaGreatDoor
set_option maxHeartbeats 20000000 in
theorem craqNewer_closed : joinedFacts Tryz.prog 5 Tryz.f5 Rows.craqNewerSpec Rows.craqNewerRow = true := by
  unfold joinedFacts
  simp only [Bool.and_eq_true]
  repeat' apply And.intro
  all_goals as_aux_lemma => kernel_rfl
end Go.Proofs.YtnnmkmipeoajjaaGreatDoor
