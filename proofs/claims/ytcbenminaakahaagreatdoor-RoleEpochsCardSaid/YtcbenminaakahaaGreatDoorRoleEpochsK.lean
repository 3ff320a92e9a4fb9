/-
  The closed facts of the row of RoleEpochs, each a lemma of its own.
-/
import Derived.Test.YtcbenminaakahaaGreatDoorRows
import Derived.Test.YtcbenminaakahaaGreatDoorCards
import Derived.Test.YtcbenminaakahaaGreatDoorTie
import Derived.JoinedOf
import Derived.KernelRfl
namespace Go.Proofs.YtcbenminaakahaaGreatDoor
set_option maxHeartbeats 20000000 in
theorem roleEpochs_closed : joinedFacts Tryz.prog 10 Tryz.f10 Rows.roleEpochsSpec Rows.roleEpochsRow = true := by
  unfold joinedFacts
  simp only [Bool.and_eq_true]
  repeat' apply And.intro
  all_goals as_aux_lemma => kernel_rfl
end Go.Proofs.YtcbenminaakahaaGreatDoor
