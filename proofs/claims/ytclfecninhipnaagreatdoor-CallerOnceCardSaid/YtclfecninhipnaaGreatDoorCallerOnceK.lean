/-
  The closed facts of the row of CallerOnce, each a lemma of its own.
-/
import Derived.Test.YtclfecninhipnaaGreatDoorRows
import Derived.Test.YtclfecninhipnaaGreatDoorCards
import Derived.Test.YtclfecninhipnaaGreatDoorTie
import Derived.JoinedOf
import Derived.KernelRfl
namespace Go.Proofs.YtclfecninhipnaaGreatDoor
set_option maxHeartbeats 20000000 in
theorem callerOnce_closed : joinedFacts Tryz.prog 3 Tryz.f3 Rows.callerOnceSpec Rows.callerOnceRow = true := by
  unfold joinedFacts
  simp only [Bool.and_eq_true]
  repeat' apply And.intro
  all_goals as_aux_lemma => kernel_rfl
end Go.Proofs.YtclfecninhipnaaGreatDoor
