/-
  The closed facts of the row of CallerNil, each a lemma of its own.
-/
import Derived.Test.YtfblnflknmakpaaGreatDoorRows
import Derived.Test.YtfblnflknmakpaaGreatDoorCards
import Derived.Test.YtfblnflknmakpaaGreatDoorTie
import Derived.JoinedOf
import Derived.KernelRfl
namespace Go.Proofs.YtfblnflknmakpaaGreatDoor
set_option maxHeartbeats 20000000 in
theorem callerNil_closed : joinedFacts Tryz.prog 4 Tryz.f4 Rows.callerNilSpec Rows.callerNilRow = true := by
  unfold joinedFacts
  simp only [Bool.and_eq_true]
  repeat' apply And.intro
  all_goals as_aux_lemma => kernel_rfl
end Go.Proofs.YtfblnflknmakpaaGreatDoor
