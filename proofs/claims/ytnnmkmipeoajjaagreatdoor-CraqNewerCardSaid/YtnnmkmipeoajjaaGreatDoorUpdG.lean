/-
  catenaryref17: Runs, Batch, Fits.
-/
import Derived.Test.YtnnmkmipeoajjaaGreatDoorUpdF
import Derived.IntWalk
namespace Go.Proofs.YtnnmkmipeoajjaaGreatDoor
open Go.RowKit
set_option linter.unusedVariables false
set_option linter.unusedSimpArgs false

def NewOr17 (F : Nat → Prop) (n : Nat) : Nat → Prop := fun k => F k ∨ n ≤ k
/-- What the chapter's Batch and Fits tell. -/
def RSelE (w : World) (F : Nat → Prop) (out : List Up) (e : Ending) (w' : World) : Prop :=
  ∃ v', e = .returned v' ∧ UsAt w' (NewOr17 F w.heap.size) v' out ∧ Kept NoB w w'
end Go.Proofs.YtnnmkmipeoajjaaGreatDoor
