/-
  The chapter's can: without one number; each kind.
-/
import Derived.Test.YtbdenjmnohhhiaaDoorCnfX
namespace Go.Proofs.YtbdenjmnohhhiaaDoor
open Go.RowKit
set_option linter.unusedVariables false

abbrev wo (l : List Int) (x : Int) : List Int := l.filter (fun y => decide (y ≠ x))
theorem wo_take {l : List Int} {x : Int} {k : Nat} (h : k < l.length) : wo (l.take (k + 1)) x = wo (l.take k) x ++ if l.getD k 0 = x then [] else [l.getD k 0] := by
  unfold wo
  rw [take_one h, List.filter_append]
  congr 1
  by_cases hx : l.getD k 0 = x
  · rw [if_pos hx]; simpa using hx
  · rw [if_neg hx]; simpa using hx
end Go.Proofs.YtbdenjmnohhhiaaDoor
