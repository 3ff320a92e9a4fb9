/-
  Package conf and its answer: may a configuration be.
-/
import Derived.Test.YtbacnkndllifaaaCnfG
namespace Go.Proofs.Ytbacnkndllifaaa
open Go.RowKit
set_option linter.unusedVariables false

theorem rgt_is (c : Cf) (d : Bool) (hd : d = unqB c.mem) : rgtB c = decide (0 ≤ c.ch ∧ c.ch ≤ 3 ∧ 1 ≤ c.ep ∧ 1 ≤ c.ns.length ∧ c.ns.length ≤ 5 ∧ (c.fr = true → 2 ≤ c.ns.length ∧ c.jn = 0) ∧ d = true) := by
  subst hd
  unfold rgtB Rgt unqB
  congr 1
  simp
end Go.Proofs.Ytbacnkndllifaaa
