/-
  The chapter's All; who is settled; copies.
-/
import Derived.Test.YtbacnkndllifaaaCnfM
namespace Go.Proofs.Ytbacnkndllifaaa
open Go.RowKit
set_option linter.unusedVariables false

theorem memL_small {l : List Cf} (h : ∀ i, i < l.length → Rgt (nthC l i)) (k : Nat) (hk : k ≤ l.length) : (memL (l.take k)).length ≤ 6 * k := by
  induction k with
  | zero => simp [memL]
  | succ k ih =>
    rw [memL_take (by omega), List.length_append]
    have h1 := ih (by omega)
    have h2 := (h k (by omega)).2.2.2.2.1
    have h3 : (nthC l k).mem.length ≤ (nthC l k).ns.length + 1 := by
      unfold Cf.mem
      split
      · omega
      · simp
    omega
theorem all_len4 {l : List Cf} (h : allB l = true) : l.length ≤ 4 := (of_decide_eq_true h : AllC l).2.1
end Go.Proofs.Ytbacnkndllifaaa
