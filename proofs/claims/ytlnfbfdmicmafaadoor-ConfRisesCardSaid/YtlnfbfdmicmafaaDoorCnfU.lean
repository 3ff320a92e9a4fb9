/-
  Package conf: the rules of the kinds; whether a command is possible.
-/
import Derived.Test.YtlnfbfdmicmafaaDoorCnfQ
import Derived.Test.YtlnfbfdmicmafaaDoorCnfT
import Derived.Test.YtlnfbfdmicmafaaDoorCmdA
import Derived.Laws.EntriesVeiled
namespace Go.Proofs.YtlnfbfdmicmafaaDoor
open Go.RowKit
set_option linter.unusedVariables false

abbrev fnv (f : FuncId) : Value := .func (.func f) #[] #[]
def RuleEnd (f g : FuncId) (w : World) (e : Ending) (w' : World) : Prop := e = .returned (.agg #[fnv f, fnv g]) ∧ Kept NoB w w'
set_option maxRecDepth 100000 in
theorem rule1 (w : World) : Calls Tryd.prog 59 #[.int .i64 1] w (RuleEnd 82 83 w) := by
  go_enter Tryd.func59, Tryd.ntmps59
  go_wp2
  exact bodyPost_ret (v := .agg #[fnv 82, fnv 83]) (by simp [results, Tryd.results59, go_sem]) rfl ⟨rfl, ((Kept.refl _ _).alloc _).alloc _⟩
set_option maxRecDepth 100000 in
theorem rule2 (w : World) : Calls Tryd.prog 59 #[.int .i64 2] w (RuleEnd 84 85 w) := by
  go_enter Tryd.func59, Tryd.ntmps59
  go_wp2
  exact bodyPost_ret (v := .agg #[fnv 84, fnv 85]) (by simp [results, Tryd.results59, go_sem]) rfl ⟨rfl, ((Kept.refl _ _).alloc _).alloc _⟩
set_option maxRecDepth 100000 in
theorem rule3 (w : World) : Calls Tryd.prog 59 #[.int .i64 3] w (RuleEnd 86 87 w) := by
  go_enter Tryd.func59, Tryd.ntmps59
  go_wp2
  exact bodyPost_ret (v := .agg #[fnv 86, fnv 87]) (by simp [results, Tryd.results59, go_sem]) rfl ⟨rfl, ((Kept.refl _ _).alloc _).alloc _⟩
set_option maxRecDepth 100000 in
theorem rule4 (w : World) : Calls Tryd.prog 59 #[.int .i64 4] w (RuleEnd 88 89 w) := by
  go_enter Tryd.func59, Tryd.ntmps59
  go_wp2
  exact bodyPost_ret (v := .agg #[fnv 88, fnv 89]) (by simp [results, Tryd.results59, go_sem]) rfl ⟨rfl, ((Kept.refl _ _).alloc _).alloc _⟩
end Go.Proofs.YtlnfbfdmicmafaaDoor
