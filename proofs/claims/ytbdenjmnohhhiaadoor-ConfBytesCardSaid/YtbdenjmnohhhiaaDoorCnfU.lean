/-
  Package conf: the rules of the kinds; whether a command is possible.
-/
import Derived.Test.YtbdenjmnohhhiaaDoorCnfQ
import Derived.Test.YtbdenjmnohhhiaaDoorCnfT
import Derived.Test.YtbdenjmnohhhiaaDoorCmdA
import Derived.Laws.EntriesVeiled
namespace Go.Proofs.YtbdenjmnohhhiaaDoor
open Go.RowKit
set_option linter.unusedVariables false

abbrev fnv (f : FuncId) : Value := .func (.func f) #[] #[]
def RuleEnd (f g : FuncId) (w : World) (e : Ending) (w' : World) : Prop := e = .returned (.agg #[fnv f, fnv g]) ∧ Kept NoB w w'
set_option maxRecDepth 100000 in
theorem rule1 (w : World) : Calls Tryd.prog 38 #[.int .i64 1] w (RuleEnd 57 58 w) := by
  go_enter Tryd.func38, Tryd.ntmps38
  go_wp2
  exact bodyPost_ret (v := .agg #[fnv 57, fnv 58]) (by simp [results, Tryd.results38, go_sem]) rfl ⟨rfl, ((Kept.refl _ _).alloc _).alloc _⟩
set_option maxRecDepth 100000 in
theorem rule2 (w : World) : Calls Tryd.prog 38 #[.int .i64 2] w (RuleEnd 59 60 w) := by
  go_enter Tryd.func38, Tryd.ntmps38
  go_wp2
  exact bodyPost_ret (v := .agg #[fnv 59, fnv 60]) (by simp [results, Tryd.results38, go_sem]) rfl ⟨rfl, ((Kept.refl _ _).alloc _).alloc _⟩
set_option maxRecDepth 100000 in
theorem rule3 (w : World) : Calls Tryd.prog 38 #[.int .i64 3] w (RuleEnd 61 62 w) := by
  go_enter Tryd.func38, Tryd.ntmps38
  go_wp2
  exact bodyPost_ret (v := .agg #[fnv 61, fnv 62]) (by simp [results, Tryd.results38, go_sem]) rfl ⟨rfl, ((Kept.refl _ _).alloc _).alloc _⟩
set_option maxRecDepth 100000 in
theorem rule4 (w : World) : Calls Tryd.prog 38 #[.int .i64 4] w (RuleEnd 63 64 w) := by
  go_enter Tryd.func38, Tryd.ntmps38
  go_wp2
  exact bodyPost_ret (v := .agg #[fnv 63, fnv 64]) (by simp [results, Tryd.results38, go_sem]) rfl ⟨rfl, ((Kept.refl _ _).alloc _).alloc _⟩
end Go.Proofs.YtbdenjmnohhhiaaDoor
