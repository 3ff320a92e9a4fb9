/-
  slices.ContainsFunc over numbers and configurations; who is used.
-/
import Derived.Test.YtbacnkndllifaaaCnfI
import Derived.Test.YtbacnkndllifaaaCnfJ
namespace Go.Proofs.Ytbacnkndllifaaa
open Go.RowKit
set_option linter.unusedVariables false

/-- A function of the program that has a body. -/
def Enters (f : FuncId) : Prop := ∀ (args : Array Value) (w : World), Sem.run Try.prog (callFunc f args) w = .ok (.enter f args) w
/-- A function literal that tells p of a number, in any later world. -/
def TellsN (f : FuncId) (caps : Array Value) (l : List Int) (p : Int → Bool) (w : World) : Prop :=
  Enters f ∧ ∀ x w', x ∈ l → Kept NoB w w' → Calls Try.prog f (#[.int .i64 x] ++ caps) w' (BoolE (p x) w')
/-- A function literal that tells p of a configuration, in any later world. -/
def TellsC (f : FuncId) (caps : Array Value) (l : List Cf) (p : Cf → Bool) (w : World) : Prop :=
  Enters f ∧ ∀ v c w' (F : Nat → Prop), c ∈ l → CfV w' F v c → Kept NoB w w' → Calls Try.prog f (#[v] ++ caps) w' (BoolE (p c) w')
end Go.Proofs.Ytbacnkndllifaaa
