/-
  Package conf and its answer: who is used.
-/
import Derived.Test.YtbacnkndllifaaaCnfK
namespace Go.Proofs.Ytbacnkndllifaaa
open Go.RowKit
set_option linter.unusedVariables false

theorem cf_eta (w : World) (F : Nat → Prop) (c : Cf) (u : Value) (h : NSl w F u c.ns) (hb : 0 ≤ c.ep ∧ c.ep ≤ topE ∧ c.ns.length ≤ 1000) : CfV w F (.agg #[.int .i64 c.ch, .int .u64 c.ep, u, .bool c.fr, .int .i64 c.jn]) c := ⟨u, rfl, h, hb⟩
end Go.Proofs.Ytbacnkndllifaaa
