/-
  The walk of UpdateRequests over an operation that came in.
-/
import Derived.Test.YtpdkmalfojeghaaGreatDoorLtrM
import Derived.Test.YtpdkmalfojeghaaGreatDoorLtrO
namespace Go.Proofs.YtpdkmalfojeghaaGreatDoor
open Go.RowKit
set_option linter.unusedVariables false

theorem UpdateRequests_v (w : World) (v : Value) (o : Bo) (cl nm : Int) (hv : ∃ a c, v = .agg #[.int .i64 o.k, .int .u32 o.key, .int .u64 o.r, .slice a o.d.length c, .int .i64 o.p] ∧ BSl w (fun k => k < w.heap.size) (.slice a o.d.length c) o.d) (k0 : 0 ≤ o.key) (k1 : o.key ≤ 4294967295) (r0 : 0 ≤ o.r) (r1 : o.r ≤ 18446744073709551615) (n0 : 0 ≤ nm) (n1 : nm ≤ 18446744073709551615) (ht : Tab10 w) : Calls Tryz.prog 5 #[v, .int .i64 cl, .int .u64 nm] w fun e w' => e = .returned (.bool true) ∧ Kept NoB w w' := by
  obtain ⟨a, c, rfl, hd⟩ := hv
  exact UpdateRequests_any w a c o.k o.key o.r o.p cl nm o.d hd ⟨by show (0 : Int) ≤ 0; omega, by show (0 : Int) ≤ 18446744073709551615; omega, n0, n1, k0, k1, r0, r1⟩ ht
end Go.Proofs.YtpdkmalfojeghaaGreatDoor
