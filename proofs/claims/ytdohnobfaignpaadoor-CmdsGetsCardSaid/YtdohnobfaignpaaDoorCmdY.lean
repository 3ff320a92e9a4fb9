/-
  Package cmds: Get of no reader.
-/
import Derived.Test.YtdohnobfaignpaaDoorCmdO
namespace Go.Proofs.YtdohnobfaignpaaDoor
open Go.RowKit Go.Sort Go.Lib
set_option linter.unusedVariables false

theorem NGet8 (n : Int) (w : World) : Calls Tryd.prog 44 #[.pointer none, .int .i64 n] w fun r w' => r = .returned (.int .u64 0) ∧ w = w' := by
  go_enter Tryd.func44, Tryd.ntmps44
  go_wp2
  go_ret
  exact ⟨rfl, rfl⟩
theorem NErr8 (w : World) : Calls Tryd.prog 45 #[.pointer none] w fun r w' => r = .returned (.int .i64 2) ∧ w = w' := by
  go_enter Tryd.func45, Tryd.ntmps45
  go_wp2
  go_ret
  exact ⟨rfl, rfl⟩
set_option maxRecDepth 100000 in
set_option maxHeartbeats 1000000 in
theorem CGet_nil (w : World) : Calls Tryd.prog 26 #[.pointer none] w fun r w' => r = .returned (.tuple #[.agg #[.int .i64 0, .int .i64 0, .int .u64 0, .int .i64 0], .int .i64 2]) ∧ Kept NoB w w' := by
  go_enter Tryd.func26, Tryd.ntmps26
  go_wp2_with (first
    | (go_at_call 44; refine (NGet8 _ _).mono ?_; rintro e w' ⟨rfl, rfl⟩)
    | (go_at_call 45; refine (NErr8 _).mono ?_; rintro e w' ⟨rfl, rfl⟩))
  obtain ⟨r0, r1, r2, r3, _⟩ := cells4 (balloc (heap_alloc_new w (.cells #[.int .i64 0, .int .i64 0, .int .u64 0, .int .i64 0] 24)) (.cells #[.int .i64 0, .int .i64 0, .int .u64 0, .int .i64 0] 24))
  exact bodyPost_ret (v := .tuple #[.agg #[.int .i64 0, .int .i64 0, .int .u64 0, .int .i64 0], .int .i64 2]) (by simp [results, Tryd.results26, go_sem, r0, r1, r2, r3]) rfl ⟨rfl, ((Kept.refl NoB w).alloc (.cells #[.int .i64 0, .int .i64 0, .int .u64 0, .int .i64 0] 24)).alloc (.cells #[.int .i64 0, .int .i64 0, .int .u64 0, .int .i64 0] 24)⟩
end Go.Proofs.YtdohnobfaignpaaDoor
