/-
  What calls on no Out and on no In do, and the walk of catenarylaw01.FixNil.
-/
import Derived.Test.YtnkkbajlmpccmaaAwake
namespace Go.Proofs.Ytnkkbajlmpccmaa
open Go.RowKit

theorem NPut (n width : Int) (w : World) : Calls Try.prog 35 #[.pointer none, .int .u64 n, .int .i64 width] w fun r w' => r = .returned (.tuple #[]) ∧ w = w' := by
  go_enter Try.func35, Try.ntmps35
  go_wp2
  go_end0
  exact ⟨rfl, rfl⟩
theorem NRaw (v : Value) (w : World) : Calls Try.prog 36 #[.pointer none, v] w fun r w' => r = .returned (.tuple #[]) ∧ w = w' := by
  go_enter Try.func36, Try.ntmps36
  go_wp2
  go_end0
  exact ⟨rfl, rfl⟩
theorem NText (v : Value) (w : World) : Calls Try.prog 37 #[.pointer none, v] w fun r w' => r = .returned (.tuple #[]) ∧ w = w' := by
  go_enter Try.func37, Try.ntmps37
  go_wp2
  go_end0
  exact ⟨rfl, rfl⟩
theorem NBool (w : World) : Calls Try.prog 38 #[.pointer none, .bool true] w fun r w' => r = .returned (.tuple #[]) ∧ w = w' := by
  go_enter Try.func38, Try.ntmps38
  go_wp2_with fail
  refine (NPut _ _ _).mono ?_
  rintro e w1 ⟨rfl, rfl⟩
  go_wp2
  go_end0
  exact ⟨rfl, rfl⟩
theorem NDone (w : World) : Calls Try.prog 15 #[.pointer none] w fun r w' => r = .returned (.tuple #[.slice none 0 0, .int .i64 2]) ∧ w = w' := by
  go_enter Try.func15, Try.ntmps15
  go_wp2
  go_ret2
  exact ⟨rfl, rfl⟩
theorem NGet (n : Int) (w : World) : Calls Try.prog 21 #[.pointer none, .int .i64 n] w fun r w' => r = .returned (.int .u64 0) ∧ w = w' := by
  go_enter Try.func21, Try.ntmps21
  go_wp2
  go_ret
  exact ⟨rfl, rfl⟩
theorem NUpto (n most : Int) (h : 0 ≤ most) (w : World) : Calls Try.prog 23 #[.pointer none, .int .i64 n, .int .u64 most] w fun r w' => r = .returned (.int .u64 0) ∧ w = w' := by
  go_enter Try.func23, Try.ntmps23
  go_wp2_with fail
  refine (NGet _ _).mono ?_
  rintro e w1 ⟨rfl, rfl⟩
  go_wp2
  go_ret
  exact ⟨rfl, rfl⟩
theorem NInRaw (n : Int) (w : World) : Calls Try.prog 25 #[.pointer none, .int .i64 n] w fun r w' => r = .returned (.slice none 0 0) ∧ w = w' := by
  go_enter Try.func25, Try.ntmps25
  go_wp2
  go_ret
  exact ⟨rfl, rfl⟩
theorem NErr (w : World) : Calls Try.prog 31 #[.pointer none] w fun r w' => r = .returned (.int .i64 2) ∧ w = w' := by
  go_enter Try.func31, Try.ntmps31
  go_wp2
  go_ret
  exact ⟨rfl, rfl⟩
theorem NLeft (w : World) : Calls Try.prog 30 #[.pointer none] w fun r w' => r = .returned (.int .i64 0) ∧ w = w' := by
  go_enter Try.func30, Try.ntmps30
  go_wp2
  go_ret
  exact ⟨rfl, rfl⟩
theorem NInText (n : Int) (w : World) : Calls Try.prog 27 #[.pointer none, .int .i64 n] w fun r w' => r = .returned (.slice none 0 0) ∧ w = w' := by
  go_enter Try.func27, Try.ntmps27
  go_wp2_with fail
  refine (NGet _ _).mono ?_
  rintro e w1 ⟨rfl, rfl⟩
  go_wp2_with fail
  refine (NErr _).mono ?_
  rintro e w1 ⟨rfl, rfl⟩
  go_wp2
  go_ret
  exact ⟨rfl, rfl⟩
theorem NInBool (w : World) : Calls Try.prog 29 #[.pointer none] w fun r w' => r = .returned (.bool false) ∧ w = w' := by
  go_enter Try.func29, Try.ntmps29
  go_wp2_with fail
  refine (NUpto _ _ (by omega) _).mono ?_
  rintro e w1 ⟨rfl, rfl⟩
  go_wp2
  go_ret
  exact ⟨rfl, rfl⟩
theorem NInDone (w : World) : Calls Try.prog 32 #[.pointer none] w fun r w' => r = .returned (.int .i64 2) ∧ w = w' := by
  go_enter Try.func32, Try.ntmps32
  go_wp2_with fail
  refine (NErr _).mono ?_
  rintro e w1 ⟨rfl, rfl⟩
  go_wp2
  go_ret
  exact ⟨rfl, rfl⟩

theorem FixNil_any (n : Int) (v : Value) (w : World) : Calls Try.prog 7 #[.int .i64 n, v] w fun e w' => e = .returned (.bool true) ∧ Kept NoB w w' := by
  go_enter Try.func7, Try.ntmps7
  go_wp2_with fail
  refine (NPut _ _ _).mono ?_; rintro e w1 ⟨rfl, rfl⟩; go_wp2_with fail
  refine (NRaw _ _).mono ?_; rintro e w1 ⟨rfl, rfl⟩; go_wp2_with fail
  refine (NText _ _).mono ?_; rintro e w1 ⟨rfl, rfl⟩; go_wp2_with fail
  refine (NBool _).mono ?_; rintro e w1 ⟨rfl, rfl⟩; go_wp2_with fail
  refine (NDone _).mono ?_; rintro e w1 ⟨rfl, rfl⟩; go_wp2_with fail
  refine (NGet _ _).mono ?_; rintro e w1 ⟨rfl, rfl⟩; go_wp2_with fail
  refine (NUpto _ _ (by omega) _).mono ?_; rintro e w1 ⟨rfl, rfl⟩; go_wp2_with fail
  refine (NInRaw _ _).mono ?_; rintro e w1 ⟨rfl, rfl⟩; go_wp2_with fail
  refine (NInText _ _).mono ?_; rintro e w1 ⟨rfl, rfl⟩; go_wp2_with fail
  refine (NInBool _).mono ?_; rintro e w1 ⟨rfl, rfl⟩; go_wp2_with fail
  refine (NLeft _).mono ?_; rintro e w1 ⟨rfl, rfl⟩; go_wp2_with fail
  refine (NErr _).mono ?_; rintro e w1 ⟨rfl, rfl⟩; go_wp2_with fail
  refine (NInDone _).mono ?_; rintro e w1 ⟨rfl, rfl⟩; go_wp2_with fail
  refine (awake_any _).mono ?_; rintro e w1 ⟨rfl, hk⟩; go_wp2
  go_ret
  exact ⟨rfl, hk⟩
end Go.Proofs.Ytnkkbajlmpccmaa
