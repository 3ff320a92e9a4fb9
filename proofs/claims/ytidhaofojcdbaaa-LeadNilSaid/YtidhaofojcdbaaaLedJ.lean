/-
  LeadNil: the walk.
-/
import Derived.Test.YtidhaofojcdbaaaLedI
namespace Go.Proofs.Ytidhaofojcdbaaa
open Go.RowKit
set_option linter.unusedVariables false

set_option maxRecDepth 100000 in
set_option maxHeartbeats 2000000 in
theorem LeadNil_any (w : World) (kd : Int) (own : Bool) (b n who : Int) (va : Option Addr) (vl vc : Nat) (k ch ep nd : Int) :
    Calls Try.prog 5 #[.agg #[.int .i64 kd, .bool own, .int .u64 b, .int .i64 n, .int .i64 who, .slice va vl vc, .int .i64 k, .int .i64 ch, .int .u64 ep, .int .i64 nd]] w (BoolD true w) := by
  have hr := heap_alloc_new w (.cells #[.int .i64 kd, .bool own, .int .u64 b, .int .i64 n, .int .i64 who, .slice va vl vc, .int .i64 k, .int .i64 ch, .int .u64 ep, .int .i64 nd] 63)
  have hk := (Kept.refl NoB w).alloc (.cells #[.int .i64 kd, .bool own, .int .u64 b, .int .i64 n, .int .i64 who, .slice va vl vc, .int .i64 k, .int .i64 ch, .int .u64 ep, .int .i64 nd] 63)
  obtain ⟨W, hW⟩ : ∃ W, W = w.alloc (.cells #[.int .i64 kd, .bool own, .int .u64 b, .int .i64 n, .int .i64 who, .slice va vl vc, .int .i64 k, .int .i64 ch, .int .u64 ep, .int .i64 nd] 63) := ⟨_, rfl⟩
  have HWW := Lib.hid hW
  rw [← hW] at hr hk
  have HR := Lib.hid hr
  have HK := Lib.hid hk
  clear hr hk hW
  go_enter Try.func5, Try.ntmps5
  go_upto_region 2 with fail
  rw [← HWW.out]
  have c2 := cell_of_row _ _ 2 _ _ _ HR.out
  have c3 := cell_of_row _ _ 3 _ _ _ HR.out
  go_wp2_with fail
  refine (DStart_nil _ _ _).mono ?_
  rintro e w1 ⟨rfl, rfl⟩
  have c4 := cell_of_row _ _ 4 _ _ _ HR.out
  have c5 := cell_of_row _ _ 5 _ _ _ HR.out
  go_wp2_with fail
  refine (DPromise_nil _ _ _ _).mono ?_
  rintro e w1 ⟨rfl, rfl⟩
  have c6 := cell_of_row _ _ 6 _ _ _ HR.out
  have c7 := cell_of_row _ _ 7 _ _ _ HR.out
  have c8 := cell_of_row _ _ 8 _ _ _ HR.out
  have c9 := cell_of_row _ _ 9 _ _ _ HR.out
  go_wp2_with fail
  refine (DPropose_nil _ _ _ _ _).mono ?_
  rintro e w2 ⟨rfl, hk2⟩
  have HV2 := Lib.hid (heap_alloc_new w2 (.cells #[.int .i64 0, .int .u64 0, .int .i64 0, .int .i64 0, .int .u64 0, .int .i64 0] 48))
  have HK2 := Lib.hid (hk2.alloc (.cells #[.int .i64 0, .int .u64 0, .int .i64 0, .int .i64 0, .int .u64 0, .int .i64 0] 48))
  clear c2 c3 c4 c5 c6 c7 c8 c9 hk2
  go_upto_region 5 with fail
  obtain ⟨W3, hW3⟩ : ∃ W, W = w2.alloc (.cells #[.int .i64 0, .int .u64 0, .int .i64 0, .int .i64 0, .int .u64 0, .int .i64 0] 48) := ⟨_, rfl⟩
  rw [← hW3] at HV2 HK2 ⊢
  clear hW3
  have HR3 := Lib.hid (HK2.out.heap (fun h => h) HR.out)
  have c2 := cell_of_row _ _ 2 _ _ _ HR3.out
  have c3 := cell_of_row _ _ 3 _ _ _ HR3.out
  have c4 := cell_of_row _ _ 4 _ _ _ HR3.out
  go_wp2_with fail
  refine (DAccepted_nil _ _ _ _).mono ?_
  rintro e w4 ⟨rfl, hk4⟩
  have HV4 := Lib.hid (heap_alloc_new w4 (.cells #[.int .i64 0, .int .u64 0, .int .i64 0, .int .i64 0, .int .u64 0, .int .i64 0] 48))
  have HK4 := Lib.hid (hk4.alloc (.cells #[.int .i64 0, .int .u64 0, .int .i64 0, .int .i64 0, .int .u64 0, .int .i64 0] 48))
  clear c2 c3 c4 hk4
  go_upto_region 6 with fail
  obtain ⟨W5, hW5⟩ : ∃ W, W = w4.alloc (.cells #[.int .i64 0, .int .u64 0, .int .i64 0, .int .i64 0, .int .u64 0, .int .i64 0] 48) := ⟨_, rfl⟩
  rw [← hW5] at HV4 HK4 ⊢
  clear hW5
  have HV2b := Lib.hid (HK4.out.heap (fun h => h) HV2.out)
  have HR5 := Lib.hid (HK4.out.heap (fun h => h) HR3.out)
  have HKF := Lib.hid ((HK.out.trans HK2.out (fun _ _ h => h)).trans HK4.out (fun _ _ h => h))
  obtain ⟨x0, x1, x2, x3, x4, x5⟩ := cells6v HV2b.out
  obtain ⟨y0, y1, y2, y3, y4, y5⟩ := cells6v HV4.out
  have c2 := cell_of_row _ _ 2 _ _ _ HR5.out
  go_wp2_with fail
  refine (DRefuse_nil _ _).mono ?_
  rintro e w6 ⟨rfl, rfl⟩
  go_wp2_with fail
  refine (DOpen_nil _).mono ?_
  rintro e w6 ⟨rfl, rfl⟩
  go_wp2_with fail
  refine (DState_nil _).mono ?_
  rintro e w6 ⟨rfl, rfl⟩
  go_wp2_with fail
  refine (DBallot_nil _).mono ?_
  rintro e w6 ⟨rfl, rfl⟩
  go_wp2_with fail
  refine (DFrom_nil _).mono ?_
  rintro e w6 ⟨rfl, rfl⟩
  go_wp2_with fail
  refine (DNext_nil _).mono ?_
  rintro e w6 ⟨rfl, rfl⟩
  go_wp2_with fail
  refine (awake13 _).mono ?_
  rintro e w7 ⟨rfl, hk7⟩
  have HK7 := Lib.hid (HKF.out.trans hk7 (fun _ _ h => h))
  clear hk7 x0 x1 x2 x3 x4 x5 y0 y1 y2 y3 y4 y5 c2
  go_wp2
  go_ret
  exact ⟨rfl, HK7.out⟩
end Go.Proofs.Ytidhaofojcdbaaa
