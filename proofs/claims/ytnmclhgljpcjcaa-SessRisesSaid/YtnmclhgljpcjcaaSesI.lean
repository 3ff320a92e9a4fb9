/-
  The walks of SessNil and SessRises; rows that came in.
-/
import Derived.Test.YtnmclhgljpcjcaaSesH
import Derived.Test.YtnmclhgljpcjcaaOutB
namespace Go.Proofs.Ytnmclhgljpcjcaa
open Go.RowKit
set_option linter.unusedVariables false

theorem SPut_nil (w : World) (o : Value) : Calls Try.prog 52 #[.pointer none, o] w fun e w' => e = .returned (.tuple #[]) ∧ w = w' := by
  go_enter Try.func52, Try.ntmps52
  go_wp2
  exact bodyPost_ret (v := .tuple #[]) (by simp [results, Try.results52]) rfl ⟨rfl, rfl⟩
set_option maxRecDepth 100000 in
set_option maxHeartbeats 1000000 in
theorem SessNil_any (w : World) (x0 x1 x2 x3 x4 s n : Int) : Calls Try.prog 11 #[.agg #[.int .i64 x0, .int .u64 x1, .int .u64 x2, .int .i64 x3, .int .u64 x4], .int .i64 s, .int .u64 n] w fun e w' => e = .returned (.bool true) ∧ Kept NoB w w' := by
  go_enter Try.func11, Try.ntmps11
  go_wp2_with fail
  have HR := Lib.hid (heap_alloc_new w (.cells #[.int .i64 x0, .int .u64 x1, .int .u64 x2, .int .i64 x3, .int .u64 x4] 74))
  have HK := Lib.hid ((Kept.refl NoB w).alloc (.cells #[.int .i64 x0, .int .u64 x1, .int .u64 x2, .int .i64 x3, .int .u64 x4] 74))
  refine (New_any 50 _ (by decide)).mono ?_
  rintro e w1 ⟨rfl, ho, hk⟩
  have hz : (w.alloc (.cells #[.int .i64 x0, .int .u64 x1, .int .u64 x2, .int .i64 x3, .int .u64 x4] 74)).heap.size = w.heap.size + 1 := by simp
  rw [hz] at ho
  have HO := Lib.hid ho
  have HK1 := Lib.hid (HK.out.trans hk (fun _ _ h => h))
  have HR1 := Lib.hid (hk.heap (fun h => h) HR.out)
  clear hk ho hz
  go_wp2_with (go_at_call 52; refine (SPut_nil _ _).mono ?_; rintro e w' ⟨rfl, rfl⟩)
  refine (Done_any _ _ _ w1 HO.out (by simp)).mono ?_
  rintro e w2 ⟨v, rfl, hv, hk⟩
  obtain ⟨va, vc, rfl, _⟩ := hv
  have HK2 := Lib.hid (HK1.out.trans hk (fun _ _ h => h))
  have HR2 := Lib.hid (hk.heap (fun h => h) HR1.out)
  clear hk HO
  rw [show ([] : List Int).length = 0 from rfl]
  go_wp2_with fail
  refine (SGet_nil _ s).mono ?_
  rintro e w3 ⟨rfl, hk⟩
  rw [show rvv rw0 = .agg #[.int .i64 0, .int .u64 0, .int .u64 0, .int .i64 0, .int .u64 0] from rfl]
  have HK3 := Lib.hid ((HK2.out.trans hk (fun _ _ h => h)).alloc (.cells #[.int .i64 0, .int .u64 0, .int .u64 0, .int .i64 0, .int .u64 0] 75))
  have HR3 := Lib.hid (blkR_alloc (hk.heap (fun h => h) HR2.out) (.cells #[.int .i64 0, .int .u64 0, .int .u64 0, .int .i64 0, .int .u64 0] 75))
  have HZ3 := Lib.hid (heap_alloc_new w3 (.cells #[.int .i64 0, .int .u64 0, .int .u64 0, .int .i64 0, .int .u64 0] 75))
  clear hk
  go_wp2_with fail
  generalize hW4 : w3.alloc (.cells #[.int .i64 0, .int .u64 0, .int .u64 0, .int .i64 0, .int .u64 0] 75) = w4 at HK3 HR3 HZ3 ⊢
  clear hW4
  obtain ⟨c0, c1, c2, c3, c4⟩ := cells5r (v := ⟨x0, x1, x2, x3, x4⟩) HR3.out
  refine (SJudge_nil _ _ _).mono ?_
  rintro e w' ⟨rfl, rfl⟩
  go_wp2_with fail
  refine (ours16 _ _ _ _ _ _).mono ?_
  rintro e w5 ⟨rfl, hk⟩
  have HK5 := Lib.hid (HK3.out.trans hk (fun _ _ h => h))
  have HZ5 := Lib.hid (hk.heap (fun h => h) HZ3.out)
  clear hk c0 c1 c2 c3 c4
  go_wp2_with fail
  refine (SSet_nil _ _ _ _ _ _).mono ?_
  rintro e w6 ⟨rfl, hk⟩
  have HK6 := Lib.hid (HK5.out.trans hk (fun _ _ h => h))
  have HZ6 := Lib.hid (hk.heap (fun h => h) HZ5.out)
  clear hk
  obtain ⟨d0, d1, d2, d3, d4⟩ := cells5r (v := rw0) HZ6.out
  simp only [rw0] at d0 d1 d2 d3 d4
  go_wp2_with fail
  refine (SAll_nil _).mono ?_
  rintro e w7 ⟨rfl, hk⟩
  have HK7 := Lib.hid (HK6.out.trans hk (fun _ _ h => h))
  clear hk d0 d1 d2 d3 d4
  go_wp2_with fail
  refine (SLen_nil _).mono ?_
  rintro e w8 ⟨rfl, hk⟩
  have HK8 := Lib.hid (HK7.out.trans hk (fun _ _ h => h))
  clear hk
  go_wp2_with fail
  refine (awake16 _).mono ?_
  rintro e w9 ⟨rfl, hk⟩
  have HK9 := Lib.hid (HK8.out.trans hk (fun _ _ h => h))
  clear hk
  go_wp2
  go_ret
  exact ⟨rfl, HK9.out⟩
end Go.Proofs.Ytnmclhgljpcjcaa
