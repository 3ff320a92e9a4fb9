/-
  Package frame: calls at no codec; the walk of FrameNil.
-/
import Derived.Test.YtpcacndbagiajaaFrmG
namespace Go.Proofs.Ytpcacndbagiajaa
open Go.RowKit

set_option maxRecDepth 100000 in
theorem PutN_any (k : Int) (b : Value) (l : List Int) (F : Nat → Prop) (w : World) (hb : BSl w F b l) : Calls Try.prog 39 #[.pointer none, .agg #[.int .u8 k, b]] w fun e w' => e = .returned (.tuple #[.slice none 0 0, .int .i64 2]) ∧ Kept NoB w w' := by
  obtain ⟨ba, bc, rfl, _⟩ := hb
  go_enter Try.func39, Try.ntmps39
  go_wp2
  go_ret2
  exact ⟨rfl, (Kept.refl _ _).alloc _⟩
set_option maxRecDepth 100000 in
theorem CutN_any (v : Value) (w : World) : Calls Try.prog 45 #[.pointer none, v] w fun e w' => e = .returned (.tuple #[.agg #[.int .u8 0, .slice none 0 0], .int .i64 0, .int .i64 2]) ∧ Kept NoB w w' := by
  go_enter Try.func45, Try.ntmps45
  go_wp2
  refine bodyPost_ret (v := .tuple #[.agg #[.int .u8 0, .slice none 0 0], .int .i64 0, .int .i64 2]) (by simp [results, Try.results45, go_sem]) rfl ⟨rfl, (Kept.refl _ _).alloc _⟩
set_option maxRecDepth 100000 in
theorem GetN_any (v : Value) (w : World) : Calls Try.prog 47 #[.pointer none, v] w fun e w' => e = .returned (.tuple #[.agg #[.int .u8 0, .slice none 0 0], .int .i64 2]) ∧ Kept NoB w w' := by
  go_enter Try.func47, Try.ntmps47
  go_wp2
  refine bodyPost_ret (v := .tuple #[.agg #[.int .u8 0, .slice none 0 0], .int .i64 2]) (by simp [results, Try.results47, go_sem]) rfl ⟨rfl, (Kept.refl _ _).alloc _⟩
theorem AllN_any (v : Value) (w : World) : Calls Try.prog 50 #[.pointer none, v] w fun e w' => e = .returned (.tuple #[.slice none 0 0, .int .i64 0, .int .i64 2]) ∧ w = w' := by
  go_enter Try.func50, Try.ntmps50
  go_wp2
  go_ret3
  exact ⟨rfl, rfl⟩
theorem CountsN_any (w : World) : Calls Try.prog 52 #[.pointer none] w fun e w' => e = .returned (.tuple #[.int .u64 0, .int .u64 0]) ∧ w = w' := by
  go_enter Try.func52, Try.ntmps52
  go_wp2
  go_ret2
  exact ⟨rfl, rfl⟩

set_option maxHeartbeats 1000000 in
set_option maxRecDepth 100000 in
theorem FrameNil_any (k : Int) (b v : Value) (l m : List Int) (w : World) (hb : BSl w (fun k => k < w.heap.size) b l) (hm : BSl w (fun k => k < w.heap.size) v m) :
    Calls Try.prog 10 #[.agg #[.int .u8 k, b], v] w fun e w' => e = .returned (.bool true) ∧ Kept NoB w w' := by
  have HB := Lib.hid hb
  obtain ⟨ba, bc, rfl, _⟩ := hb
  obtain ⟨va, vc, rfl, _⟩ := hm
  go_enter Try.func10, Try.ntmps10
  go_wp2_with fail
  refine (ours_any _ _ _ _ _).mono ?_
  rintro e w1 ⟨rfl, hk1⟩
  have HK1 := Lib.hid (((Kept.refl NoB w).alloc _).trans hk1 (fun _ _ h => h))
  clear hk1
  go_wp2_with fail
  refine (PutN_any _ _ l _ _ (HB.out.kept HK1.out (fun _ _ h => h))).mono ?_
  rintro e w2 ⟨rfl, hk2⟩
  have HK2 := Lib.hid (HK1.out.trans hk2 (fun _ _ h => h))
  clear hk2
  go_wp2_with fail
  refine (CutN_any _ _).mono ?_
  rintro e w3 ⟨rfl, hk3⟩
  have HK3 := Lib.hid (HK2.out.trans hk3 (fun _ _ h => h))
  clear hk3
  go_wp2_with fail
  refine (GetN_any _ _).mono ?_
  rintro e w4 ⟨rfl, hk4⟩
  have by4 := Lib.hid (hk4.heap (fun h => h) (heap_alloc_new w3 _))
  have HK4 := Lib.hid ((HK3.out.alloc _).trans hk4 (fun _ _ h => h))
  have hl4 := heap_lt by4.out
  have y0 : w4.cell? ⟨w3.heap.size, 0, none⟩ = some (.int .u8 0) := cell_of_row w4 _ 0 _ _ _ by4.out
  have y1 : w4.cell? ⟨w3.heap.size, 1, none⟩ = some (.slice none 0 0) := cell_of_row w4 _ 1 _ _ _ by4.out
  clear hk4
  go_wp2_with fail
  refine (AllN_any _ _).mono ?_
  rintro e w5 ⟨rfl, rfl⟩
  go_wp2_with fail
  refine (CountsN_any _).mono ?_
  rintro e w5 ⟨rfl, rfl⟩
  have y0 := cell_alloc y0 (.cells #[.int .u8 0, .slice none 0 0] 81)
  have y1 := cell_alloc y1 (.cells #[.int .u8 0, .slice none 0 0] 81)
  go_wp2_with fail
  refine (like_any 0 0 _ _ [] [] NoB NoB _ (BSl.nil _ _) (BSl.nil _ _)).mono ?_
  rintro e w6 ⟨rfl, hk6⟩
  have bz6 := hk6.heap (fun h => h) (heap_alloc_new w4 _)
  have HK6 := Lib.hid ((HK4.out.alloc _).trans hk6 (fun _ _ h => h))
  have z0 : w6.cell? ⟨w4.heap.size, 0, none⟩ = some (.int .u8 0) := cell_of_row w6 _ 0 _ _ _ bz6
  have z1 : w6.cell? ⟨w4.heap.size, 1, none⟩ = some (.slice none 0 0) := cell_of_row w6 _ 1 _ _ _ bz6
  rw [show (decide ((0 : Int) = 0) && decide (([] : List Int) = [])) = true from rfl]
  clear hk6 bz6 y0 y1
  go_wp2_with fail
  refine (like_any 0 0 _ _ [] [] NoB NoB _ (BSl.nil _ _) (BSl.nil _ _)).mono ?_
  rintro e w7 ⟨rfl, hk7⟩
  rw [show (decide ((0 : Int) = 0) && decide (([] : List Int) = [])) = true from rfl]
  go_wp2_with fail
  refine (awake3_any _).mono ?_
  rintro e w8 ⟨rfl, hk8⟩
  go_wp2
  go_ret
  exact ⟨rfl, (HK6.out.trans hk7 (fun _ _ h => h)).trans hk8 (fun _ _ h => h)⟩
end Go.Proofs.Ytpcacndbagiajaa
