/-
  Layer 31: calls of no tree; answers that are the same; the walk of TreeNil.
-/
import Derived.Test.YtokafgleejcbgaaGreatDoorTreM
namespace Go.Proofs.YtokafgleejcbgaaGreatDoor
open Go.RowKit
set_option linter.unusedVariables false
set_option maxRecDepth 100000

abbrev ans2 : Value := .agg #[.int .i64 2, .slice none 0 0, .slice none 0 0, .int .i64 0, .bool false]
set_option maxHeartbeats 2000000 in
theorem Do31_nil (w : World) (k : Int) (s q : ByteArray) (o n : Int) (d : Value) : Calls Tryz.prog 4 #[.pointer none, callV k s q o n d] w fun e w' => e = .returned ans2 ∧ Kept NoB w w' := by
  obtain ⟨W, hW⟩ : ∃ W, W = (w.alloc (.cells #[.int .i64 k, .string s, .string q, .int .i64 o, .int .i64 n, d] 24)).alloc (.cells #[.int .i64 0, .slice none 0 0, .slice none 0 0, .int .i64 0, .bool false] 29) := ⟨_, rfl⟩
  obtain ⟨HKW, HBC, HBA, HWS⟩ := callAns31 w k s q o n d W hW
  have HWQ := Lib.hid hW
  obtain ⟨bA, hbA⟩ : ∃ b, b = w.heap.size + 1 := ⟨_, rfl⟩
  rw [← hbA] at HBA
  have HBE := Lib.hid hbA
  clear hW hbA
  unfold callV
  go_enter Tryz.func4, Tryz.ntmps4
  go_upto_region 1 with fail
  rw [← HWQ.out, ← HBE.out]
  go_wp2_with (go_at_call 13; refine (answer31_lit _ _).mono ?_; rintro e w3 ⟨rfl, hk3⟩; have HK3 := Lib.hid (HKW.out.trans hk3 (fun _ _ h => h)); have HB3 := Lib.hid (hk3.heap (fun h => h) HBA.out); clear hk3; (obtain ⟨z0, z1, z2, z3, z4⟩ := cells5_31 HB3.out); have f0 := frz31 HB3.out 0; have f1 := frz31 HB3.out 1; have f2 := frz31 HB3.out 2; have f3 := frz31 HB3.out 3; have f4 := frz31 HB3.out 4)
  obtain ⟨W4, hW4⟩ : ∃ W4, W4 = ((((w3.setCell ⟨bA, 0, none⟩ (.int .i64 2)).setCell ⟨bA, 1, none⟩ (.slice none 0 0)).setCell ⟨bA, 2, none⟩ (.slice none 0 0)).setCell ⟨bA, 3, none⟩ (.int .i64 0)).setCell ⟨bA, 4, none⟩ (.bool false) := ⟨_, rfl⟩
  obtain ⟨hb4, hk4⟩ := ansSet31 HB3.out 2 (.slice none 0 0) (.slice none 0 0) 0 false W4 hW4
  rw [← hW4]
  obtain ⟨r0, r1, r2, r3, r4⟩ := cells5_31 hb4
  have HK4 := Lib.hid hk4
  clear hW4 hb4 hk4 z0 z1 z2 z3 z4 f0 f1 f2 f3 f4
  exact bodyPost_ret (v := ans2) (by simp [results, Tryz.results4, go_sem, r0, r1, r2, r3, r4]) rfl ⟨rfl, HK3.out.trans HK4.out (fun i hi h => by have h : i = bA := h; have := HBE.out; omega)⟩
theorem File31_nil (w : World) (s : ByteArray) : Calls Tryz.prog 5 #[.pointer none, .string s] w fun e w' => e = .returned (.tuple #[.slice none 0 0, .bool false]) ∧ w = w' := by
  go_enter Tryz.func5, Tryz.ntmps5
  go_wp2
  exact bodyPost_ret (v := .tuple #[.slice none 0 0, .bool false]) (by simp [results, Tryz.results5, go_sem]) rfl ⟨rfl, rfl⟩
theorem Inodes31_nil (w : World) : Calls Tryz.prog 7 #[.pointer none] w fun e w' => e = .returned (.int .i64 0) ∧ w = w' := by
  go_enter Tryz.func7, Tryz.ntmps7
  go_wp2
  go_ret
  exact ⟨rfl, rfl⟩
theorem Blocks31_nil (w : World) : Calls Tryz.prog 8 #[.pointer none] w fun e w' => e = .returned (.int .i64 0) ∧ w = w' := by
  go_enter Tryz.func8, Tryz.ntmps8
  go_wp2
  go_ret
  exact ⟨rfl, rfl⟩
theorem Paths31_nil (w : World) : Calls Tryz.prog 9 #[.pointer none] w fun e w' => e = .returned (.slice none 0 0) ∧ w = w' := by
  go_enter Tryz.func9, Tryz.ntmps9
  go_wp2
  go_ret
  exact ⟨rfl, rfl⟩
theorem Copy31_nil (w : World) : Calls Tryz.prog 10 #[.pointer none] w fun e w' => e = .returned (.pointer none) ∧ w = w' := by
  go_enter Tryz.func10, Tryz.ntmps10
  go_wp2
  go_ret
  exact ⟨rfl, rfl⟩
/-- Do calls of this kind turn a tree? -/
def trn31 (k : Int) : Bool := decide ((1 ≤ k ∧ k ≤ 6) ∨ k = 8)
theorem Turns31_any (w : World) (k : Int) : Calls Tryz.prog 11 #[.int .i64 k] w fun e w' => e = .returned (.bool (trn31 k)) ∧ w = w' := by
  by_cases hk : (1 ≤ k ∧ k ≤ 6) ∨ k = 8
  · rw [show trn31 k = true from decide_eq_true hk]
    rcases (by omega : k = 1 ∨ k = 2 ∨ k = 3 ∨ k = 4 ∨ k = 5 ∨ k = 6 ∨ k = 8) with rfl | rfl | rfl | rfl | rfl | rfl | rfl
    all_goals
      clear hk
      go_enter Tryz.func11, Tryz.ntmps11
      go_wp2
      go_ret
      exact ⟨rfl, rfl⟩
  · rw [show trn31 k = false from decide_eq_false hk]
    have e1 : (k == 1) = false := by simpa using (show ¬ k = 1 by omega)
    have e2 : (k == 2) = false := by simpa using (show ¬ k = 2 by omega)
    have e3 : (k == 3) = false := by simpa using (show ¬ k = 3 by omega)
    have e4 : (k == 4) = false := by simpa using (show ¬ k = 4 by omega)
    have e5 : (k == 5) = false := by simpa using (show ¬ k = 5 by omega)
    have e6 : (k == 6) = false := by simpa using (show ¬ k = 6 by omega)
    have e8 : (k == 8) = false := by simpa using (show ¬ k = 8 by omega)
    clear hk
    go_enter Tryz.func11, Tryz.ntmps11
    go_wp2
    go_ret
    exact ⟨rfl, rfl⟩
set_option maxHeartbeats 2000000 in
theorem Same31_two (w : World) : Calls Tryz.prog 6 #[ans2, ans2] w fun e w' => e = .returned (.bool true) ∧ Kept NoB w w' := by
  have hk := ((Kept.refl NoB w).alloc (.cells #[.int .i64 2, .slice none 0 0, .slice none 0 0, .int .i64 0, .bool false] 29)).alloc (.cells #[.int .i64 2, .slice none 0 0, .slice none 0 0, .int .i64 0, .bool false] 29)
  obtain ⟨W, hW⟩ : ∃ W, W = (w.alloc (.cells #[.int .i64 2, .slice none 0 0, .slice none 0 0, .int .i64 0, .bool false] 29)).alloc (.cells #[.int .i64 2, .slice none 0 0, .slice none 0 0, .int .i64 0, .bool false] 29) := ⟨_, rfl⟩
  have hb1 : W.heap[w.heap.size]? = some (.cells #[.int .i64 2, .slice none 0 0, .slice none 0 0, .int .i64 0, .bool false] 29 (0, 0)) := by rw [hW]; exact ((Kept.refl NoB _).alloc _).heap (fun h => h) (heap_alloc_new w _)
  have hb2 : W.heap[w.heap.size + 1]? = some (.cells #[.int .i64 2, .slice none 0 0, .slice none 0 0, .int .i64 0, .bool false] 29 (0, 0)) := by
    rw [hW]
    have := heap_alloc_new (w.alloc (.cells #[.int .i64 2, .slice none 0 0, .slice none 0 0, .int .i64 0, .bool false] 29)) (.cells #[.int .i64 2, .slice none 0 0, .slice none 0 0, .int .i64 0, .bool false] 29)
    simpa using this
  rw [← hW] at hk
  have HK := Lib.hid hk
  have HB1 := Lib.hid hb1
  have HB2 := Lib.hid hb2
  obtain ⟨x0, x1, x2, x3, x4⟩ := cells5_31 hb1
  obtain ⟨y0, y1, y2, y3, y4⟩ := cells5_31 hb2
  have HWQ := Lib.hid hW
  clear hk hb1 hb2 hW
  unfold ans2
  go_enter Tryz.func6, Tryz.ntmps6
  go_upto_region 1 with fail
  rw [← HWQ.out]
  go_wp2_with (first
    | (go_at_call 25; refine (Same_any _ _ _ _ _ _ _ (BSl.nil _ (fun _ => True)) (BSl.nil _ (fun _ => True))).mono ?_; rw [decide_eq_true rfl]; rintro e w2 ⟨rfl, hk⟩; have HK2 := Lib.hid (HK.out.trans hk (fun _ _ h => h)); have hb1 := hk.heap (fun h => h) HB1.out; have hb2 := hk.heap (fun h => h) HB2.out; clear hk x0 x1 x2 x3 x4 y0 y1 y2 y3 y4; (obtain ⟨-, -, x2, -, -⟩ := cells5_31 hb1); (obtain ⟨-, -, y2, -, -⟩ := cells5_31 hb2); clear hb1 hb2)
    | (go_at_call 26; refine (SameT29_any _ _ _ _ _ _ _ (TSl.nil _ (fun _ => True)) (TSl.nil _ (fun _ => True))).mono ?_; rw [decide_eq_true rfl]; rintro e w3 ⟨rfl, hk⟩; have HK3 := Lib.hid (HK2.out.trans hk (fun _ _ h => h)); clear hk))
  go_ret
  exact ⟨rfl, HK3.out⟩
set_option maxHeartbeats 8000000 in
theorem TreeNil_any (w : World) (k : Int) (s q : ByteArray) (o n : Int) (d : Value) (kind : Int) (hv : Lng w) :
    Calls Tryz.prog 3 #[callV k s q o n d, .int .i64 kind] w fun e w' => e = .returned (.bool true) ∧ Kept NoB w w' := by
  have HV := Lib.hid hv
  have hk0 := (Kept.refl NoB w).alloc (.cells #[.int .i64 k, .string s, .string q, .int .i64 o, .int .i64 n, d] 24)
  have hb0 := heap_alloc_new w (.cells #[.int .i64 k, .string s, .string q, .int .i64 o, .int .i64 n, d] 24)
  obtain ⟨c0, c1, c2, c3, c4, c5⟩ := cells6_31 hb0
  have HK0 := Lib.hid hk0
  have HB0 := Lib.hid hb0
  have HT := Lib.hid (fun w => Turns31_any w kind)
  have HAW := Lib.hid (fun w h => awake31_any w h)
  clear hv hk0 hb0
  rcases (by omega : (1 ≤ kind ∧ kind ≤ 6) ∨ kind = 8 ∨ kind < 1 ∨ kind = 7 ∨ 8 < kind) with hk | rfl | hk | rfl | hk
  · rw [show trn31 kind = true from decide_eq_true (.inl hk)] at HT
    have d1 : decide (1 ≤ kind) = true := decide_eq_true hk.1
    have d2 : decide (kind ≤ 6) = true := decide_eq_true hk.2
    clear hk
    unfold callV
    go_enter Tryz.func3, Tryz.ntmps3
    go_upto_region 3 with (go_at_call 4; refine (Do31_nil _ k s q o n d).mono ?_; rintro e w1 ⟨rfl, hk⟩; have HK1 := Lib.hid (HK0.out.trans hk (fun _ _ h => h)); have HB1 := Lib.hid (hk.heap (fun h => h) HB0.out); clear hk)
    obtain ⟨W5, hW5⟩ : ∃ W5, W5 = w1.alloc (.cells #[.int .i64 2, .slice none 0 0, .slice none 0 0, .int .i64 0, .bool false] 29) := ⟨_, rfl⟩
    have hk5 : Kept NoB w1 W5 := by rw [hW5]; exact (Kept.refl NoB w1).alloc _
    have HB5 : Hid (W5.heap[w1.heap.size]? = some (.cells #[.int .i64 2, .slice none 0 0, .slice none 0 0, .int .i64 0, .bool false] 29 (0, 0))) := Lib.hid (by rw [hW5]; exact heap_alloc_new w1 _)
    have HK5 := Lib.hid (HK1.out.trans hk5 (fun _ _ h => h))
    clear c0 c1 c2 c3 c4 c5
    obtain ⟨-, c1, -, -, -, -⟩ := cells6_31 (hk5.heap (fun h => h) HB1.out)
    rw [← hW5]
    obtain ⟨bX, hbX⟩ : ∃ q, q = w1.heap.size := ⟨_, rfl⟩
    rw [← hbX] at HB5 ⊢
    obtain ⟨x0, x1, x2, x3, x4⟩ := cells5_31 HB5.out
    clear hW5 hk5 hbX
    go_wp2_with (first
      | (go_at_call 5; refine (File31_nil _ s).mono ?_; rintro e w2 ⟨rfl, rfl⟩)
      | (go_at_call 6; refine (Same31_two _).mono ?_; rintro e w3 ⟨rfl, hk⟩; have HK3 := Lib.hid (HK5.out.trans hk (fun _ _ h => h)); clear hk)
      | (go_at_call 7; refine (Inodes31_nil _).mono ?_; rintro e w4 ⟨rfl, rfl⟩)
      | (go_at_call 8; refine (Blocks31_nil _).mono ?_; rintro e w4 ⟨rfl, rfl⟩)
      | (go_at_call 9; refine (Paths31_nil _).mono ?_; rintro e w4 ⟨rfl, rfl⟩)
      | (go_at_call 10; refine (Copy31_nil _).mono ?_; rintro e w4 ⟨rfl, rfl⟩)
      | (go_at_call 11; refine (HT.out _).mono ?_; rintro e w4 ⟨rfl, rfl⟩)
      | (go_at_call 12; refine (HAW.out _ (HV.out.no HK3.out)).mono ?_; rintro e w9 ⟨rfl, hk⟩; have HK9 := Lib.hid (HK3.out.trans hk (fun _ _ h => h)); clear hk))
    go_ret
    exact ⟨rfl, HK9.out⟩
  · rw [show trn31 8 = true from rfl] at HT
    unfold callV
    go_enter Tryz.func3, Tryz.ntmps3
    go_upto_region 3 with (go_at_call 4; refine (Do31_nil _ k s q o n d).mono ?_; rintro e w1 ⟨rfl, hk⟩; have HK1 := Lib.hid (HK0.out.trans hk (fun _ _ h => h)); have HB1 := Lib.hid (hk.heap (fun h => h) HB0.out); clear hk)
    obtain ⟨W5, hW5⟩ : ∃ W5, W5 = w1.alloc (.cells #[.int .i64 2, .slice none 0 0, .slice none 0 0, .int .i64 0, .bool false] 29) := ⟨_, rfl⟩
    have hk5 : Kept NoB w1 W5 := by rw [hW5]; exact (Kept.refl NoB w1).alloc _
    have HB5 : Hid (W5.heap[w1.heap.size]? = some (.cells #[.int .i64 2, .slice none 0 0, .slice none 0 0, .int .i64 0, .bool false] 29 (0, 0))) := Lib.hid (by rw [hW5]; exact heap_alloc_new w1 _)
    have HK5 := Lib.hid (HK1.out.trans hk5 (fun _ _ h => h))
    clear c0 c1 c2 c3 c4 c5
    obtain ⟨-, c1, -, -, -, -⟩ := cells6_31 (hk5.heap (fun h => h) HB1.out)
    rw [← hW5]
    obtain ⟨bX, hbX⟩ : ∃ q, q = w1.heap.size := ⟨_, rfl⟩
    rw [← hbX] at HB5 ⊢
    obtain ⟨x0, x1, x2, x3, x4⟩ := cells5_31 HB5.out
    clear hW5 hk5 hbX
    go_wp2_with (first
      | (go_at_call 5; refine (File31_nil _ s).mono ?_; rintro e w2 ⟨rfl, rfl⟩)
      | (go_at_call 6; refine (Same31_two _).mono ?_; rintro e w3 ⟨rfl, hk⟩; have HK3 := Lib.hid (HK5.out.trans hk (fun _ _ h => h)); clear hk)
      | (go_at_call 7; refine (Inodes31_nil _).mono ?_; rintro e w4 ⟨rfl, rfl⟩)
      | (go_at_call 8; refine (Blocks31_nil _).mono ?_; rintro e w4 ⟨rfl, rfl⟩)
      | (go_at_call 9; refine (Paths31_nil _).mono ?_; rintro e w4 ⟨rfl, rfl⟩)
      | (go_at_call 10; refine (Copy31_nil _).mono ?_; rintro e w4 ⟨rfl, rfl⟩)
      | (go_at_call 11; refine (HT.out _).mono ?_; rintro e w4 ⟨rfl, rfl⟩)
      | (go_at_call 12; refine (HAW.out _ (HV.out.no HK3.out)).mono ?_; rintro e w9 ⟨rfl, hk⟩; have HK9 := Lib.hid (HK3.out.trans hk (fun _ _ h => h)); clear hk))
    go_ret
    exact ⟨rfl, HK9.out⟩
  · rw [show trn31 kind = false from decide_eq_false (by omega)] at HT
    have d1 : decide (1 ≤ kind) = false := decide_eq_false (by omega)
    have e8 : (kind == 8) = false := by simpa using (show ¬ kind = 8 by omega)
    clear hk
    unfold callV
    go_enter Tryz.func3, Tryz.ntmps3
    go_upto_region 3 with (go_at_call 4; refine (Do31_nil _ k s q o n d).mono ?_; rintro e w1 ⟨rfl, hk⟩; have HK1 := Lib.hid (HK0.out.trans hk (fun _ _ h => h)); have HB1 := Lib.hid (hk.heap (fun h => h) HB0.out); clear hk)
    obtain ⟨W5, hW5⟩ : ∃ W5, W5 = w1.alloc (.cells #[.int .i64 2, .slice none 0 0, .slice none 0 0, .int .i64 0, .bool false] 29) := ⟨_, rfl⟩
    have hk5 : Kept NoB w1 W5 := by rw [hW5]; exact (Kept.refl NoB w1).alloc _
    have HB5 : Hid (W5.heap[w1.heap.size]? = some (.cells #[.int .i64 2, .slice none 0 0, .slice none 0 0, .int .i64 0, .bool false] 29 (0, 0))) := Lib.hid (by rw [hW5]; exact heap_alloc_new w1 _)
    have HK5 := Lib.hid (HK1.out.trans hk5 (fun _ _ h => h))
    clear c0 c1 c2 c3 c4 c5
    obtain ⟨-, c1, -, -, -, -⟩ := cells6_31 (hk5.heap (fun h => h) HB1.out)
    rw [← hW5]
    obtain ⟨bX, hbX⟩ : ∃ q, q = w1.heap.size := ⟨_, rfl⟩
    rw [← hbX] at HB5 ⊢
    obtain ⟨x0, x1, x2, x3, x4⟩ := cells5_31 HB5.out
    clear hW5 hk5 hbX
    go_wp2_with (first
      | (go_at_call 5; refine (File31_nil _ s).mono ?_; rintro e w2 ⟨rfl, rfl⟩)
      | (go_at_call 6; refine (Same31_two _).mono ?_; rintro e w3 ⟨rfl, hk⟩; have HK3 := Lib.hid (HK5.out.trans hk (fun _ _ h => h)); clear hk)
      | (go_at_call 7; refine (Inodes31_nil _).mono ?_; rintro e w4 ⟨rfl, rfl⟩)
      | (go_at_call 8; refine (Blocks31_nil _).mono ?_; rintro e w4 ⟨rfl, rfl⟩)
      | (go_at_call 9; refine (Paths31_nil _).mono ?_; rintro e w4 ⟨rfl, rfl⟩)
      | (go_at_call 10; refine (Copy31_nil _).mono ?_; rintro e w4 ⟨rfl, rfl⟩)
      | (go_at_call 11; refine (HT.out _).mono ?_; rintro e w4 ⟨rfl, rfl⟩)
      | (go_at_call 12; refine (HAW.out _ (HV.out.no HK3.out)).mono ?_; rintro e w9 ⟨rfl, hk⟩; have HK9 := Lib.hid (HK3.out.trans hk (fun _ _ h => h)); clear hk))
    go_ret
    exact ⟨rfl, HK9.out⟩
  · rw [show trn31 7 = false from rfl] at HT
    unfold callV
    go_enter Tryz.func3, Tryz.ntmps3
    go_upto_region 3 with (go_at_call 4; refine (Do31_nil _ k s q o n d).mono ?_; rintro e w1 ⟨rfl, hk⟩; have HK1 := Lib.hid (HK0.out.trans hk (fun _ _ h => h)); have HB1 := Lib.hid (hk.heap (fun h => h) HB0.out); clear hk)
    obtain ⟨W5, hW5⟩ : ∃ W5, W5 = w1.alloc (.cells #[.int .i64 2, .slice none 0 0, .slice none 0 0, .int .i64 0, .bool false] 29) := ⟨_, rfl⟩
    have hk5 : Kept NoB w1 W5 := by rw [hW5]; exact (Kept.refl NoB w1).alloc _
    have HB5 : Hid (W5.heap[w1.heap.size]? = some (.cells #[.int .i64 2, .slice none 0 0, .slice none 0 0, .int .i64 0, .bool false] 29 (0, 0))) := Lib.hid (by rw [hW5]; exact heap_alloc_new w1 _)
    have HK5 := Lib.hid (HK1.out.trans hk5 (fun _ _ h => h))
    clear c0 c1 c2 c3 c4 c5
    obtain ⟨-, c1, -, -, -, -⟩ := cells6_31 (hk5.heap (fun h => h) HB1.out)
    rw [← hW5]
    obtain ⟨bX, hbX⟩ : ∃ q, q = w1.heap.size := ⟨_, rfl⟩
    rw [← hbX] at HB5 ⊢
    obtain ⟨x0, x1, x2, x3, x4⟩ := cells5_31 HB5.out
    clear hW5 hk5 hbX
    go_wp2_with (first
      | (go_at_call 5; refine (File31_nil _ s).mono ?_; rintro e w2 ⟨rfl, rfl⟩)
      | (go_at_call 6; refine (Same31_two _).mono ?_; rintro e w3 ⟨rfl, hk⟩; have HK3 := Lib.hid (HK5.out.trans hk (fun _ _ h => h)); clear hk)
      | (go_at_call 7; refine (Inodes31_nil _).mono ?_; rintro e w4 ⟨rfl, rfl⟩)
      | (go_at_call 8; refine (Blocks31_nil _).mono ?_; rintro e w4 ⟨rfl, rfl⟩)
      | (go_at_call 9; refine (Paths31_nil _).mono ?_; rintro e w4 ⟨rfl, rfl⟩)
      | (go_at_call 10; refine (Copy31_nil _).mono ?_; rintro e w4 ⟨rfl, rfl⟩)
      | (go_at_call 11; refine (HT.out _).mono ?_; rintro e w4 ⟨rfl, rfl⟩)
      | (go_at_call 12; refine (HAW.out _ (HV.out.no HK3.out)).mono ?_; rintro e w9 ⟨rfl, hk⟩; have HK9 := Lib.hid (HK3.out.trans hk (fun _ _ h => h)); clear hk))
    go_ret
    exact ⟨rfl, HK9.out⟩
  · rw [show trn31 kind = false from decide_eq_false (by omega)] at HT
    have d1 : decide (1 ≤ kind) = true := decide_eq_true (by omega)
    have d2 : decide (kind ≤ 6) = false := decide_eq_false (by omega)
    have e8 : (kind == 8) = false := by simpa using (show ¬ kind = 8 by omega)
    clear hk
    unfold callV
    go_enter Tryz.func3, Tryz.ntmps3
    go_upto_region 3 with (go_at_call 4; refine (Do31_nil _ k s q o n d).mono ?_; rintro e w1 ⟨rfl, hk⟩; have HK1 := Lib.hid (HK0.out.trans hk (fun _ _ h => h)); have HB1 := Lib.hid (hk.heap (fun h => h) HB0.out); clear hk)
    obtain ⟨W5, hW5⟩ : ∃ W5, W5 = w1.alloc (.cells #[.int .i64 2, .slice none 0 0, .slice none 0 0, .int .i64 0, .bool false] 29) := ⟨_, rfl⟩
    have hk5 : Kept NoB w1 W5 := by rw [hW5]; exact (Kept.refl NoB w1).alloc _
    have HB5 : Hid (W5.heap[w1.heap.size]? = some (.cells #[.int .i64 2, .slice none 0 0, .slice none 0 0, .int .i64 0, .bool false] 29 (0, 0))) := Lib.hid (by rw [hW5]; exact heap_alloc_new w1 _)
    have HK5 := Lib.hid (HK1.out.trans hk5 (fun _ _ h => h))
    clear c0 c1 c2 c3 c4 c5
    obtain ⟨-, c1, -, -, -, -⟩ := cells6_31 (hk5.heap (fun h => h) HB1.out)
    rw [← hW5]
    obtain ⟨bX, hbX⟩ : ∃ q, q = w1.heap.size := ⟨_, rfl⟩
    rw [← hbX] at HB5 ⊢
    obtain ⟨x0, x1, x2, x3, x4⟩ := cells5_31 HB5.out
    clear hW5 hk5 hbX
    go_wp2_with (first
      | (go_at_call 5; refine (File31_nil _ s).mono ?_; rintro e w2 ⟨rfl, rfl⟩)
      | (go_at_call 6; refine (Same31_two _).mono ?_; rintro e w3 ⟨rfl, hk⟩; have HK3 := Lib.hid (HK5.out.trans hk (fun _ _ h => h)); clear hk)
      | (go_at_call 7; refine (Inodes31_nil _).mono ?_; rintro e w4 ⟨rfl, rfl⟩)
      | (go_at_call 8; refine (Blocks31_nil _).mono ?_; rintro e w4 ⟨rfl, rfl⟩)
      | (go_at_call 9; refine (Paths31_nil _).mono ?_; rintro e w4 ⟨rfl, rfl⟩)
      | (go_at_call 10; refine (Copy31_nil _).mono ?_; rintro e w4 ⟨rfl, rfl⟩)
      | (go_at_call 11; refine (HT.out _).mono ?_; rintro e w4 ⟨rfl, rfl⟩)
      | (go_at_call 12; refine (HAW.out _ (HV.out.no HK3.out)).mono ?_; rintro e w9 ⟨rfl, hk⟩; have HK9 := Lib.hid (HK3.out.trans hk (fun _ _ h => h)); clear hk))
    go_ret
    exact ⟨rfl, HK9.out⟩
end Go.Proofs.YtokafgleejcbgaaGreatDoor
