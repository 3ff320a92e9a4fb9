/-
  Package window: New, Low, End, Done, Held, Dirty, Room, From; of no window.
-/
import Derived.Test.YtabjpmkkigflmaaGreatDoorWinD
namespace Go.Proofs.YtabjpmkkigflmaaGreatDoor
open Go.RowKit
set_option linter.unusedVariables false
set_option linter.unusedSimpArgs false

abbrev pw (b : Nat) : Value := .pointer (some ⟨b, 0, none⟩)
set_option maxRecDepth 100000 in
theorem WNew_any (w : World) (a : Nat) (ha : a ≤ 9223372036854775807) : Calls Tryz.prog 15 #[.int .u64 a] w fun e w' => e = .returned (pw w.heap.size) ∧ WinAt w' (fun k => k = w.heap.size) w.heap.size (newW a) ∧ Kept NoB w w' := by
  have hb := heap_alloc_new w (.cells #[.slice none 0 0, .int .u64 a, .int .u64 a, .int .u64 a] 118 (0, 0))
  have HB := Lib.hid hb
  clear hb
  go_enter Tryz.func15, Tryz.ntmps15
  go_wp2
  go_ret
  exact ⟨rfl, ⟨_, [], HB.out, rfl, .inl ⟨UOw.nil _ _ _, by decide, fun k h => by cases h⟩, rfl, (fun p h => by cases h), fun k h => by rw [h]; exact heap_lt HB.out⟩, (Kept.refl _ _).alloc _⟩
set_option maxRecDepth 100000 in
theorem WLow_any (w : World) (S : Nat → Prop) (b : Nat) (x : Wn) (H : WinAt w S b x) : Calls Tryz.prog 30 #[pw b] w fun e w' => e = .returned (.int .u64 x.low) ∧ w = w' := by
  obtain ⟨h, ps, H⟩ := H
  obtain ⟨c0, c1, c2, c3⟩ := cells4w H.blk
  clear H
  go_enter Tryz.func30, Tryz.ntmps30
  go_wp2
  go_ret
  exact ⟨rfl, rfl⟩
theorem WLow_nil (w : World) : Calls Tryz.prog 30 #[.pointer none] w fun e w' => e = .returned (.int .u64 0) ∧ w = w' := by
  go_enter Tryz.func30, Tryz.ntmps30
  go_wp2
  go_ret
  exact ⟨rfl, rfl⟩
set_option maxRecDepth 100000 in
theorem WEnd_any (w : World) (S : Nat → Prop) (b : Nat) (x : Wn) (H : WinAt w S b x) : Calls Tryz.prog 26 #[pw b] w fun e w' => e = .returned (.int .u64 x.en) ∧ w = w' := by
  obtain ⟨h, ps, H⟩ := H
  obtain ⟨c0, c1, c2, c3⟩ := cells4w H.blk
  clear H
  go_enter Tryz.func26, Tryz.ntmps26
  go_wp2
  go_ret
  exact ⟨rfl, rfl⟩
theorem WEnd_nil (w : World) : Calls Tryz.prog 26 #[.pointer none] w fun e w' => e = .returned (.int .u64 0) ∧ w = w' := by
  go_enter Tryz.func26, Tryz.ntmps26
  go_wp2
  go_ret
  exact ⟨rfl, rfl⟩
set_option maxRecDepth 100000 in
theorem WDone_any (w : World) (S : Nat → Prop) (b : Nat) (x : Wn) (H : WinAt w S b x) : Calls Tryz.prog 27 #[pw b] w fun e w' => e = .returned (.int .u64 x.done) ∧ w = w' := by
  obtain ⟨h, ps, H⟩ := H
  obtain ⟨c0, c1, c2, c3⟩ := cells4w H.blk
  clear H
  go_enter Tryz.func27, Tryz.ntmps27
  go_wp2
  go_ret
  exact ⟨rfl, rfl⟩
theorem WDone_nil (w : World) : Calls Tryz.prog 27 #[.pointer none] w fun e w' => e = .returned (.int .u64 0) ∧ w = w' := by
  go_enter Tryz.func27, Tryz.ntmps27
  go_wp2
  go_ret
  exact ⟨rfl, rfl⟩
set_option maxRecDepth 100000 in
theorem WHeld_any (w : World) (S : Nat → Prop) (b : Nat) (x : Wn) (H : WinAt w S b x) : Calls Tryz.prog 28 #[pw b] w fun e w' => e = .returned (.int .i64 (x.l.length : Nat)) ∧ w = w' := by
  obtain ⟨h, ps, H⟩ := H
  obtain ⟨a, c, rfl, hc1, hc2, _⟩ := H.held.rd
  unfold maxLen at hc2
  obtain ⟨c0, c1, c2, c3⟩ := cells4w H.blk
  have hl := H.len
  rw [← hl]
  clear H hl
  go_enter Tryz.func28, Tryz.ntmps28
  go_wp2
  go_ret
  exact ⟨rfl, rfl⟩
theorem WHeld_nil (w : World) : Calls Tryz.prog 28 #[.pointer none] w fun e w' => e = .returned (.int .i64 0) ∧ w = w' := by
  go_enter Tryz.func28, Tryz.ntmps28
  go_wp2
  go_ret
  exact ⟨rfl, rfl⟩
set_option maxRecDepth 100000 in
theorem WDirty_any (w : World) (S : Nat → Prop) (b : Nat) (x : Wn) (H : WinAt w S b x) (ok : WnOk x) : Calls Tryz.prog 29 #[pw b] w fun e w' => e = .returned (.int .i64 (x.en - x.done : Nat)) ∧ Kept NoB w w' := by
  have H1 := Lib.hid (fun w' (hk : Kept NoB w w') => WEnd_any w' S b x (H.no hk))
  have H2 := Lib.hid (fun w' (hk : Kept NoB w w') => WDone_any w' S b x (H.no hk))
  have h1 := ok.de
  have h2 := ok.top
  have hs : (x.en : Int) - (x.done : Int) = ((x.en - x.done : Nat) : Int) := by omega
  have ht : ((x.en - x.done : Nat) : Int) ≤ 9223372036854775807 := by omega
  obtain ⟨d, hd⟩ : ∃ d : Nat, d = x.en - x.done := ⟨_, rfl⟩
  rw [← hd] at hs ht ⊢
  have hde : (x.done : Int) ≤ (x.en : Int) := by omega
  have hwr : IntKind.u64.wrap ((x.en : Int) - (x.done : Int)) = (d : Int) := by rw [hs]; exact IntWalk.u64_in _ (by omega)
  clear H ok h1 h2 hd
  go_enter Tryz.func29, Tryz.ntmps29
  go_wp2_with fail
  refine (H1.out _ (Kept.refl _ _)).mono ?_
  rintro e w1 ⟨rfl, rfl⟩
  go_wp2_with fail
  refine (H2.out _ (Kept.refl _ _)).mono ?_
  rintro e w1 ⟨rfl, rfl⟩
  go_wp2
  go_ret
  exact ⟨rfl, Kept.refl _ _⟩
theorem WDirty_nil (w : World) : Calls Tryz.prog 29 #[.pointer none] w fun e w' => e = .returned (.int .i64 0) ∧ Kept NoB w w' := by
  have H1 := Lib.hid (fun w' => WEnd_nil w')
  have H2 := Lib.hid (fun w' => WDone_nil w')
  go_enter Tryz.func29, Tryz.ntmps29
  go_wp2_with fail
  refine (H1.out _).mono ?_
  rintro e w1 ⟨rfl, rfl⟩
  go_wp2_with fail
  refine (H2.out _).mono ?_
  rintro e w1 ⟨rfl, rfl⟩
  go_wp2
  go_ret
  exact ⟨rfl, Kept.refl _ _⟩
set_option maxRecDepth 100000 in
theorem WRoom_any (w : World) (S : Nat → Prop) (b : Nat) (x : Wn) (H : WinAt w S b x) (ok : WnOk x) : Calls Tryz.prog 31 #[pw b] w fun e w' => e = .returned (.bool (decide (x.en - x.done < 16))) ∧ Kept NoB w w' := by
  have H1 := Lib.hid (WDirty_any w S b x H ok)
  have HD : Hid (decide (x.en - x.done < 16) = decide (((x.en - x.done : Nat) : Int) < 16)) := Lib.hid (decide_eq_decide.2 (by omega))
  rw [HD.out]
  obtain ⟨d, hd⟩ : ∃ d : Nat, d = x.en - x.done := ⟨_, rfl⟩
  rw [← hd] at H1 ⊢
  clear H ok hd HD
  go_enter Tryz.func31, Tryz.ntmps31
  go_wp2_with fail
  refine H1.out.mono ?_
  rintro e w1 ⟨rfl, hk⟩
  have HK := Lib.hid hk
  clear hk
  go_wp2
  go_ret
  exact ⟨(by first | rfl | simp), HK.out⟩
theorem WRoom_nil (w : World) : Calls Tryz.prog 31 #[.pointer none] w fun e w' => e = .returned (.bool false) ∧ Kept NoB w w' := by
  go_enter Tryz.func31, Tryz.ntmps31
  go_wp2
  go_ret
  exact ⟨rfl, Kept.refl _ _⟩
end Go.Proofs.YtabjpmkkigflmaaGreatDoor
