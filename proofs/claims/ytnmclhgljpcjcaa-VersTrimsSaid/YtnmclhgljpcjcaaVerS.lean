/-
  The walk of VersNil.
-/
import Derived.Test.YtnmclhgljpcjcaaVerR
import Derived.Test.YtnmclhgljpcjcaaVerI
import Derived.Test.YtnmclhgljpcjcaaVerG
namespace Go.Proofs.Ytnmclhgljpcjcaa
open Go.RowKit
set_option linter.unusedVariables false
set_option linter.unusedSimpArgs false

def AnyV : Nat → Prop := fun _ => True
/-- What Last, Clean and Pick of no block tell. -/
def NoneV (w : World) (e : Ending) (w' : World) : Prop := ∃ u n c, e = .returned (.agg #[.int .u64 0, .int .u64 0, .slice u n c]) ∧ VnV w' AnyV (.agg #[.int .u64 0, .int .u64 0, .slice u n c]) vn0 ∧ Kept NoB w w'
theorem NoneV.of {w w' : World} {e : Ending} {F : Nat → Prop} {x : Vn} (hx : x = vn0) (h : ∃ v', e = .returned v' ∧ VnO w' F v' x ∧ Kept NoB w w') : NoneV w e w' := by
  obtain ⟨v', rfl, hv, hk⟩ := h
  subst hx
  obtain ⟨u, rfl, hu⟩ := hv
  obtain ⟨ua, uc, rfl⟩ := own_form hu.2.1
  exact ⟨ua, _, uc, rfl, ⟨_, rfl, hu.bsl.mono (fun _ _ _ => trivial)⟩, hk⟩
theorem VLast_nil (w : World) : Calls Try.prog 27 #[.pointer none] w (NoneV w) :=
  (VLast_any w _ _ [] NoB (TellsV.nil w) (VsAt.nil w NoB) (by decide)).mono fun e w' h => NoneV.of rfl h
theorem VClean_nil (w : World) (done : Int) : Calls Try.prog 29 #[.pointer none, .int .u64 done] w (NoneV w) :=
  (VClean_any w _ _ [] done NoB (TellsV.nil w) (VsAt.nil w NoB) Asc.nil (by decide)).mono fun e w' h => NoneV.of (clean_none done) h
theorem pick_none (ver done : Int) (h : 0 ≤ ver) : pickV [] ver done = vn0 := by
  unfold pickV
  rw [show findV [] ver = none from rfl, clean_none]
  show (if ver < vn0.r then vn0 else vn0) = vn0
  split <;> rfl
theorem VPick_nil (w : World) (ver done : Int) (h : 0 ≤ ver) : Calls Try.prog 33 #[.pointer none, .int .u64 ver, .int .u64 done] w (NoneV w) :=
  (VPick_any w _ _ [] ver done NoB (TellsV.nil w) (VsAt.nil w NoB) Asc.nil (by decide)).mono fun e w' h' => NoneV.of (pick_none ver done h) h'
theorem VDirty_nil (w : World) (done : Int) (h : 0 ≤ done) : Calls Try.prog 31 #[.pointer none, .int .u64 done] w fun e w' => e = .returned (.bool false) ∧ Kept NoB w w' :=
  (VDirty_any w _ _ [] done NoB (TellsV.nil w) (VsAt.nil w NoB)).mono fun e w' ⟨h1, h2⟩ => ⟨by rw [h1, show dirtyB [] done = false from decide_eq_false (by show ¬ done < 0; omega)], h2⟩
theorem VLen_nil (w : World) : Calls Try.prog 23 #[.pointer none] w fun e w' => e = .returned (.int .i64 0) ∧ Kept NoB w w' :=
  (VLen_any w _ _ [] NoB (TellsV.nil w) (VsAt.nil w NoB)).mono fun e w' ⟨h1, h2⟩ => ⟨h1, by rw [← h2]; exact Kept.refl _ _⟩
theorem VList_nil (w : World) : Calls Try.prog 25 #[.pointer none] w fun e w' => ∃ r, e = .returned (.slice (some ⟨r, 0, none⟩) 0 0) ∧ Kept NoB w w' :=
  (VList_any w _ _ [] NoB (TellsV.nil w) (VsAt.nil w NoB) Asc.nil (by decide)).mono fun e w' ⟨r, ps, h1, h2, _, _, _, h3⟩ => by
    obtain rfl : ps = [] := by simpa using h2
    exact ⟨r, h1, h3⟩
theorem like_none (w : World) (u : Option Addr) (n c : Nat) (h : VnV w AnyV (.agg #[.int .u64 0, .int .u64 0, .slice u n c]) vn0) : Calls Try.prog 26 #[.agg #[.int .u64 0, .int .u64 0, .slice u n c], .agg #[.int .u64 0, .int .u64 0, .slice none 0 0]] w fun e w' => e = .returned (.bool true) ∧ Kept NoB w w' :=
  (like15 w _ _ vn0 vn0 AnyV NoB h (VnV.zero w NoB)).mono fun e w' ⟨h1, h2⟩ => ⟨by rw [h1, sameVB_same], h2⟩
set_option maxRecDepth 100000 in
set_option maxHeartbeats 2000000 in
theorem VersNil_any (w : World) (v : Value) (o : Op15) (h : OpV w v o) : Calls Try.prog 7 #[v] w fun e w' => e = .returned (.bool true) ∧ Kept NoB w w' := by
  obtain ⟨u, rfl, hb, hf⟩ := h
  obtain ⟨ok, ⟨x0, x1, x2⟩, over, odone⟩ := o
  simp only at hb hf ⊢
  obtain ⟨hfv, hver, _, hdone, _⟩ := hf
  simp only at hfv hver hdone
  have HB := Lib.hid hb
  obtain ⟨ua, uc, rfl, _⟩ := hb
  have HB0 := Lib.hid (heap_alloc_new w (.cells #[.int .i64 ok, .int .u64 x0, .int .u64 x1, .slice ua x2.length uc, .int .u64 over, .int .u64 odone] 38))
  obtain ⟨W1, hW1⟩ : ∃ W1, W1 = w.alloc (.cells #[.int .i64 ok, .int .u64 x0, .int .u64 x1, .slice ua x2.length uc, .int .u64 over, .int .u64 odone] 38) := ⟨_, rfl⟩
  rw [← hW1] at HB0
  have HK1 : Hid (Kept NoB w W1) := Lib.hid (by rw [hW1]; exact (Kept.refl _ _).alloc _)
  have HS1 : Hid (W1.heap.size = w.heap.size + 1) := Lib.hid (by rw [hW1]; simp)
  have HB1 := Lib.hid (blkV_alloc HB0.out (.cells #[.int .u64 0, .int .u64 0, .slice none 0 0] 36))
  have HN1 := Lib.hid (heap_alloc_new W1 (.cells #[.int .u64 0, .int .u64 0, .slice none 0 0] 36))
  have HW1 := Lib.hid hW1
  clear hW1
  go_enter Try.func7, Try.ntmps7
  go_wp2_with fail
  rw [← HW1.out]
  obtain ⟨W, hW⟩ : ∃ W, W = W1.alloc (.cells #[.int .u64 0, .int .u64 0, .slice none 0 0] 36) := ⟨_, rfl⟩
  rw [← hW] at HB1 HN1 ⊢
  have HKW : Hid (Kept NoB w W) := Lib.hid (by rw [hW]; exact HK1.out.alloc _)
  clear hW HB0
  have HX := Lib.hid (show VnV W (fun k => k < w.heap.size) (.agg #[.int .u64 x0, .int .u64 x1, .slice ua x2.length uc]) ⟨x0, x1, x2⟩ from ⟨_, rfl, HB.out.kept HKW.out (fun _ _ h => h)⟩)
  have HTEN : Hid (∀ w', Kept NoB W w' → w'.cell? ⟨w.heap.size, 1, none⟩ = some (.int .u64 x0) ∧ w'.cell? ⟨w.heap.size, 2, none⟩ = some (.int .u64 x1) ∧ w'.cell? ⟨w.heap.size, 3, none⟩ = some (.slice ua x2.length uc) ∧ w'.cell? ⟨w.heap.size, 4, none⟩ = some (.int .u64 over) ∧ w'.cell? ⟨w.heap.size, 5, none⟩ = some (.int .u64 odone) ∧
      w'.cell? ⟨w.heap.size + 1, 0, none⟩ = some (.int .u64 0) ∧ w'.cell? ⟨w.heap.size + 1, 1, none⟩ = some (.int .u64 0) ∧ w'.cell? ⟨w.heap.size + 1, 2, none⟩ = some (.slice none 0 0)) := Lib.hid (fun w' hk => by
    have hb := hk.heap (fun h => h) HB1.out
    have hn := hk.heap (fun h => h) HN1.out
    rw [HS1.out] at hn
    exact ⟨cell_of_row _ _ 1 _ _ _ hb, cell_of_row _ _ 2 _ _ _ hb, cell_of_row _ _ 3 _ _ _ hb, cell_of_row _ _ 4 _ _ _ hb, cell_of_row _ _ 5 _ _ _ hb, cells3v hn⟩)
  have HKe := Lib.hid (Kept.refl NoB W).drew
  have HT := Lib.hid (HTEN.out _ HKe.out)
  go_region_held3 (fun w' => w'.cell? ⟨w.heap.size, 1, none⟩ = some (.int .u64 x0) ∧ w'.cell? ⟨w.heap.size, 2, none⟩ = some (.int .u64 x1) ∧ w'.cell? ⟨w.heap.size, 3, none⟩ = some (.slice ua x2.length uc) ∧ w'.cell? ⟨w.heap.size, 4, none⟩ = some (.int .u64 over) ∧ w'.cell? ⟨w.heap.size, 5, none⟩ = some (.int .u64 odone) ∧
      w'.cell? ⟨w.heap.size + 1, 0, none⟩ = some (.int .u64 0) ∧ w'.cell? ⟨w.heap.size + 1, 1, none⟩ = some (.int .u64 0) ∧ w'.cell? ⟨w.heap.size + 1, 2, none⟩ = some (.slice none 0 0))
    (with_reducible exact HT.out)
    (first
      | (go_at_call 20; (with_reducible refine (ours15 _ _ _ _ (HX.out.no HKe.out)).mono ?_); rintro e w1 ⟨rfl, hk1⟩; replace HKe := Lib.hid (HKe.out.trans hk1 (fun _ _ h => h)); replace HT := Lib.hid (HTEN.out _ HKe.out); clear hk1)
      | (go_at_call 19; (with_reducible refine (VPut_nil _ _ _ _ (HX.out.no HKe.out)).mono ?_); rintro e w1 ⟨rfl, hk1⟩; replace HKe := Lib.hid (HKe.out.trans hk1 (fun _ _ h => h)); replace HT := Lib.hid (HTEN.out _ HKe.out); clear hk1)
      | (go_at_call 27; (with_reducible refine (VLast_nil _).mono ?_); rintro e w1 ⟨ua1, n1, uc1, rfl, hv1, hk1⟩; have HV := Lib.hid hv1; replace HKe := Lib.hid (HKe.out.trans hk1 (fun _ _ h => h)); replace HT := Lib.hid (HTEN.out _ HKe.out); clear hk1 hv1)
      | (go_at_call 29; (with_reducible refine (VClean_nil _ _).mono ?_); rintro e w1 ⟨ua2, n2, uc2, rfl, hv1, hk1⟩; have HV2 := Lib.hid hv1; replace HKe := Lib.hid (HKe.out.trans hk1 (fun _ _ h => h)); replace HT := Lib.hid (HTEN.out _ HKe.out); clear hk1 hv1)
      | (go_at_call 33; (with_reducible refine (VPick_nil _ _ _ hver).mono ?_); rintro e w1 ⟨ua3, n3, uc3, rfl, hv1, hk1⟩; have HV3 := Lib.hid hv1; replace HKe := Lib.hid (HKe.out.trans hk1 (fun _ _ h => h)); replace HT := Lib.hid (HTEN.out _ HKe.out); clear hk1 hv1)
      | (go_at_call 31; (with_reducible refine (VDirty_nil _ _ hdone).mono ?_); rintro e w1 ⟨rfl, hk1⟩; replace HKe := Lib.hid (HKe.out.trans hk1 (fun _ _ h => h)); replace HT := Lib.hid (HTEN.out _ HKe.out); clear hk1)
      | (go_at_call 22; (with_reducible refine (VTrim_nil _ _).mono ?_); rintro e w1 ⟨rfl, hk1⟩; replace HKe := Lib.hid (HKe.out.trans hk1 (fun _ _ h => h)); replace HT := Lib.hid (HTEN.out _ HKe.out); clear hk1)
      | (go_at_call 23; (with_reducible refine (VLen_nil _).mono ?_); rintro e w1 ⟨rfl, hk1⟩; replace HKe := Lib.hid (HKe.out.trans hk1 (fun _ _ h => h)); replace HT := Lib.hid (HTEN.out _ HKe.out); clear hk1)
      | (go_at_call 25; (with_reducible refine (VList_nil _).mono ?_); rintro e w1 ⟨r1, rfl, hk1⟩; replace HKe := Lib.hid (HKe.out.trans hk1 (fun _ _ h => h)); replace HT := Lib.hid (HTEN.out _ HKe.out); clear hk1)
      | (go_at_call 26; (first | (with_reducible refine (like_none _ _ _ _ HV3.out).mono ?_) | (with_reducible refine (like_none _ _ _ _ HV2.out).mono ?_) | (with_reducible refine (like_none _ _ _ _ HV.out).mono ?_)); rintro e w1 ⟨rfl, hk1⟩; replace HKe := Lib.hid (HKe.out.trans hk1 (fun _ _ h => h)); replace HT := Lib.hid (HTEN.out _ HKe.out); clear hk1)
      | (go_at_call 17; (with_reducible refine (awake15 _).mono ?_); rintro e w1 ⟨rfl, hk1⟩; replace HKe := Lib.hid (HKe.out.trans hk1 (fun _ _ h => h)); replace HT := Lib.hid (HTEN.out _ HKe.out); clear hk1))
  go_wp2
  go_ret
  exact ⟨rfl, HKW.out.trans HKe.out (fun _ _ h => h)⟩
end Go.Proofs.Ytnmclhgljpcjcaa
