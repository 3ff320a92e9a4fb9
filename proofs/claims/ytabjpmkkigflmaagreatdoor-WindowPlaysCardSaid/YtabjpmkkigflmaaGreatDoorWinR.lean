/-
  Both windows tell the same.
-/
import Derived.Test.YtabjpmkkigflmaaGreatDoorWinQ
namespace Go.Proofs.YtabjpmkkigflmaaGreatDoor
open Go.RowKit
set_option linter.unusedVariables false
set_option linter.unusedSimpArgs false

set_option maxRecDepth 100000 in
set_option maxHeartbeats 4000000 in
theorem same20_any (w : World) (S : Nat → Prop) (b : Nat) (x : Wn) (H : WinAt w S b x) (ok : WnOk x) (v : Value) (F : Nat → Prop) (h : RwV w F v x) : Calls Tryz.prog 25 #[pw b, v] w fun e w' => e = .returned (.bool true) ∧ Kept NoB w w' := by
  obtain ⟨u, rfl, hu⟩ := h
  obtain ⟨a, c, rfl⟩ := hu.form
  have H1 := Lib.hid (fun w' (hk : Kept NoB w w') => WLow_any w' S b x (H.no hk))
  have H2 := Lib.hid (fun w' (hk : Kept NoB w w') => WEnd_any w' S b x (H.no hk))
  have H3 := Lib.hid (fun w' (hk : Kept NoB w w') => WDone_any w' S b x (H.no hk))
  have H4 := Lib.hid (fun w' (hk : Kept NoB w w') => WHeld_any w' S b x (H.no hk))
  have H5 := Lib.hid (fun w' (hk : Kept NoB w w') => WDirty_any w' S b x (H.no hk) ok)
  have H6 := Lib.hid (fun w' (hk : Kept NoB w w') => WRoom_any w' S b x (H.no hk) ok)
  have hde := ok.de
  have htop := ok.top
  obtain ⟨lo, en, dn, l⟩ := x
  simp only at H1 H2 H3 H4 H5 H6 hde htop hu ⊢
  obtain ⟨D, hD⟩ : ∃ D, D = en - dn := ⟨_, rfl⟩
  obtain ⟨B, hB⟩ : ∃ B, B = decide (D < 16) := ⟨_, rfl⟩
  rw [← hD] at H5 H6
  rw [← hB] at H6
  have hB2 : decide ((D : Int) < 16) = B := by rw [hB]; by_cases h : D < 16 <;> simp [h] <;> omega
  have hws : IntKind.u64.wrap ((en : Int) - (dn : Int)) = (D : Int) := by rw [IntWalk.u64_in _ (by omega)]; omega
  have hwi : IntKind.i64.wrap (D : Int) = (D : Int) := IntWalk.i64_in _ (by omega)
  obtain ⟨V, hV⟩ : ∃ V, V = w.alloc (.cells #[.int .u64 lo, .int .u64 en, .int .u64 dn, .slice a l.length c] 29) := ⟨_, rfl⟩
  have HB : Hid (V.heap[w.heap.size]? = some (.cells #[.int .u64 lo, .int .u64 en, .int .u64 dn, .slice a l.length c] 29 (0, 0))) := Lib.hid (by rw [hV]; exact heap_alloc_new w _)
  have HKV : Hid (Kept NoB w V) := Lib.hid (by rw [hV]; exact (Kept.refl _ _).alloc _)
  have HTEN : Hid (∀ W, Kept NoB V W → W.cell? ⟨w.heap.size, 0, none⟩ = some (.int .u64 lo) ∧ W.cell? ⟨w.heap.size, 1, none⟩ = some (.int .u64 en) ∧ W.cell? ⟨w.heap.size, 2, none⟩ = some (.int .u64 dn) ∧ W.cell? ⟨w.heap.size, 3, none⟩ = some (.slice a l.length c)) := Lib.hid (fun W hk => cells4w (hk.heap (fun h => h) HB.out))
  have HV := Lib.hid hV
  obtain ⟨c0, c1, c2, c3⟩ := HTEN.out V (Kept.refl _ _)
  clear hV hD hB hu H ok
  go_enter Tryz.func25, Tryz.ntmps25
  go_wp2_with fail
  rw [← HV.out]
  have HKc := Lib.hid ((Kept.refl NoB V).drew)
  have HT := Lib.hid (HTEN.out _ HKc.out)
  clear c0 c1 c2 c3
  go_region_held3 (fun w' => w'.cell? ⟨w.heap.size, 0, none⟩ = some (.int .u64 lo) ∧ w'.cell? ⟨w.heap.size, 1, none⟩ = some (.int .u64 en) ∧ w'.cell? ⟨w.heap.size, 2, none⟩ = some (.int .u64 dn) ∧ w'.cell? ⟨w.heap.size, 3, none⟩ = some (.slice a l.length c))
    (with_reducible exact HT.out)
    (first
    | (go_at_call 30; (with_reducible refine (H1.out _ (HKV.out.trans HKc.out (fun _ _ h => h))).mono ?_); rintro e w1 ⟨rfl, rfl⟩)
    | (go_at_call 26; (with_reducible refine (H2.out _ (HKV.out.trans HKc.out (fun _ _ h => h))).mono ?_); rintro e w1 ⟨rfl, rfl⟩)
    | (go_at_call 27; (with_reducible refine (H3.out _ (HKV.out.trans HKc.out (fun _ _ h => h))).mono ?_); rintro e w1 ⟨rfl, rfl⟩)
    | (go_at_call 28; (with_reducible refine (H4.out _ (HKV.out.trans HKc.out (fun _ _ h => h))).mono ?_); rintro e w1 ⟨rfl, rfl⟩)
    | (go_at_call 29; (with_reducible refine (H5.out _ (HKV.out.trans HKc.out (fun _ _ h => h))).mono ?_); rintro e w1 ⟨rfl, hk1⟩; replace HKc := Lib.hid (HKc.out.trans hk1 (fun _ _ h => h)); replace HT := Lib.hid (HTEN.out _ HKc.out); clear hk1)
    | (go_at_call 31; (with_reducible refine (H6.out _ (HKV.out.trans HKc.out (fun _ _ h => h))).mono ?_); rintro e w1 ⟨rfl, hk1⟩; replace HKc := Lib.hid (HKc.out.trans hk1 (fun _ _ h => h)); replace HT := Lib.hid (HTEN.out _ HKc.out); clear hk1))
  go_wp2
  go_ret
  exact ⟨rfl, HKV.out.trans HKc.out (fun _ _ h => h)⟩
end Go.Proofs.YtabjpmkkigflmaaGreatDoor
