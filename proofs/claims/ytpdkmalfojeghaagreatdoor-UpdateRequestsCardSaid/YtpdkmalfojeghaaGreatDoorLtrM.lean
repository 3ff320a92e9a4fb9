/-
  The walk of UpdateRequests.
-/
import Derived.Test.YtpdkmalfojeghaaGreatDoorLtrL
namespace Go.Proofs.YtpdkmalfojeghaaGreatDoor
open Go.RowKit
set_option linter.unusedVariables false
set_option linter.unusedSimpArgs false

set_option maxRecDepth 100000 in
set_option maxHeartbeats 4000000 in
theorem UpdateRequests_any (w : World) (va : Option Addr) (vc : Nat) (ok oy or op cl nm : Int) (od : List Int) (hd : BSl w (fun k => k < w.heap.size) (.slice va od.length vc) od) (hfit : FitU ⟨0, cl, nm, ok, oy, or, od⟩) (ht : Tab10 w) : Calls Tryz.prog 5 #[.agg #[.int .i64 ok, .int .u32 oy, .int .u64 or, .slice va od.length vc, .int .i64 op], .int .i64 cl, .int .u64 nm] w fun e w' => e = .returned (.bool true) ∧ Kept NoB w w' := by
  have HAW := Lib.hid (fun w => awake17 w)
  obtain ⟨W, hW⟩ : ∃ W, W = w.alloc (.cells #[.int .i64 ok, .int .u32 oy, .int .u64 or, .slice va od.length vc, .int .i64 op] 56 (0, 0)) := ⟨_, rfl⟩
  have hk : Kept NoB w W := by rw [hW]; exact (Kept.refl NoB w).alloc _
  have hb : W.heap[w.heap.size]? = some (.cells #[.int .i64 ok, .int .u32 oy, .int .u64 or, .slice va od.length vc, .int .i64 op] 56 (0, 0)) := by rw [hW]; exact heap_alloc_new w _
  have HK := Lib.hid hk
  have HB := Lib.hid hb
  have HW := Lib.hid hW
  have HD := Lib.hid hd
  have HT := Lib.hid ht
  have HOC : Hid (∀ w', Kept NoB W w' → w'.cell? ⟨w.heap.size, 0, none⟩ = some (.int .i64 ok) ∧ w'.cell? ⟨w.heap.size, 1, none⟩ = some (.int .u32 oy) ∧ w'.cell? ⟨w.heap.size, 2, none⟩ = some (.int .u64 or) ∧ w'.cell? ⟨w.heap.size, 3, none⟩ = some (.slice va od.length vc) ∧ w'.cell? ⟨w.heap.size, 4, none⟩ = some (.int .i64 op)) := Lib.hid (fun w' hk => by
    have b := hk.heap (fun h => h) HB.out
    exact ⟨cell_of_row _ _ 0 _ _ _ b, cell_of_row _ _ 1 _ _ _ b, cell_of_row _ _ 2 _ _ _ b, cell_of_row _ _ 3 _ _ _ b, cell_of_row _ _ 4 _ _ _ b⟩)
  have c3 : (w.alloc (.cells #[.int .i64 ok, .int .u32 oy, .int .u64 or, .slice va od.length vc, .int .i64 op] 56 (0, 0))).cell? ⟨w.heap.size, 3, none⟩ = some (.slice va od.length vc) := cell_of_row _ _ 3 _ _ _ (heap_alloc_new w _)
  by_cases hl : 2100 < od.length
  · have g1 : decide ((2100 : Int) < (od.length : Int)) = true := decide_eq_true (by omega)
    clear hk hb hd ht hW hfit hl
    go_enter Tryz.func5, Tryz.ntmps5
    go_wp2_with fail
    rw [← HW.out]
    refine (HAW.out _).mono ?_
    rintro e w2 ⟨rfl, hk2⟩
    have HK2 := Lib.hid (HK.out.trans hk2 (fun _ _ h => h))
    clear hk2
    go_wp2
    go_ret
    exact ⟨rfl, HK2.out⟩
  have g1 : decide ((2100 : Int) < (od.length : Int)) = false := decide_eq_false (by omega)
  have HQ := Lib.hid (URequest_any W va vc ok oy or op cl nm od (fun k => k < w.heap.size) (hd.kept hk (fun _ _ h => h)) (fun k h => by have := hk.size; omega) (ht.kept hk (fun h => h)) (by omega))
  have HR := Lib.hid (fun w' (hk' : Kept NoB W w') => RRequest_any w' va vc ok oy or op cl nm od (fun k => k < w.heap.size) (hd.kept (hk.trans hk' (fun _ _ h => h)) (fun _ _ h => h)) (fun k h => by have := hk.size; have := hk'.size; omega) (by omega))
  obtain ⟨z, hz⟩ : ∃ z : Int, z = chkR false ⟨0, cl, nm, ok, oy, or, od⟩ := ⟨_, rfl⟩
  have hz2 : chkU areReq ⟨0, cl, nm, ok, oy, or, od⟩ = z := by rw [hz]; exact chk_ask _ hfit
  unfold URequestE at HQ
  unfold RRequestE at HR
  rw [hz2] at HQ
  rw [← hz] at HR
  have HAS := Lib.hid (fun w' (hk' : Kept NoB w w') (v : Value) (hv : UpV w' (fun k => (k < w.heap.size ∨ W.heap.size ≤ k) ∧ k < w'.heap.size) v ⟨0, cl, nm, ok, oy, or, od⟩) => (UAsked_any w' v ⟨0, cl, nm, ok, oy, or, od⟩ _ hv (fun k h => h.2) (ht.kept hk' (fun h => h))).mono fun e w'' h => show e = .returned (.int .i64 z) ∧ Kept NoB w' w'' from by rw [hz2] at h; exact h)
  obtain ⟨y, hy⟩ : ∃ y : Up, y = if z = 0 then ⟨0, cl, nm, ok, oy, or, od⟩ else up0 := ⟨_, rfl⟩
  rw [← hy] at HQ HR
  have HY : Hid (z = 0 → y = ⟨0, cl, nm, ok, oy, or, od⟩) := Lib.hid (fun h => by rw [hy, if_pos h])
  have hzz : (z == z) = true := by simp
  clear hk hb hd ht hW hfit hl hz hz2 hy
  go_enter Tryz.func5, Tryz.ntmps5
  go_wp2_with fail
  clear c3
  rw [← HW.out]
  obtain ⟨o0, o1, o2, o3, o4⟩ := HOC.out W (Kept.refl _ _)
  go_wp2_with fail
  refine HQ.out.mono ?_
  rintro e w1 ⟨v1, rfl, hv1, hk1⟩
  obtain ⟨y0, y1, y2, y3, y4, y5, y6⟩ := y
  obtain ⟨u1, rfl, hu1⟩ := hv1
  have HU1 := Lib.hid hu1
  obtain ⟨ua, uc, rfl, _⟩ := hu1
  simp only
  have HK1 := Lib.hid hk1
  clear o0 o1 o2 o3 o4 hk1
  have hka := HK1.out.alloc (.cells #[.int .u64 y0, .int .i64 y1, .int .u64 y2, .int .i64 y3, .int .u32 y4, .int .u64 y5, .slice ua y6.length uc] 43)
  have HKA := Lib.hid hka
  have hbb := heap_alloc_new w1 (.cells #[.int .u64 y0, .int .i64 y1, .int .u64 y2, .int .i64 y3, .int .u32 y4, .int .u64 y5, .slice ua y6.length uc] 43)
  obtain ⟨W1, hW1⟩ : ∃ W1, W1 = w1.alloc (.cells #[.int .u64 y0, .int .i64 y1, .int .u64 y2, .int .i64 y3, .int .u32 y4, .int .u64 y5, .slice ua y6.length uc] 43) := ⟨_, rfl⟩
  have HW1 := Lib.hid hW1
  rw [← hW1] at hka hbb
  have HKA := Lib.hid hka
  have HBB := Lib.hid hbb
  have HS1 := Lib.hid (show W1.heap.size = w1.heap.size + 1 by rw [hW1]; simp)
  obtain ⟨o0, o1, o2, o3, o4⟩ := HOC.out _ (HK1.out.alloc (.cells #[.int .u64 y0, .int .i64 y1, .int .u64 y2, .int .i64 y3, .int .u32 y4, .int .u64 y5, .slice ua y6.length uc] 43))
  clear hka hbb hW1
  go_wp2_with fail
  rw [← HW1.out]
  refine (HR.out _ HKA.out).mono ?_
  rintro e w2 ⟨v2, rfl, hv2, hk2⟩
  obtain ⟨u2, rfl, hu2⟩ := hv2
  have HU2 := Lib.hid hu2
  obtain ⟨sa, sc, rfl, _⟩ := hu2
  simp only
  have HK2 := Lib.hid hk2
  clear o0 o1 o2 o3 o4 hk2
  obtain ⟨W2, hW2⟩ : ∃ W2, W2 = w2.alloc (.cells #[.int .u64 y0, .int .i64 y1, .int .u64 y2, .int .i64 y3, .int .u32 y4, .int .u64 y5, .slice sa y6.length sc] 43) := ⟨_, rfl⟩
  have hk12 : Kept NoB W1 W2 := by rw [hW2]; exact HK2.out.alloc _
  have hb2 : W2.heap[w2.heap.size]? = some (.cells #[.int .u64 y0, .int .i64 y1, .int .u64 y2, .int .i64 y3, .int .u32 y4, .int .u64 y5, .slice sa y6.length sc] 43) := by rw [hW2]; exact heap_alloc_new w2 _
  have HW2 := Lib.hid hW2
  have HK12 := Lib.hid hk12
  have HB2 := Lib.hid hb2
  have HUX := Lib.hid (show UpV W2 (fun k => k < w.heap.size ∨ W.heap.size ≤ k) (.agg #[.int .u64 y0, .int .i64 y1, .int .u64 y2, .int .i64 y3, .int .u32 y4, .int .u64 y5, .slice ua y6.length uc]) ⟨y0, y1, y2, y3, y4, y5, y6⟩ from ⟨_, rfl, HU1.out.kept (((Kept.refl NoB w1).alloc (.cells #[.int .u64 y0, .int .i64 y1, .int .u64 y2, .int .i64 y3, .int .u32 y4, .int .u64 y5, .slice ua y6.length uc] 43)).trans (by rw [← HW1.out]; exact hk12) (fun _ _ h => h)) (fun _ _ h => h)⟩)
  have HUY := Lib.hid (show UpV W2 (fun k => k < w.heap.size ∨ W1.heap.size ≤ k) (.agg #[.int .u64 y0, .int .i64 y1, .int .u64 y2, .int .i64 y3, .int .u32 y4, .int .u64 y5, .slice sa y6.length sc]) ⟨y0, y1, y2, y3, y4, y5, y6⟩ from ⟨_, rfl, HU2.out.kept (by rw [hW2]; exact (Kept.refl NoB w2).alloc _) (fun _ _ h => h)⟩)
  have HSM := Lib.hid ((RSameUpdate_any W2 _ _ ⟨y0, y1, y2, y3, y4, y5, y6⟩ ⟨y0, y1, y2, y3, y4, y5, y6⟩ _ _ HUX.out HUY.out).mono fun e w'' h => show e = .returned (.bool true) ∧ Kept NoB W2 w'' from by rw [decide_eq_true rfl] at h; exact h)
  obtain ⟨c0, c1, c2, c3, c4, c5, c6⟩ := cells7 ((HK2.out.alloc (.cells #[.int .u64 y0, .int .i64 y1, .int .u64 y2, .int .i64 y3, .int .u32 y4, .int .u64 y5, .slice sa y6.length sc] 43)).heap (fun h => h) HBB.out)
  obtain ⟨d0, d1, d2, d3, d4, d5, d6⟩ := cells7 (heap_alloc_new w2 (.cells #[.int .u64 y0, .int .i64 y1, .int .u64 y2, .int .i64 y3, .int .u32 y4, .int .u64 y5, .slice sa y6.length sc] 43))
  clear hW2 hk12 hb2
  go_wp2_with fail
  rw [← HW2.out]
  refine HSM.out.mono ?_
  rintro e w3 ⟨rfl, hk3⟩
  have HK3 := Lib.hid hk3
  have HKT := Lib.hid ((HK.out.trans HKA.out (fun _ _ h => h)).trans (HK12.out.trans hk3 (fun _ _ h => h)) (fun _ _ h => h))
  clear c0 c1 c2 c3 c4 c5 c6 d0 d1 d2 d3 d4 d5 d6 hk3
  obtain ⟨c0, c1, c2, c3, c4, c5, c6⟩ := cells7 ((HK12.out.trans HK3.out (fun _ _ h => h)).heap (fun h => h) HBB.out)
  by_cases hz0 : z = 0
  rotate_left
  · have gz : (z != 0) = true := by simpa using hz0
    clear hz0
    go_wp2_with fail
    refine (HAW.out _).mono ?_
    rintro e w4 ⟨rfl, hk4⟩
    have HK4 := Lib.hid (HKT.out.trans hk4 (fun _ _ h => h))
    clear hk4
    go_wp2
    go_ret
    exact ⟨rfl, HK4.out⟩
  · have hyx := HY.out hz0
    have HUZ := Lib.hid (show UpV w3 (fun k => (k < w.heap.size ∨ W.heap.size ≤ k) ∧ k < w3.heap.size) (.agg #[.int .u64 y0, .int .i64 y1, .int .u64 y2, .int .i64 y3, .int .u32 y4, .int .u64 y5, .slice ua y6.length uc]) ⟨0, cl, nm, ok, oy, or, od⟩ from hyx ▸ (HUX.out.no HK3.out).mono (fun k h1 h2 => ⟨h2, h1⟩))
    have HAK := Lib.hid (HAS.out w3 HKT.out _ HUZ.out)
    subst hz0
    clear hyx
    go_wp2_with fail
    refine HAK.out.mono ?_
    rintro e w4 ⟨rfl, hk4⟩
    have HK4 := Lib.hid (HKT.out.trans hk4 (fun _ _ h => h))
    clear hk4 c0 c1 c2 c3 c4 c5 c6
    go_wp2_with fail
    refine (HAW.out _).mono ?_
    rintro e w5 ⟨rfl, hk5⟩
    have HK5 := Lib.hid (HK4.out.trans hk5 (fun _ _ h => h))
    clear hk5
    go_wp2
    go_ret
    exact ⟨rfl, HK5.out⟩
end Go.Proofs.YtpdkmalfojeghaaGreatDoor
