/-
  The walk of UpdateChecks.
-/
import Derived.Test.YtpdkmalfojeghaaGreatDoorLtrL
import Derived.Test.YtpdkmalfojeghaaGreatDoorLtrN
import Derived.Test.YtpdkmalfojeghaaGreatDoorLtrQ
namespace Go.Proofs.YtpdkmalfojeghaaGreatDoor
open Go.RowKit
set_option linter.unusedVariables false
set_option linter.unusedSimpArgs false

set_option maxRecDepth 100000 in
set_option maxHeartbeats 8000000 in
theorem UpdateChecks_any (w : World) (v : Value) (x : Up) (ver : Int) (room : Bool) (h : UpV w (fun k => k < w.heap.size) v x) (hfit : FitU x) (v0 : 0 ≤ ver) (v1 : ver ≤ 18446744073709551615) (ht : Tab10 w) : Calls Tryz.prog 4 #[v, .int .u64 ver, .bool room] w fun e w' => e = .returned (.bool true) ∧ Kept NoB w w' := by
  have HAW := Lib.hid (fun w => awake17 w)
  obtain ⟨u, rfl, hd⟩ := h
  have HD := Lib.hid hd
  obtain ⟨va, vc, rfl, _⟩ := hd
  obtain ⟨y0, y1, y2, y3, y4, y5, y6⟩ := x
  simp only at HD ⊢
  obtain ⟨W, hW⟩ : ∃ W, W = (w.alloc (.cells #[.int .u64 y0, .int .i64 y1, .int .u64 y2, .int .i64 y3, .int .u32 y4, .int .u64 y5, .slice va y6.length vc] 43)).alloc (.cells #[.int .u64 y0, .int .i64 y1, .int .u64 y2, .int .i64 y3, .int .u32 y4, .int .u64 y5, .slice va y6.length vc] 43) := ⟨_, rfl⟩
  have hk : Kept NoB w W := by rw [hW]; exact ((Kept.refl NoB w).alloc _).alloc _
  have hb : W.heap[w.heap.size]? = some (.cells #[.int .u64 y0, .int .i64 y1, .int .u64 y2, .int .i64 y3, .int .u32 y4, .int .u64 y5, .slice va y6.length vc] 43) := by rw [hW]; exact blkU_alloc (heap_alloc_new w _) _
  have hr1 : W.heap[w.heap.size + 1]? = some (.cells #[.int .u64 y0, .int .i64 y1, .int .u64 y2, .int .i64 y3, .int .u32 y4, .int .u64 y5, .slice va y6.length vc] 43) := by
    have := heap_alloc_new (w.alloc (.cells #[.int .u64 y0, .int .i64 y1, .int .u64 y2, .int .i64 y3, .int .u32 y4, .int .u64 y5, .slice va y6.length vc] 43)) (.cells #[.int .u64 y0, .int .i64 y1, .int .u64 y2, .int .i64 y3, .int .u32 y4, .int .u64 y5, .slice va y6.length vc] 43)
    rw [show (w.alloc (.cells #[.int .u64 y0, .int .i64 y1, .int .u64 y2, .int .i64 y3, .int .u32 y4, .int .u64 y5, .slice va y6.length vc] 43)).heap.size = w.heap.size + 1 by simp] at this
    rw [hW]; exact this
  have hus := UsAt.one (F := fun k => k < w.heap.size ∨ k = w.heap.size + 1) (x := ⟨y0, y1, y2, y3, y4, y5, y6⟩) hr1 (.inr rfl) ((HD.out.kept hk (fun _ _ h => h)).mono (fun k _ h => .inl h))
  have HFA := Lib.hid (far17_any W _ [⟨y0, y1, y2, y3, y4, y5, y6⟩] _ hus)
  have HW := Lib.hid hW
  have HK := Lib.hid hk
  have HB := Lib.hid hb
  obtain ⟨c0, c1, c2, c3, c4, c5, c6⟩ := cells7 (heap_alloc_new w (.cells #[.int .u64 y0, .int .i64 y1, .int .u64 y2, .int .i64 y3, .int .u32 y4, .int .u64 y5, .slice va y6.length vc] 43))
  cases hfar : farU [⟨y0, y1, y2, y3, y4, y5, y6⟩] with
  | true =>
    rw [hfar] at HFA
    clear hk hb hr1 hus hfar ht hfit hW
    go_enter Tryz.func4, Tryz.ntmps4
    go_wp2_with fail
    rw [← HW.out]
    refine HFA.out.mono ?_
    rintro e w1 ⟨rfl, hk1⟩
    have HK1 := Lib.hid (HK.out.trans hk1 (fun _ _ h => h))
    clear hk1
    go_wp2_with fail
    refine (HAW.out _).mono ?_
    rintro e w2 ⟨rfl, hk2⟩
    have HK2 := Lib.hid (HK1.out.trans hk2 (fun _ _ h => h))
    clear hk2
    go_wp2
    go_ret
    exact ⟨rfl, HK2.out⟩
  | false =>
    rw [hfar] at HFA
    have hdl : y6.length ≤ 1000000 := by have := (farU_not hfar).2 _ (List.mem_singleton.2 rfl); simp only at this; omega
    have HUV := Lib.hid (fun w' (hk' : Kept NoB w w') => (⟨_, rfl, HD.out.kept hk' (fun _ _ h => h)⟩ : UpV w' (fun k => k < w.heap.size) (.agg #[.int .u64 y0, .int .i64 y1, .int .u64 y2, .int .i64 y3, .int .u32 y4, .int .u64 y5, .slice va y6.length vc]) ⟨y0, y1, y2, y3, y4, y5, y6⟩))
    obtain ⟨r, hr⟩ : ∃ r, r = outU ⟨y0, y1, y2, y3, y4, y5, y6⟩ ver room := ⟨_, rfl⟩
    have HO := Lib.hid (fun w' (hk' : Kept NoB w w') => Outcome_any w' _ ⟨y0, y1, y2, y3, y4, y5, y6⟩ ver room _ (HUV.out w' hk') v0 v1)
    have HRO := Lib.hid (fun w' (hk' : Kept NoB w w') => ROutcome_any w' _ ⟨y0, y1, y2, y3, y4, y5, y6⟩ ver room _ (HUV.out w' hk') v0 v1)
    rw [← hr] at HO HRO
    obtain ⟨r0, r1, r2⟩ := r
    unfold OutE at HO HRO
    have HM := Lib.hid (fun w' (hk' : Kept NoB w w') => UMade_any w' _ ⟨y0, y1, y2, y3, y4, y5, y6⟩ ver _ (HUV.out w' hk') hdl)
    obtain ⟨zc, hzc⟩ : ∃ z, z = chkR true ⟨y0, y1, y2, y3, y4, y5, y6⟩ := ⟨_, rfl⟩
    obtain ⟨za, hza⟩ : ∃ z, z = chkR false ⟨y0, y1, y2, y3, y4, y5, y6⟩ := ⟨_, rfl⟩
    have HC1 := Lib.hid (fun w' (hk' : Kept NoB w w') => (UCheck_any w' _ ⟨y0, y1, y2, y3, y4, y5, y6⟩ _ (HUV.out w' hk') (fun k h => by have := hk'.size; omega) (ht.kept hk' (fun h => h))).mono fun e w'' h => show e = .returned (.int .i64 zc) ∧ Kept NoB w' w'' from by rw [chk_push _ hfit, ← hzc] at h; exact h)
    have HC2 := Lib.hid (fun w' (hk' : Kept NoB w w') => (RCheck17_any w' _ ⟨y0, y1, y2, y3, y4, y5, y6⟩ _ (HUV.out w' hk')).mono fun e w'' h => show e = .returned (.int .i64 zc) ∧ Kept NoB w' w'' from by rw [← hzc] at h; exact h)
    have HC3 := Lib.hid (fun w' (hk' : Kept NoB w w') => (UAsked_any w' _ ⟨y0, y1, y2, y3, y4, y5, y6⟩ _ (HUV.out w' hk') (fun k h => by have := hk'.size; omega) (ht.kept hk' (fun h => h))).mono fun e w'' h => show e = .returned (.int .i64 za) ∧ Kept NoB w' w'' from by rw [chk_ask _ hfit, ← hza] at h; exact h)
    have HC4 := Lib.hid (fun w' (hk' : Kept NoB w w') => (RAsked17_any w' _ ⟨y0, y1, y2, y3, y4, y5, y6⟩ _ (HUV.out w' hk')).mono fun e w'' h => show e = .returned (.int .i64 za) ∧ Kept NoB w' w'' from by rw [← hza] at h; exact h)
    have HRM := Lib.hid (fun w' => RMade_eq w' va vc y0 y1 y2 y3 y4 y5 y6 ver)
    have e0 : (r0 == r0) = true := by simp
    have e1 : (r1 == r1) = true := by simp
    have e2 : (r2 == r2) = true := by simp
    have e3 : (zc == zc) = true := by simp
    have e4 : (za == za) = true := by simp
    have HTB : Hid (∀ w', Kept NoB W w' → w'.heap[w.heap.size]? = some (.cells #[.int .u64 y0, .int .i64 y1, .int .u64 y2, .int .i64 y3, .int .u32 y4, .int .u64 y5, .slice va y6.length vc] 43)) := Lib.hid (fun w' hk => hk.heap (fun h => h) HB.out)
    clear hk hb hr1 hus hfar ht hfit hW hr hzc hza hdl v0 v1
    go_enter Tryz.func4, Tryz.ntmps4
    go_wp2_with fail
    rw [← HW.out]
    refine HFA.out.mono ?_
    rintro e w1 ⟨rfl, hk1⟩
    have HK1 := Lib.hid hk1
    clear hk1 c0 c1 c2 c3 c4 c5 c6
    obtain ⟨c0, c1, c2, c3, c4, c5, c6⟩ := cells7 (HTB.out w1 HK1.out)
    go_wp2_with fail
    refine (HO.out w1 (HK.out.trans HK1.out (fun _ _ h => h))).mono ?_
    rintro e w2 ⟨rfl, hk2⟩
    have HK2 := Lib.hid (HK1.out.trans hk2 (fun _ _ h => h))
    clear hk2 c0 c1 c2 c3 c4 c5 c6
    obtain ⟨c0, c1, c2, c3, c4, c5, c6⟩ := cells7 (HTB.out w2 HK2.out)
    go_wp2_with fail
    refine (HRO.out w2 (HK.out.trans HK2.out (fun _ _ h => h))).mono ?_
    rintro e w3 ⟨rfl, hk3⟩
    have HK3 := Lib.hid (HK2.out.trans hk3 (fun _ _ h => h))
    clear hk3 c0 c1 c2 c3 c4 c5 c6
    obtain ⟨c0, c1, c2, c3, c4, c5, c6⟩ := cells7 (HTB.out w3 HK3.out)
    go_wp2_with fail
    refine (HM.out w3 (HK.out.trans HK3.out (fun _ _ h => h))).mono ?_
    rintro e w4 ⟨v4, rfl, hv4, hk4⟩
    obtain ⟨u4, rfl, hu4⟩ := hv4
    have HU4 := Lib.hid hu4.bsl
    obtain ⟨ma, mc, rfl⟩ := own_form hu4.2.1
    simp only
    have HK4 := Lib.hid (HK3.out.trans hk4 (fun _ _ h => h))
    obtain ⟨mb, hmb⟩ : ∃ b, b = w4.heap.size := ⟨_, rfl⟩
    obtain ⟨V, hV⟩ : ∃ V, V = w4.alloc (.cells #[.int .u64 ver, .int .u64 y0, .slice ma y6.length mc] 48 (0, 0)) := ⟨_, rfl⟩
    have hbv : V.heap[mb]? = some (.cells #[.int .u64 ver, .int .u64 y0, .slice ma y6.length mc] 48 (0, 0)) := by rw [hV, hmb]; exact heap_alloc_new w4 _
    have hk4v : Kept NoB w4 V := by rw [hV]; exact (Kept.refl NoB w4).alloc _
    have HV := Lib.hid hV
    have HMB := Lib.hid hmb
    have HBV := Lib.hid hbv
    have HKV := Lib.hid (HK4.out.trans hk4v (fun _ _ h => h))
    have HUM := Lib.hid (HU4.out.kept hk4v (fun _ _ h => h))
    have HRS := Lib.hid (fun w' (hk' : Kept NoB V w') => (RSame17 w' (.agg #[.int .u64 ver, .int .u64 y0, .slice ma y6.length mc]) (.agg #[.int .u64 ver, .int .u64 y0, .slice va y6.length vc]) ⟨ver, y0, y6⟩ ⟨ver, y0, y6⟩ _ _ ⟨_, rfl, HUM.out.kept hk' (fun _ _ h => h)⟩ ⟨_, rfl, HD.out.kept (HK.out.trans (HKV.out.trans hk' (fun _ _ h => h)) (fun _ _ h => h)) (fun _ _ h => h)⟩).mono fun e w'' h => show e = .returned (.bool true) ∧ Kept NoB w' w'' from by rw [sameV17_same] at h; exact h)
    have HKW : Hid (∀ w', Kept NoB V w' → Kept NoB w w') := Lib.hid (fun w' hk' => HK.out.trans (HKV.out.trans hk' (fun _ _ h => h)) (fun _ _ h => h))
    have HTEN : Hid (∀ w', Kept NoB V w' → w'.cell? ⟨w.heap.size, 0, none⟩ = some (.int .u64 y0) ∧ w'.cell? ⟨w.heap.size, 1, none⟩ = some (.int .i64 y1) ∧ w'.cell? ⟨w.heap.size, 2, none⟩ = some (.int .u64 y2) ∧ w'.cell? ⟨w.heap.size, 3, none⟩ = some (.int .i64 y3) ∧ w'.cell? ⟨w.heap.size, 4, none⟩ = some (.int .u32 y4) ∧ w'.cell? ⟨w.heap.size, 5, none⟩ = some (.int .u64 y5) ∧ w'.cell? ⟨w.heap.size, 6, none⟩ = some (.slice va y6.length vc) ∧ w'.cell? ⟨mb, 0, none⟩ = some (.int .u64 ver) ∧ w'.cell? ⟨mb, 1, none⟩ = some (.int .u64 y0) ∧ w'.cell? ⟨mb, 2, none⟩ = some (.slice ma y6.length mc)) := Lib.hid (fun w' hk' => by
      obtain ⟨c0, c1, c2, c3, c4, c5, c6⟩ := cells7 (HTB.out w' (HKV.out.trans hk' (fun _ _ h => h)))
      obtain ⟨d0, d1, d2⟩ := cells3v (hk'.heap (fun h => h) HBV.out)
      exact ⟨c0, c1, c2, c3, c4, c5, c6, d0, d1, d2⟩)
    clear hk4 hu4 hmb hV hbv hk4v c0 c1 c2 c3 c4 c5 c6
    go_wp2_with fail
    rw [← HV.out, ← HMB.out]
    have HKe := Lib.hid (Kept.refl NoB V).drew
    have HT := Lib.hid (HTEN.out _ HKe.out)
    go_region_held3 (fun w' => w'.cell? ⟨w.heap.size, 0, none⟩ = some (.int .u64 y0) ∧ w'.cell? ⟨w.heap.size, 1, none⟩ = some (.int .i64 y1) ∧ w'.cell? ⟨w.heap.size, 2, none⟩ = some (.int .u64 y2) ∧ w'.cell? ⟨w.heap.size, 3, none⟩ = some (.int .i64 y3) ∧ w'.cell? ⟨w.heap.size, 4, none⟩ = some (.int .u32 y4) ∧ w'.cell? ⟨w.heap.size, 5, none⟩ = some (.int .u64 y5) ∧ w'.cell? ⟨w.heap.size, 6, none⟩ = some (.slice va y6.length vc) ∧ w'.cell? ⟨mb, 0, none⟩ = some (.int .u64 ver) ∧ w'.cell? ⟨mb, 1, none⟩ = some (.int .u64 y0) ∧ w'.cell? ⟨mb, 2, none⟩ = some (.slice ma y6.length mc)) (with_reducible exact HT.out)
      (first
        | (go_at_call 32; (with_reducible refine (HC1.out _ (HKW.out _ HKe.out)).mono ?_); rintro e w1 ⟨rfl, hk1⟩; replace HKe := Lib.hid (HKe.out.trans hk1 (fun _ _ h => h)); replace HT := Lib.hid (HTEN.out _ HKe.out); clear hk1)
        | (go_at_call 33; (with_reducible refine (HC2.out _ (HKW.out _ HKe.out)).mono ?_); rintro e w1 ⟨rfl, hk1⟩; replace HKe := Lib.hid (HKe.out.trans hk1 (fun _ _ h => h)); replace HT := Lib.hid (HTEN.out _ HKe.out); clear hk1)
        | (go_at_call 34; (with_reducible refine (HC3.out _ (HKW.out _ HKe.out)).mono ?_); rintro e w1 ⟨rfl, hk1⟩; replace HKe := Lib.hid (HKe.out.trans hk1 (fun _ _ h => h)); replace HT := Lib.hid (HTEN.out _ HKe.out); clear hk1)
        | (go_at_call 35; (with_reducible refine (HC4.out _ (HKW.out _ HKe.out)).mono ?_); rintro e w1 ⟨rfl, hk1⟩; replace HKe := Lib.hid (HKe.out.trans hk1 (fun _ _ h => h)); replace HT := Lib.hid (HTEN.out _ HKe.out); clear hk1)
        | (go_at_call 37; (with_reducible refine (HRM.out _).mono ?_); rintro e w1 ⟨rfl, hk1⟩; replace HKe := Lib.hid (HKe.out.trans hk1 (fun _ _ h => h)); replace HT := Lib.hid (HTEN.out _ HKe.out); clear hk1)
        | (go_at_call 36; (with_reducible refine (HRS.out _ HKe.out).mono ?_); rintro e w1 ⟨rfl, hk1⟩; replace HKe := Lib.hid (HKe.out.trans hk1 (fun _ _ h => h)); replace HT := Lib.hid (HTEN.out _ HKe.out); clear hk1)
        | (go_at_call 28; (with_reducible refine (HAW.out _).mono ?_); rintro e w1 ⟨rfl, hk1⟩; replace HKe := Lib.hid (HKe.out.trans hk1 (fun _ _ h => h)); replace HT := Lib.hid (HTEN.out _ HKe.out); clear hk1)
        | fail)
    go_wp2
    go_ret
    exact ⟨rfl, HKW.out _ HKe.out⟩
end Go.Proofs.YtpdkmalfojeghaaGreatDoor
