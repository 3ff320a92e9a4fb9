/-
  The chapter's rows: Fine, Judge, Set.
-/
import Derived.Test.YtnmclhgljpcjcaaSesC
namespace Go.Proofs.Ytnmclhgljpcjcaa
open Go.RowKit
set_option linter.unusedVariables false

/-- A row that may be. -/
def FineR (r : Rw) : Prop := 1 ≤ r.s ∧ r.s ≤ 6 ∧ 0 < r.b ∧ 0 < r.k ∧ 0 ≤ r.ch ∧ r.ch ≤ 255
instance (r : Rw) : Decidable (FineR r) := by unfold FineR; infer_instance
/-- The numbers of a row fit. -/
def FitR (r : Rw) : Prop := 0 ≤ r.b ∧ r.b ≤ 18446744073709551615 ∧ 0 ≤ r.k ∧ r.k ≤ 18446744073709551615 ∧ 0 ≤ r.ep ∧ r.ep ≤ 18446744073709551615
theorem ret_bool16 {a b : Bool} (h : a = b) : Ending.returned (.bool a) = .returned (.bool b) := by rw [h]
theorem ret_int16 {a b : Int} (h : a = b) : Ending.returned (.int .i64 a) = .returned (.int .i64 b) := by rw [h]
set_option maxRecDepth 100000 in
theorem RFine_any (s b k ch ep : Int) (w : World) : Calls Try.prog 50 #[.agg #[.int .i64 s, .int .u64 b, .int .u64 k, .int .i64 ch, .int .u64 ep]] w fun e w' => e = .returned (.bool (decide (FineR ⟨s, b, k, ch, ep⟩))) ∧ Kept NoB w w' := by
  have HK := Lib.hid ((Kept.refl NoB w).alloc (.cells #[.int .i64 s, .int .u64 b, .int .u64 k, .int .i64 ch, .int .u64 ep] 74))
  go_enter Try.func50, Try.ntmps50
  go_wp2
  all_goals
    go_ret
    refine ⟨ret_bool16 ?_, HK.out⟩
    symm
    first
      | (rw [decide_eq_false_iff_not]; intro hf; unfold FineR at hf; simp only at hf; omega)
      | (rw [Bool.eq_iff_iff, decide_eq_true_iff, decide_eq_true_iff]; unfold FineR; simp only; omega)
/-- The last Num of a client, 0 where it has none. -/
def numR (L : List Rw) (s : Int) : Int := ((atR L s).getD rw0).b
def judR (L : List Rw) (s n : Int) : Int := if s < 1 ∨ 6 < s ∨ n = 0 then 2 else if numR L s < n then 0 else if numR L s = n then 1 else 2
def setX (L : List Rw) (r : Rw) : Int := if ¬ FineR r then 1 else if judR L r.s r.b ≠ 0 then 12 else 0
def setL (L : List Rw) (r : Rw) : List Rw := if setX L r = 0 then putR L r else L
set_option maxRecDepth 100000 in
theorem RJudge_any (w : World) (v : Value) (s n : Int) (L : List Rw) (F : Nat → Prop) (h : RwRd w F v L) (hn : 0 ≤ n) : Calls Try.prog 48 #[v, .int .i64 s, .int .u64 n] w fun e w' =>
    e = .returned (.int .i64 (judR L s n)) ∧ Kept NoB w w' := by
  have HG := Lib.hid (RGet16_any w v s L F h)
  obtain ⟨bb, hbb⟩ : ∃ b, b = (atR L s).isSome := ⟨_, rfl⟩
  obtain ⟨⟨y0, y1, y2, y3, y4⟩, hv⟩ : ∃ v, v = (atR L s).getD rw0 := ⟨_, rfl⟩
  rw [← hbb, ← hv, show rvv ⟨y0, y1, y2, y3, y4⟩ = .agg #[.int .i64 y0, .int .u64 y1, .int .u64 y2, .int .i64 y3, .int .u64 y4] from rfl] at HG
  have HN : Hid (numR L s = y1 ∧ (bb = false → y1 = 0)) := Lib.hid ⟨by unfold numR; rw [← hv], fun hb => by
    rw [hb] at hbb
    cases ha : atR L s with
    | none => rw [ha] at hv; simp [rw0] at hv; exact hv.2.1
    | some x => rw [ha] at hbb; cases hbb⟩
  obtain ⟨a, c, rfl⟩ := h.form
  clear h hbb hv
  by_cases hbad : s < 1 ∨ 6 < s ∨ n = 0
  · have HJ : Hid (judR L s n = 2) := Lib.hid (by unfold judR; rw [if_pos hbad])
    rw [HJ.out]
    have hn0 : (n == 0) = decide (n = 0) := rfl
    by_cases h1 : s < 1
    · clear hbad hn0
      go_enter Try.func48, Try.ntmps48
      go_wp2
      go_ret
      exact ⟨rfl, Kept.refl _ _⟩
    · by_cases h2 : 6 < s
      · have h1' : 1 ≤ s := by omega
        clear hbad hn0 h1
        go_enter Try.func48, Try.ntmps48
        go_wp2
        go_ret
        exact ⟨rfl, Kept.refl _ _⟩
      · obtain rfl : n = 0 := by omega
        have h1' : 1 ≤ s := by omega
        have h2' : s ≤ 6 := by omega
        clear hbad hn0 h1 h2
        go_enter Try.func48, Try.ntmps48
        go_wp2
        go_ret
        exact ⟨rfl, Kept.refl _ _⟩
  · have h1 : 1 ≤ s := by omega
    have h2 : s ≤ 6 := by omega
    have h3 : (n == 0) = false := by rw [beq_eq_false_iff_ne]; omega
    have HJ : Hid (judR L s n = if y1 < n then 0 else if y1 = n then 1 else 2) := Lib.hid (by unfold judR; rw [if_neg hbad, HN.out.1])
    have HP : Hid (0 < n) := Lib.hid (by omega)
    obtain ⟨j, hj⟩ : ∃ j, j = judR L s n := ⟨_, rfl⟩
    rw [← hj] at HJ ⊢
    clear hbad hj
    go_enter Try.func48, Try.ntmps48
    go_wp2_with fail
    refine HG.out.mono ?_
    rintro e w1 ⟨rfl, hk⟩
    have HK := Lib.hid hk
    clear hk
    cases bb
    · have h0 := HN.out.2 rfl
      have HZ : Hid (y1 < n) := Lib.hid (by have := HP.out; omega)
      clear h0
      go_wp2
      go_ret
      exact ⟨ret_int16 (by rw [HJ.out, if_pos HZ.out]), HK.out.alloc _⟩
    · by_cases hlt : y1 < n
      · have HL := Lib.hid hlt
        go_wp2
        go_ret
        exact ⟨ret_int16 (by rw [HJ.out, if_pos (by have := HL.out; omega)]), HK.out.alloc _⟩
      · by_cases heq : y1 = n
        · have hb1 : (y1 == n) = true := by simpa using heq
          have hge : decide (y1 < n) = false := decide_eq_false hlt
          have HQ := Lib.hid heq
          have HL := Lib.hid hlt
          clear heq hlt
          go_wp2
          go_ret
          exact ⟨ret_int16 (by rw [HJ.out, if_neg (by have := HL.out; omega), if_pos (by have := HQ.out; omega)]), HK.out.alloc _⟩
        · have hb1 : (y1 == n) = false := by simpa using heq
          have hge : decide (y1 < n) = false := decide_eq_false hlt
          have HQ := Lib.hid heq
          have HL := Lib.hid hlt
          clear heq hlt
          go_wp2
          go_ret
          exact ⟨ret_int16 (by rw [HJ.out, if_neg (by have := HL.out; omega), if_neg (by have := HQ.out; omega)]), HK.out.alloc _⟩
set_option maxRecDepth 100000 in
theorem RSet16_any (w : World) (v : Value) (L : List Rw) (x0 x1 x2 x3 x4 : Int) (F : Nat → Prop) (h : RwRd w F v L) (hl : L.length ≤ 10000) (hn : 0 ≤ x1) : Calls Try.prog 39 #[v, .agg #[.int .i64 x0, .int .u64 x1, .int .u64 x2, .int .i64 x3, .int .u64 x4]] w fun e w' =>
    ∃ u, e = .returned (.tuple #[u, .int .i64 (setX L ⟨x0, x1, x2, x3, x4⟩)]) ∧ RwRd w' (fun k => F k ∨ w.heap.size ≤ k) u (setL L ⟨x0, x1, x2, x3, x4⟩) ∧ Kept NoB w w' := by
  have HK0 := Lib.hid ((Kept.refl NoB w).alloc (.cells #[.int .i64 x0, .int .u64 x1, .int .u64 x2, .int .i64 x3, .int .u64 x4] 74))
  have HR0 := Lib.hid (heap_alloc_new w (.cells #[.int .i64 x0, .int .u64 x1, .int .u64 x2, .int .i64 x3, .int .u64 x4] 74))
  have HV0 := Lib.hid (h.no HK0.out)
  have HV := Lib.hid h
  obtain ⟨a, c, rfl⟩ := h.form
  clear h
  obtain ⟨w0, hw0⟩ : ∃ w0, w0 = w.alloc (.cells #[.int .i64 x0, .int .u64 x1, .int .u64 x2, .int .i64 x3, .int .u64 x4] 74) := ⟨_, rfl⟩
  rw [← hw0] at HK0 HR0 HV0
  have HW := Lib.hid hw0
  clear hw0
  obtain ⟨bb, hbb⟩ : ∃ b, b = decide (FineR ⟨x0, x1, x2, x3, x4⟩) := ⟨_, rfl⟩
  have HB := Lib.hid hbb
  have HF := Lib.hid (RFine_any x0 x1 x2 x3 x4 w0)
  rw [← hbb] at HF
  clear hbb
  go_enter Try.func39, Try.ntmps39
  go_upto_region 1 with fail
  rw [← HW.out]
  obtain ⟨c0, c1, c2, c3, c4⟩ := cells5r (v := ⟨x0, x1, x2, x3, x4⟩) HR0.out
  go_wp2_with fail
  refine HF.out.mono ?_
  rintro e w1 ⟨rfl, hk⟩
  have HK1 := Lib.hid (HK0.out.trans hk (fun _ _ h => h))
  have HR1 := Lib.hid (hk.heap (fun h => h) HR0.out)
  have HV1 := Lib.hid (HV0.out.no hk)
  clear hk c0 c1 c2 c3 c4
  cases bb
  · have HX : Hid (setX L ⟨x0, x1, x2, x3, x4⟩ = 1) := Lib.hid (by unfold setX; rw [if_pos (by have := HB.out; simpa using this)])
    go_wp2
    go_ret2
    rw [HX.out, show setL L ⟨x0, x1, x2, x3, x4⟩ = L by unfold setL; rw [HX.out, if_neg (by decide)]]
    exact ⟨_, rfl, HV1.out.mono (fun k _ h => .inl h), HK1.out⟩
  · have HFI : Hid (FineR ⟨x0, x1, x2, x3, x4⟩) := Lib.hid (of_decide_eq_true HB.out.symm)
    obtain ⟨j, hj⟩ : ∃ j, j = judR L x0 x1 := ⟨_, rfl⟩
    have HJ := Lib.hid hj
    have HJU := Lib.hid (RJudge_any w1 _ x0 x1 L F HV1.out hn)
    rw [← hj] at HJU
    clear hj
    obtain ⟨c0, c1, c2, c3, c4⟩ := cells5r (v := ⟨x0, x1, x2, x3, x4⟩) HR1.out
    go_wp2_with fail
    refine HJU.out.mono ?_
    rintro e w2 ⟨rfl, hk⟩
    have HK2 := Lib.hid (HK1.out.trans hk (fun _ _ h => h))
    have HR2 := Lib.hid (hk.heap (fun h => h) HR1.out)
    have HV2 := Lib.hid (HV1.out.no hk)
    clear hk c0 c1 c2 c3 c4
    by_cases h0 : j = 0
    · have HX : Hid (setX L ⟨x0, x1, x2, x3, x4⟩ = 0) := Lib.hid (by unfold setX; rw [if_neg (by simpa using HFI.out), if_neg (by rw [← HJ.out]; simpa using h0)])
      have hb0 : (j != 0) = false := by simpa using h0
      clear h0
      obtain ⟨c0, c1, c2, c3, c4⟩ := cells5r (v := ⟨x0, x1, x2, x3, x4⟩) HR2.out
      go_wp2_with fail
      refine (RPut16_any w2 _ L x0 x1 x2 x3 x4 F HV2.out hl).mono ?_
      rintro e w3 ⟨u, rfl, hu, hk⟩
      obtain ⟨ua, uc, rfl⟩ := hu.form
      have HU := Lib.hid hu
      have HK3 := Lib.hid (HK2.out.trans hk (fun _ _ h => h))
      clear hu hk c0 c1 c2 c3 c4
      go_wp2
      go_ret2
      rw [HX.out, show setL L ⟨x0, x1, x2, x3, x4⟩ = putR L ⟨x0, x1, x2, x3, x4⟩ by unfold setL; rw [HX.out, if_pos rfl]]
      exact ⟨_, rfl, HU.out.rd (fun k hk => .inr (by have := (HU.out.base k hk).1; have := HK2.out.size; omega)), HK3.out⟩
    · have HX : Hid (setX L ⟨x0, x1, x2, x3, x4⟩ = 12) := Lib.hid (by unfold setX; rw [if_neg (by simpa using HFI.out), if_pos (by rw [← HJ.out]; exact h0)])
      have hb0 : (j != 0) = true := by simpa using h0
      clear h0
      go_wp2
      go_ret2
      rw [HX.out, show setL L ⟨x0, x1, x2, x3, x4⟩ = L by unfold setL; rw [HX.out, if_neg (by decide)]]
      exact ⟨_, rfl, HV2.out.mono (fun k _ h => .inl h), HK2.out⟩
end Go.Proofs.Ytnmclhgljpcjcaa
