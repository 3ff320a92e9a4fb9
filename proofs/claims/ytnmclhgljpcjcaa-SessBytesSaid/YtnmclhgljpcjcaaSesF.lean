/-
  Package sess: isRow, Set, All, Len.
-/
import Derived.Test.YtnmclhgljpcjcaaSesE
namespace Go.Proofs.Ytnmclhgljpcjcaa
open Go.RowKit
set_option linter.unusedVariables false

def fineB (r : Rw) : Bool := decide (FineR r)
set_option maxRecDepth 100000 in
theorem isRow_any (s b k ch ep : Int) (w : World) : Calls Try.prog 81 #[.agg #[.int .i64 s, .int .u64 b, .int .u64 k, .int .i64 ch, .int .u64 ep]] w fun e w' => e = .returned (.bool (fineB ⟨s, b, k, ch, ep⟩)) ∧ Kept NoB w w' := by
  have HK := Lib.hid ((Kept.refl NoB w).alloc (.cells #[.int .i64 s, .int .u64 b, .int .u64 k, .int .i64 ch, .int .u64 ep] 75))
  have HI := Lib.hid (isClient_any s (w.alloc (.cells #[.int .i64 s, .int .u64 b, .int .u64 k, .int .i64 ch, .int .u64 ep] 75)))
  obtain ⟨bb, hbb⟩ : ∃ x, x = fineB ⟨s, b, k, ch, ep⟩ := ⟨_, rfl⟩
  have HB := Lib.hid hbb
  rw [← hbb]
  clear hbb
  by_cases hb : s < 1 ∨ 6 < s
  · have hc := cliB_no hb
    rw [hc] at HI
    have HX : Hid (bb = false) := Lib.hid (by rw [HB.out]; exact decide_eq_false (by unfold FineR; simp only; omega))
    clear hb hc
    go_enter Try.func81, Try.ntmps81
    go_wp2_with fail
    refine HI.out.mono ?_
    rintro e w1 ⟨rfl, rfl⟩
    go_wp2
    go_ret
    exact ⟨ret_bool16 HX.out.symm, HK.out⟩
  · have hc : cliB s = true := cliB_yes (by omega) (by omega)
    rw [hc] at HI
    have HS : Hid (1 ≤ s ∧ s ≤ 6) := Lib.hid (by omega)
    clear hb hc
    go_enter Try.func81, Try.ntmps81
    go_wp2_with fail
    refine HI.out.mono ?_
    rintro e w1 ⟨rfl, rfl⟩
    go_wp2
    all_goals
      go_ret
      refine ⟨ret_bool16 ?_, HK.out⟩
      rw [HB.out]
      have := HS.out
      symm
      unfold fineB
      first
        | (rw [decide_eq_false_iff_not]; intro hf; unfold FineR at hf; simp only at hf; omega)
        | (rw [Bool.eq_iff_iff, decide_eq_true_iff, decide_eq_true_iff]; unfold FineR; simp only; omega)
theorem TabAt.set {w : World} {g : Nat} {L : List Rw} (h : TabAt w g L) (v : Rw) (hf : FineR v) (hfit : FitR v) (i : Nat) (hi : v.s = (i : Int) + 1) : TabAt (five16 w g (i * 5) v) g (putR L v) := by
  obtain ⟨cs, h1, h2, h3⟩ := h.row
  have hi6 : i < 6 := by unfold FineR at hf; omega
  refine ⟨⟨_, blkR_set (blkR_set (blkR_set (blkR_set (blkR_set h1 (i * 5) _) (i * 5 + 1) _) (i * 5 + 2) _) (i * 5 + 3) _) (i * 5 + 4) _, by simpa using h2, fun j hj => ?_⟩, putR_srt v h.srt, fun r hr => ?_⟩
  · by_cases e : j = i
    · subst e
      rw [← hi, atR_put_same]
      simp only [Option.getD_some, RwA, Array.getElem?_setIfInBounds, Array.size_setIfInBounds, h2]
      refine ⟨?_, ?_, ?_, ?_, ?_⟩
      · rw [if_neg (by omega), if_neg (by omega), if_neg (by omega), if_neg (by omega), if_pos trivial, if_pos (by omega)]
      · rw [if_neg (by omega), if_neg (by omega), if_neg (by omega), if_pos trivial, if_pos (by omega)]
      · rw [if_neg (by omega), if_neg (by omega), if_pos trivial, if_pos (by omega)]
      · rw [if_neg (by omega), if_pos trivial, if_pos (by omega)]
      · rw [if_pos trivial, if_pos (by omega)]
    · rw [atR_put_other v (by omega)]
      obtain ⟨e0, e1, e2, e3, e4⟩ := h3 j hj
      have k : ∀ a, a < 5 → ∀ b, b < 5 → ¬ i * 5 + b = j * 5 + a := by intro a ha b hb; omega
      simp only [RwA, Array.getElem?_setIfInBounds]
      refine ⟨?_, ?_, ?_, ?_, ?_⟩
      · rw [if_neg (by omega), if_neg (by omega), if_neg (by omega), if_neg (by omega), if_neg (by omega)]; exact e0
      · rw [if_neg (by omega), if_neg (by omega), if_neg (by omega), if_neg (by omega), if_neg (by omega)]; exact e1
      · rw [if_neg (by omega), if_neg (by omega), if_neg (by omega), if_neg (by omega), if_neg (by omega)]; exact e2
      · rw [if_neg (by omega), if_neg (by omega), if_neg (by omega), if_neg (by omega), if_neg (by omega)]; exact e3
      · rw [if_neg (by omega), if_neg (by omega), if_neg (by omega), if_neg (by omega), if_neg (by omega)]; exact e4
  · rcases putR_mem hr with rfl | hr
    · exact ⟨hf, hfit⟩
    · exact h.ok r hr
theorem SSet_nil (w : World) (x0 x1 x2 x3 x4 : Int) : Calls Try.prog 41 #[.pointer none, .agg #[.int .i64 x0, .int .u64 x1, .int .u64 x2, .int .i64 x3, .int .u64 x4]] w fun e w' => e = .returned (.int .i64 2) ∧ Kept NoB w w' := by
  go_enter Try.func41, Try.ntmps41
  go_wp2
  go_ret
  exact ⟨rfl, (Kept.refl _ _).alloc _⟩
set_option maxRecDepth 100000 in
theorem SSet_any (w : World) (g : Nat) (x0 x1 x2 x3 x4 : Int) (L : List Rw) (h : TabAt w g L) (hfit : FitR ⟨x0, x1, x2, x3, x4⟩) : Calls Try.prog 41 #[.pointer (some ⟨g, 0, none⟩), .agg #[.int .i64 x0, .int .u64 x1, .int .u64 x2, .int .i64 x3, .int .u64 x4]] w fun e w' =>
    e = .returned (.int .i64 (setX L ⟨x0, x1, x2, x3, x4⟩)) ∧ TabAt w' g (setL L ⟨x0, x1, x2, x3, x4⟩) ∧ Kept (fun k => k = g) w w' := by
  have HK0 := Lib.hid ((Kept.refl NoB w).alloc (.cells #[.int .i64 x0, .int .u64 x1, .int .u64 x2, .int .i64 x3, .int .u64 x4] 75))
  have HR0 := Lib.hid (heap_alloc_new w (.cells #[.int .i64 x0, .int .u64 x1, .int .u64 x2, .int .i64 x3, .int .u64 x4] 75))
  have HT0 := Lib.hid (h.no HK0.out)
  have hgl := h.lt
  have HFIT := Lib.hid hfit
  have hn : 0 ≤ x1 := hfit.1
  clear h hfit
  obtain ⟨w0, hw0⟩ : ∃ w0, w0 = w.alloc (.cells #[.int .i64 x0, .int .u64 x1, .int .u64 x2, .int .i64 x3, .int .u64 x4] 75) := ⟨_, rfl⟩
  rw [← hw0] at HK0 HR0 HT0
  have HW := Lib.hid hw0
  clear hw0
  obtain ⟨bb, hbb⟩ : ∃ b, b = fineB ⟨x0, x1, x2, x3, x4⟩ := ⟨_, rfl⟩
  have HB := Lib.hid hbb
  have HF := Lib.hid (isRow_any x0 x1 x2 x3 x4 w0)
  rw [← hbb] at HF
  clear hbb
  go_enter Try.func41, Try.ntmps41
  go_upto_region 1 with fail
  rw [← HW.out]
  obtain ⟨c0, c1, c2, c3, c4⟩ := cells5r (v := ⟨x0, x1, x2, x3, x4⟩) HR0.out
  go_wp2_with fail
  refine HF.out.mono ?_
  rintro e w1 ⟨rfl, hk⟩
  have HK1 := Lib.hid (HK0.out.trans hk (fun _ _ h => h))
  have HR1 := Lib.hid (hk.heap (fun h => h) HR0.out)
  have HT1 := Lib.hid (HT0.out.no hk)
  clear hk c0 c1 c2 c3 c4
  cases bb
  · have HX : Hid (setX L ⟨x0, x1, x2, x3, x4⟩ = 1) := Lib.hid (by unfold setX; rw [if_pos (by have := HB.out; simpa [fineB] using this)])
    go_wp2
    go_ret
    rw [HX.out, show setL L ⟨x0, x1, x2, x3, x4⟩ = L by unfold setL; rw [HX.out, if_neg (by decide)]]
    exact ⟨rfl, HT1.out, HK1.out.mono (fun _ _ h => h.elim)⟩
  · have HFI : Hid (FineR ⟨x0, x1, x2, x3, x4⟩) := Lib.hid (of_decide_eq_true HB.out.symm)
    obtain ⟨j, hj⟩ : ∃ j, j = judR L x0 x1 := ⟨_, rfl⟩
    have HJ := Lib.hid hj
    have HJU := Lib.hid (SJudge_any w1 g x0 x1 L HT1.out hn)
    rw [← hj] at HJU
    clear hj
    obtain ⟨c0, c1, c2, c3, c4⟩ := cells5r (v := ⟨x0, x1, x2, x3, x4⟩) HR1.out
    go_wp2_with fail
    refine HJU.out.mono ?_
    rintro e w2 ⟨rfl, rfl⟩
    by_cases h0 : j = 0
    · have HX : Hid (setX L ⟨x0, x1, x2, x3, x4⟩ = 0) := Lib.hid (by unfold setX; rw [if_neg (by simpa using HFI.out), if_neg (by rw [← HJ.out]; simpa using h0)])
      have hb0 : (j != 0) = false := by simpa using h0
      obtain ⟨i, hi⟩ : ∃ i : Nat, x0 = (i : Int) + 1 := ⟨(x0 - 1).toNat, by have := HFI.out; unfold FineR at this; simp only at this; omega⟩
      have hi6 : i < 6 := by have := HFI.out; unfold FineR at this; simp only at this; omega
      have h1 : (0 : Int) ≤ (i : Int) := by omega
      have h2 : (i : Int) < 6 := by omega
      have hq : ¬ g = w.heap.size := by omega
      have hq2 : ¬ w.heap.size = g := by omega
      subst hi
      obtain ⟨d0, d1, d2, d3, d4⟩ := HT1.out.at_ i hi6
      obtain ⟨⟨y0, y1, y2, y3, y4⟩, hy⟩ : ∃ y, y = (atR L ((i : Int) + 1)).getD rw0 := ⟨_, rfl⟩
      rw [← hy] at d0 d1 d2 d3 d4
      have z0 := HT1.out.f
      clear h0 hy
      go_wp2_with fail
      go_region
      all_goals
        go_wp2
        go_ret
        have hT := HT1.out.set _ HFI.out HFIT.out i rfl
        have hK := (HK1.out.mono (T := fun k => k = g) (fun _ _ h => h.elim)).five16 (.inl rfl) (i * 5) ⟨(i : Int) + 1, x1, x2, x3, x4⟩
        rw [HX.out, show setL L ⟨(i : Int) + 1, x1, x2, x3, x4⟩ = putR L ⟨(i : Int) + 1, x1, x2, x3, x4⟩ by unfold setL; rw [HX.out, if_pos rfl]]
        exact ⟨rfl, hT.no ((Kept.refl NoB _).drew), hK.drew⟩
    · have HX : Hid (setX L ⟨x0, x1, x2, x3, x4⟩ = 12) := Lib.hid (by unfold setX; rw [if_neg (by simpa using HFI.out), if_pos (by rw [← HJ.out]; exact h0)])
      have hb0 : (j != 0) = true := by simpa using h0
      clear h0
      go_wp2
      go_ret
      rw [HX.out, show setL L ⟨x0, x1, x2, x3, x4⟩ = L by unfold setL; rw [HX.out, if_neg (by decide)]]
      exact ⟨rfl, HT1.out, HK1.out.mono (fun _ _ h => h.elim)⟩
end Go.Proofs.Ytnmclhgljpcjcaa
