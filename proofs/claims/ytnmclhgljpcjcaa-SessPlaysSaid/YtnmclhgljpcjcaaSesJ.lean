/-
  The walk of SessRises.
-/
import Derived.Test.YtnmclhgljpcjcaaSesO
import Derived.Test.YtnmclhgljpcjcaaSesI
namespace Go.Proofs.Ytnmclhgljpcjcaa
open Go.RowKit
set_option linter.unusedVariables false

theorem setX_zero {L : List Rw} {r : Rw} (h : setX L r = 0) : FineR r ∧ judR L r.s r.b = 0 := by
  unfold setX at h
  split at h
  · cases h
  · rename_i hf
    split at h
    · cases h
    · rename_i hj
      exact ⟨by simpa using hf, by simpa using hj⟩
theorem setX_eq (L : List Rw) (r : Rw) : setX L r = 0 ↔ FineR r ∧ judR L r.s r.b = 0 := by
  refine ⟨setX_zero, fun ⟨h1, h2⟩ => ?_⟩
  unfold setX
  rw [if_neg (by simpa using h1), if_neg (by simpa using h2)]
theorem setX_pos (L : List Rw) (r : Rw) : setX L r = 0 ∨ setX L r = 1 ∨ setX L r = 12 := by
  unfold setX
  split
  · simp
  · split
    · simp
    · simp
theorem judR_fresh {L : List Rw} {s n : Int} (h : judR L s n = 0) : numR L s < n := by
  unfold judR at h
  split at h
  · cases h
  · split at h
    · assumption
    · split at h <;> cases h
def SrRel (w : World) (g n : Nat) (iv : Value) (wr : World) : Prop := ∃ (k : Nat) (L : List Rw), k ≤ n ∧ k ≤ 40 ∧ iv = .int .i64 k ∧ TabAt wr g L ∧ Kept NoB w wr
set_option maxRecDepth 100000 in
set_option maxHeartbeats 2000000 in
theorem SessRises_any (w : World) (v : Value) (n : Nat) (it : Nat → Rw) (h : RwsAt w v n it) : Calls Try.prog 9 #[v] w fun e w' => e = .returned (.bool true) ∧ Kept NoB w w' := by
  obtain ⟨va, vc, rfl, hn63, hit⟩ := h
  have HIT := Lib.hid hit
  have hnn : (n : Int) ≤ 9223372036854775807 := by omega
  clear hit hn63
  go_enter Try.func9, Try.ntmps9
  go_wp2_with fail
  refine (SNew_any w).mono ?_
  rintro e w1 ⟨rfl, ht, hk⟩
  have HT := Lib.hid ht
  have HK := Lib.hid hk
  clear ht hk
  go_wp2_with fail
  go_loopw [4] (SrRel w w.heap.size n) (fun i _ => n - (RowKit.intOf i).toNat)
  case atStart => exact ⟨0, [], Nat.zero_le _, by omega, rfl, HT.out, HK.out⟩
  case round =>
    obtain ⟨k, L, hk, hk40, rfl, ht, hK⟩ := hrel
    have hk0 : (0 : Int) ≤ (k : Int) := by omega
    have HT := Lib.hid ht
    have HK := Lib.hid hK
    clear ht hK
    by_cases hlt : k < n ∧ k < 40
    · obtain ⟨hlt, h40⟩ := hlt
      have hk1 : (k : Int) < (n : Int) := by omega
      have hk41 : (k : Int) < 40 := by omega
      obtain ⟨b, o, rfl, hb, hat⟩ := HIT.out (by omega)
      obtain ⟨hE0, hfit⟩ := hat k hlt
      obtain ⟨y, hy⟩ : ∃ y, y = it k := ⟨_, rfl⟩
      rw [← hy] at hE0 hfit
      have HE : Hid (∀ w', Kept NoB w w' → RwAt w' b (o + k * 5) y) := Lib.hid (fun w' hk => hE0.kept hk (fun h => h))
      have HFIT := Lib.hid hfit
      clear hat hy hE0 hfit
      obtain ⟨x0, x1, x2, x3, x4⟩ := y
      have hx1 : 0 ≤ x1 := HFIT.out.1
      -- what stands ahead of it
      obtain ⟨⟨y0, y1, y2, y3, y4⟩, hv⟩ : ∃ v, v = (atR L x0).getD rw0 := ⟨_, rfl⟩
      have HG := Lib.hid (SGet_any wr w.heap.size x0 L HT.out)
      obtain ⟨hb0, hbb⟩ : ∃ b, b = hasB L x0 := ⟨_, rfl⟩
      have HY : Hid (y1 = numR L x0) := Lib.hid (by unfold numR; rw [← hv])
      have HV := Lib.hid hv
      rw [← hv, ← hbb, show rvv ⟨y0, y1, y2, y3, y4⟩ = .agg #[.int .i64 y0, .int .u64 y1, .int .u64 y2, .int .i64 y3, .int .u64 y4] from rfl] at HG
      clear hv hbb
      obtain ⟨e0, e1, e2, e3, e4⟩ := HE.out wr HK.out
      simp only at e0 e1 e2 e3 e4
      go_wp2_with fail
      refine HG.out.mono ?_
      rintro e w2 ⟨rfl, hk2⟩
      have HK2 := Lib.hid ((HK.out.trans hk2 (fun _ _ h => h)).alloc (.cells #[.int .i64 y0, .int .u64 y1, .int .u64 y2, .int .i64 y3, .int .u64 y4] 75))
      have HT2 := Lib.hid ((HT.out.no hk2).no ((Kept.refl NoB w2).alloc (.cells #[.int .i64 y0, .int .u64 y1, .int .u64 y2, .int .i64 y3, .int .u64 y4] 75)))
      have HB2 := Lib.hid (heap_alloc_new w2 (.cells #[.int .i64 y0, .int .u64 y1, .int .u64 y2, .int .i64 y3, .int .u64 y4] 75))
      have hs2 : w.heap.size < w2.heap.size := by have := HT.out.lt; have := hk2.size; omega
      clear hk2 e0 e1 e2 e3 e4
      go_wp2_with fail
      generalize hW : w2.alloc (.cells #[.int .i64 y0, .int .u64 y1, .int .u64 y2, .int .i64 y3, .int .u64 y4] 75) = w3 at HK2 HT2 HB2 ⊢
      clear hW
      obtain ⟨e0, e1, e2, e3, e4⟩ := HE.out w3 HK2.out
      simp only at e0 e1 e2 e3 e4
      obtain ⟨j, hj⟩ : ∃ j, j = judR L x0 x1 := ⟨_, rfl⟩
      have HJ := Lib.hid hj
      have HJU := Lib.hid (fun q => SJudge_any (w3.drewN q) w.heap.size x0 x1 L (HT2.out.no ((Kept.refl NoB w3).drewN q)) hx1)
      rw [← hj] at HJU
      clear hj
      go_quiet ((go_at_call 47; exact Calls.quiet_of_same ((HJU.out _).mono (by rintro e w' ⟨rfl, rfl⟩; exact ⟨rfl, rfl⟩))))
      have HK4 := Lib.hid (HK2.out.drewN nq)
      have HT4 := Lib.hid (HT2.out.no ((Kept.refl NoB w3).drewN nq))
      have HB4 := Lib.hid (((Kept.refl NoB w3).drewN nq).heap (fun h => h) HB2.out)
      generalize hW : w3.drewN nq = w4 at HK4 HT4 HB4 ⊢
      clear hW e0 e1 e2 e3 e4
      obtain ⟨e0, e1, e2, e3, e4⟩ := HE.out w4 HK4.out
      simp only at e0 e1 e2 e3 e4
      go_wp2_with fail
      refine (ours16 _ _ _ _ _ _).mono ?_
      rintro e w5 ⟨rfl, hk5⟩
      have HK5 := Lib.hid (HK4.out.trans hk5 (fun _ _ h => h))
      have HT5 := Lib.hid (HT4.out.no hk5)
      have HB5 := Lib.hid (hk5.heap (fun h => h) HB4.out)
      clear hk5 e0 e1 e2 e3 e4
      go_wp2_with fail
      obtain ⟨x, hx⟩ : ∃ x, x = setX L ⟨x0, x1, x2, x3, x4⟩ := ⟨_, rfl⟩
      have HX := Lib.hid hx
      have HS := Lib.hid (SSet_any w5 w.heap.size x0 x1 x2 x3 x4 L HT5.out HFIT.out)
      rw [← hx] at HS
      clear hx
      refine HS.out.mono ?_
      rintro e w6 ⟨rfl, ht6, hk6⟩
      obtain ⟨L', hL'⟩ : ∃ l, l = setL L ⟨x0, x1, x2, x3, x4⟩ := ⟨_, rfl⟩
      rw [← hL'] at ht6
      have HL := Lib.hid hL'
      have HT6 := Lib.hid ht6
      have HK6 := Lib.hid (HK5.out.trans (T := fun k => k = w.heap.size) hk6 (fun i hi h => by have h' : i = w.heap.size := h; omega))
      have HB6 := Lib.hid (hk6.heap (fun h : w2.heap.size = w.heap.size => by omega) HB5.out)
      clear ht6 hk6 hL'
      obtain ⟨e0, e1, e2, e3, e4⟩ := HE.out w6 HK6.out
      simp only at e0 e1 e2 e3 e4
      obtain ⟨⟨z0, z1, z2, z3, z4⟩, hv⟩ : ∃ v, v = (atR L' x0).getD rw0 := ⟨_, rfl⟩
      have HG2 := Lib.hid (SGet_any w6 w.heap.size x0 L' HT6.out)
      obtain ⟨hb2, hbb⟩ : ∃ b, b = hasB L' x0 := ⟨_, rfl⟩
      have HZ := Lib.hid hv
      rw [← hv, ← hbb, show rvv ⟨z0, z1, z2, z3, z4⟩ = .agg #[.int .i64 z0, .int .u64 z1, .int .u64 z2, .int .i64 z3, .int .u64 z4] from rfl] at HG2
      clear hv hbb
      go_wp2_with fail
      refine HG2.out.mono ?_
      rintro e w7 ⟨rfl, hk7⟩
      have HK7 := Lib.hid ((HK6.out.trans hk7 (fun _ _ h => h)).alloc (.cells #[.int .i64 z0, .int .u64 z1, .int .u64 z2, .int .i64 z3, .int .u64 z4] 75))
      have HT7 := Lib.hid ((HT6.out.no hk7).no ((Kept.refl NoB w7).alloc (.cells #[.int .i64 z0, .int .u64 z1, .int .u64 z2, .int .i64 z3, .int .u64 z4] 75)))
      have HB7 := Lib.hid (blkR_alloc (hk7.heap (fun h => h) HB6.out) (.cells #[.int .i64 z0, .int .u64 z1, .int .u64 z2, .int .i64 z3, .int .u64 z4] 75))
      have HC7 := Lib.hid (heap_alloc_new w7 (.cells #[.int .i64 z0, .int .u64 z1, .int .u64 z2, .int .i64 z3, .int .u64 z4] 75))
      clear hk7 e0 e1 e2 e3 e4
      obtain ⟨W, hW⟩ : ∃ W, W = w7.alloc (.cells #[.int .i64 z0, .int .u64 z1, .int .u64 z2, .int .i64 z3, .int .u64 z4] 75) := ⟨_, rfl⟩
      have HW := Lib.hid hW
      rw [← hW] at HK7 HT7 HB7 HC7
      clear hW
      obtain ⟨e0, e1, e2, e3, e4⟩ := HE.out W HK7.out
      simp only at e0 e1 e2 e3 e4
      obtain ⟨b0, b1, b2, b3, b4⟩ := cells5r (v := ⟨y0, y1, y2, y3, y4⟩) HB7.out
      obtain ⟨c0, c1, c2, c3, c4⟩ := cells5r (v := ⟨z0, z1, z2, z3, z4⟩) HC7.out
      simp only at b0 b1 b2 b3 b4 c0 c1 c2 c3 c4
      go_upto_region 9 with fail
      rw [← HW.out]
      obtain ⟨f, hf⟩ : ∃ f, f = decide (FineR ⟨x0, x1, x2, x3, x4⟩) := ⟨_, rfl⟩
      have HF := Lib.hid hf
      have HFI := Lib.hid (RFine_any x0 x1 x2 x3 x4 W)
      rw [← hf] at HFI
      clear hf
      by_cases hx0 : x = 0
      · have hff : FineR ⟨x0, x1, x2, x3, x4⟩ ∧ j = 0 := by
          have := setX_zero (HX.out.symm.trans hx0)
          exact ⟨this.1, by rw [HJ.out]; exact this.2⟩
        have hlt' : y1 < x1 := by
          have := judR_fresh (L := L) (s := x0) (n := x1) (by rw [← HJ.out]; exact hff.2)
          have := HY.out
          omega
        have hLp : L' = putR L ⟨x0, x1, x2, x3, x4⟩ := by rw [HL.out]; unfold setL; rw [← HX.out, if_pos hx0]
        have hz : (⟨z0, z1, z2, z3, z4⟩ : Rw) = ⟨x0, x1, x2, x3, x4⟩ := by
          rw [HZ.out, hLp, show x0 = (⟨x0, x1, x2, x3, x4⟩ : Rw).s from rfl, atR_put_same]
          rfl
        injection hz with q0 q1 q2 q3 q4
        subst q0 q1 q2 q3 q4
        have hf1 : f = true := by rw [HF.out]; exact decide_eq_true hff.1
        obtain ⟨_, hj0⟩ := hff
        subst hx0 hj0 hf1
        have hd : decide (z1 < y1) = false := decide_eq_false (by omega)
        have HLT := Lib.hid hlt'
        clear hlt' hLp
        go_wp2_with fail
        refine HFI.out.mono ?_
        rintro e w8 ⟨rfl, hk8⟩
        have HK8 := Lib.hid (HK7.out.trans hk8 (fun _ _ h => h))
        have HT8 := Lib.hid (HT7.out.no hk8)
        clear hk8
        go_wp2
        exact ⟨⟨k + 1, L', by omega, by omega, by go_num, HT8.out, HK8.out⟩, by simp [RowKit.intOf]; omega⟩
      · have hLp : L' = L := by rw [HL.out]; unfold setL; rw [← HX.out, if_neg hx0]
        have hz : (⟨z0, z1, z2, z3, z4⟩ : Rw) = ⟨y0, y1, y2, y3, y4⟩ := by rw [HZ.out, hLp, ← HV.out]
        injection hz with q0 q1 q2 q3 q4
        subst q0 q1 q2 q3 q4
        have hd : decide (z1 < z1) = false := decide_eq_false (by omega)
        have hxb : (x == 0) = false := by simpa using hx0
        have hxn : (x != 0) = true := by simpa using hx0
        have n0 : (z0 != z0) = false := by simp
        have n1 : (z1 != z1) = false := by simp
        have n2 : (z2 != z2) = false := by simp
        have n3 : (z3 != z3) = false := by simp
        have n4 : (z4 != z4) = false := by simp
        by_cases hj0 : j = 0
        · have hff : f = false := by
            rw [HF.out]
            refine decide_eq_false (fun h => hx0 ?_)
            rw [HX.out, setX_eq]
            exact ⟨h, by rw [← hj0, HJ.out]⟩
          subst hj0 hff
          clear hx0 hLp
          go_wp2_with fail
          refine HFI.out.mono ?_
          rintro e w8 ⟨rfl, hk8⟩
          have HK8 := Lib.hid (HK7.out.trans hk8 (fun _ _ h => h))
          have HT8 := Lib.hid (HT7.out.no hk8)
          have HB8 := Lib.hid (hk8.heap (fun h => h) HB7.out)
          have HC8 := Lib.hid (hk8.heap (fun h => h) HC7.out)
          clear hk8 b0 b1 b2 b3 b4 c0 c1 c2 c3 c4 e0 e1 e2 e3 e4
          obtain ⟨b0, b1, b2, b3, b4⟩ := cells5r (v := ⟨z0, z1, z2, z3, z4⟩) HB8.out
          obtain ⟨c0, c1, c2, c3, c4⟩ := cells5r (v := ⟨z0, z1, z2, z3, z4⟩) HC8.out
          simp only at b0 b1 b2 b3 b4 c0 c1 c2 c3 c4
          go_wp2
          exact ⟨⟨k + 1, L', by omega, by omega, by go_num, HT8.out, HK8.out⟩, by simp [RowKit.intOf]; omega⟩
        · have hjb : (j == 0) = false := by simpa using hj0
          clear hx0 hLp hj0
          go_wp2
          exact ⟨⟨k + 1, L', by omega, by omega, by go_num, HT7.out, HK7.out⟩, by simp [RowKit.intOf]; omega⟩
    · by_cases hlt2 : k < n
      · obtain rfl : k = 40 := by omega
        clear hlt
        have h1 : ((40 : Nat) : Int) < (n : Int) := by omega
        have HAW := Lib.hid (awake16 wr)
        go_wp2_with fail
        refine HAW.out.mono ?_
        rintro e w8 ⟨rfl, hk8⟩
        have HK8 := Lib.hid (HK.out.trans hk8 (fun _ _ h => h))
        clear hk8
        go_wp2
        go_ret
        exact ⟨rfl, HK8.out⟩
      · obtain rfl : k = n := by omega
        clear hlt
        have HAW := Lib.hid (awake16 wr)
        go_wp2_with fail
        refine HAW.out.mono ?_
        rintro e w8 ⟨rfl, hk8⟩
        have HK8 := Lib.hid (HK.out.trans hk8 (fun _ _ h => h))
        clear hk8
        go_wp2
        go_ret
        exact ⟨rfl, HK8.out⟩
end Go.Proofs.Ytnmclhgljpcjcaa
