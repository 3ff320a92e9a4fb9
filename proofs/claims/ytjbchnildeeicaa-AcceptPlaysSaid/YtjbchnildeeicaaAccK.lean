/-
  The chapter's Accept.
-/
import Derived.Test.YtjbchnildeeicaaAccJ
namespace Go.Proofs.Ytjbchnildeeicaa
open Go.RowKit
set_option linter.unusedVariables false

theorem cc4 {w : World} {b : Nat} {x0 x1 x2 x3 : Value} (h : w.heap[b]? = some (.cells #[x0, x1, x2, x3] 32 (0, 0))) :
    w.cell? ⟨b, 0, none⟩ = some x0 ∧ w.cell? ⟨b, 1, none⟩ = some x1 ∧ w.cell? ⟨b, 2, none⟩ = some x2 ∧ w.cell? ⟨b, 3, none⟩ = some x3 :=
  ⟨cell_of_row _ _ 0 _ _ _ h, cell_of_row _ _ 1 _ _ _ h, cell_of_row _ _ 2 _ _ _ h, cell_of_row _ _ 3 _ _ _ h⟩
/-- Blocks that came in, and new ones. -/
def Fw (F : Nat → Prop) (w : World) : Nat → Prop := fun k => F k ∨ w.heap.size ≤ k
set_option maxRecDepth 100000 in
set_option maxHeartbeats 2000000 in
theorem RAcc_any (w : World) (p b s k ch ep nd x : Int) (v : Value) (L : List Vt) (F : Nat → Prop) (h : VRd w F v L) (hl : L.length ≤ 10000) (h0 : 0 ≤ b) (h1 : b ≤ 18446744073709551615) (hp0 : 0 ≤ ep) (hp1 : ep ≤ 18446744073709551615) (hx : Chk k ch ep nd x) :
    Calls Try.prog 47 #[.agg #[.int .u64 p, v], .int .u64 b, .int .i64 s, .agg #[.int .i64 k, .int .i64 ch, .int .u64 ep, .int .i64 nd]] w fun e w' =>
      ∃ u, e = .returned (.tuple #[.agg #[.int .u64 (accP p b s x), u], .int .i64 (accX p b s x)]) ∧ VRd w' (Fw F w) u (accL p b s x L ⟨s, b, k, ch, ep, nd⟩) ∧ Kept NoB w w' := by
  obtain ⟨a, c, rfl⟩ := h.form
  have HV := Lib.hid h
  have HC : Hid (∀ w, Calls Try.prog 64 #[.agg #[.int .i64 k, .int .i64 ch, .int .u64 ep, .int .i64 nd]] w fun e w' => e = .returned (.int .i64 x) ∧ Kept NoB w w') :=
    Lib.hid (fun w => (RCheck_any k ch ep nd w hp0).mono (by rintro e w' ⟨y, hy, rfl, hk⟩; exact ⟨by rw [hy.one hx], hk⟩))
  have hr1 := heap_alloc_new w (.cells #[.int .u64 p, .slice a L.length c] 28)
  obtain ⟨w1, hw1⟩ : ∃ w1, w1 = w.alloc (.cells #[.int .u64 p, .slice a L.length c] 28) := ⟨_, rfl⟩
  have hz1 : w1.heap.size = w.heap.size + 1 := by rw [hw1]; simp
  have hk1 : Kept NoB w w1 := by rw [hw1]; exact (Kept.refl _ _).alloc _
  rw [← hw1] at hr1
  have hr2 := heap_alloc_new w1 (.cells #[.int .i64 k, .int .i64 ch, .int .u64 ep, .int .i64 nd] 32)
  have hs2 := blkA_alloc hr1 (.cells #[.int .i64 k, .int .i64 ch, .int .u64 ep, .int .i64 nd] 32)
  obtain ⟨w2, hw2⟩ : ∃ w2, w2 = w1.alloc (.cells #[.int .i64 k, .int .i64 ch, .int .u64 ep, .int .i64 nd] 32) := ⟨_, rfl⟩
  have hz2 : w2.heap.size = w.heap.size + 2 := by rw [hw2]; simp [hz1]
  have hk2 : Kept NoB w w2 := by rw [hw2]; exact hk1.alloc _
  rw [← hw2] at hr2 hs2
  rw [hz1] at hr2
  have HR3 := Lib.hid (heap_alloc_new w2 (.cells #[.int .u64 0, .slice none 0 0] 28))
  have HS3 := Lib.hid (blkA_alloc hs2 (.cells #[.int .u64 0, .slice none 0 0] 28))
  have HT3 := Lib.hid (blkA_alloc hr2 (.cells #[.int .u64 0, .slice none 0 0] 28))
  obtain ⟨w3, hw3⟩ : ∃ w3, w3 = w2.alloc (.cells #[.int .u64 0, .slice none 0 0] 28) := ⟨_, rfl⟩
  have hz3 : w3.heap.size = w.heap.size + 3 := by rw [hw3]; simp [hz2]
  have hk3 : Kept NoB w w3 := by rw [hw3]; exact hk2.alloc _
  rw [← hw3] at HR3 HS3 HT3
  rw [hz2] at HR3
  have HZ := Lib.hid hz3
  have HK := Lib.hid hk3
  have HW1 := Lib.hid hw1
  have HW2 := Lib.hid hw2
  have HW3 := Lib.hid hw3
  have HZ1 := Lib.hid hz1
  clear h hr1 hw1 hz1 hk1 hr2 hs2 hw2 hz2 hk2 hw3 hz3 hk3 hx
  have HXX : Hid (∀ y, accX p b s x = y → y ≠ 0 → accP p b s x = p ∧ accL p b s x L ⟨s, b, k, ch, ep, nd⟩ = L) := Lib.hid (fun y hy hne => by
    unfold accP accL
    rw [hy, if_neg hne, if_neg hne]
    exact ⟨rfl, rfl⟩)
  have HVF : Hid (∀ w', Kept NoB w w' → VRd w' (Fw F w) (.slice a L.length c) L) := Lib.hid (fun w' hk => (HV.out.no hk).mono (fun i _ hi => .inl hi))
  by_cases hB : IsBal b
  · have HM := Lib.hid (rIs_yes b w3 h0 h1 hB)
    by_cases hr : s < 0 ∨ 512 ≤ s
    · have hX : accX p b s x = 1 := by unfold accX; rw [if_pos (.inr hr)]
      obtain ⟨hP, hL⟩ := HXX.out _ hX (by decide)
      rw [hX, hP, hL]
      clear hX hP hL
      clear hB
      by_cases hs0 : s < 0
      · clear hr
        go_enter Try.func47, Try.ntmps47
        go_wp2_with fail
        rw [← HW1.out, ← HW2.out, ← HW3.out]
        refine HM.out.mono ?_
        rintro e w' ⟨rfl, rfl⟩
        obtain ⟨c0, c1, g0, g1⟩ := ac2 HS3.out
        obtain ⟨d0, d1, e0, e1⟩ := ac2 HR3.out
        obtain ⟨t0, t1, t2, t3⟩ := cc4 HT3.out
        go_wp2
        have HF := blkA_set (blkA_set HR3.out 0 (.int .u64 p)) 1 (.slice a L.length c)
        have HKE := (HK.out.setCell (p := ⟨w.heap.size + 2, 0, none⟩) (.inr (Nat.le_add_right _ _)) (.int .u64 p)).setCell (p := ⟨w.heap.size + 2, 1, none⟩) (.inr (Nat.le_add_right _ _)) (.slice a L.length c)
        clear c0 c1 g0 g1 d0 d1 e0 e1 t0 t1 t2 t3
        obtain ⟨r0, r1, _, _⟩ := ac2 (x := .int .u64 p) (y := .slice a L.length c) HF
        clear HF
        generalize hW : World.setCell _ _ _ = W at r0 r1 HKE ⊢
        exact bodyPost_ret (v := .tuple #[.agg #[.int .u64 p, .slice a L.length c], .int .i64 1]) (by simp [results, Try.results47, go_sem, r0, r1]) rfl ⟨_, rfl, HVF.out _ HKE, HKE⟩
      · have hs1 : 0 ≤ s := by omega
        have hs2 : 512 ≤ s := by omega
        clear hr hs0
        go_enter Try.func47, Try.ntmps47
        go_wp2_with fail
        rw [← HW1.out, ← HW2.out, ← HW3.out]
        refine HM.out.mono ?_
        rintro e w' ⟨rfl, rfl⟩
        obtain ⟨c0, c1, g0, g1⟩ := ac2 HS3.out
        obtain ⟨d0, d1, e0, e1⟩ := ac2 HR3.out
        obtain ⟨t0, t1, t2, t3⟩ := cc4 HT3.out
        go_wp2
        have HF := blkA_set (blkA_set HR3.out 0 (.int .u64 p)) 1 (.slice a L.length c)
        have HKE := (HK.out.setCell (p := ⟨w.heap.size + 2, 0, none⟩) (.inr (Nat.le_add_right _ _)) (.int .u64 p)).setCell (p := ⟨w.heap.size + 2, 1, none⟩) (.inr (Nat.le_add_right _ _)) (.slice a L.length c)
        clear c0 c1 g0 g1 d0 d1 e0 e1 t0 t1 t2 t3
        obtain ⟨r0, r1, _, _⟩ := ac2 (x := .int .u64 p) (y := .slice a L.length c) HF
        clear HF
        generalize hW : World.setCell _ _ _ = W at r0 r1 HKE ⊢
        exact bodyPost_ret (v := .tuple #[.agg #[.int .u64 p, .slice a L.length c], .int .i64 1]) (by simp [results, Try.results47, go_sem, r0, r1]) rfl ⟨_, rfl, HVF.out _ HKE, HKE⟩
    · have hs1 : 0 ≤ s := by omega
      have hs2 : s < 512 := by omega
      have hX : accX p b s x = if x ≠ 0 then x else if b < p then 10 else 0 := by
        unfold accX canX
        rw [if_neg (by rintro (h | h)
                       · exact h hB
                       · exact hr h), if_neg (show ¬ ¬ IsBal b from fun h => h hB)]
      have HX := Lib.hid hX
      clear hX hr hB
      have hd : decide (512 ≤ s) = false := decide_eq_false (by omega)
      by_cases hx0 : x = 0
      · subst hx0
        have hX := HX.out
        rw [if_neg (by decide)] at hX
        have HX2 := Lib.hid hX
        clear hX HX
        by_cases hp : b < p
        · have hX : accX p b s 0 = 10 := by rw [HX2.out, if_pos hp]
          obtain ⟨hP, hL⟩ := HXX.out _ hX (by decide)
          rw [hX, hP, hL]
          clear hX hP hL
          go_enter Try.func47, Try.ntmps47
          go_wp2_with fail
          rw [← HW1.out, ← HW2.out, ← HW3.out]
          refine HM.out.mono ?_
          rintro e w' ⟨rfl, rfl⟩
          obtain ⟨c0, c1, g0, g1⟩ := ac2 HS3.out
          obtain ⟨d0, d1, e0, e1⟩ := ac2 HR3.out
          obtain ⟨t0, t1, t2, t3⟩ := cc4 HT3.out
          go_wp2_with fail
          refine (HC.out _).mono ?_
          rintro e w4 ⟨rfl, hk⟩
          have HR4 := Lib.hid (hk.heap (fun h => h) HR3.out)
          have HS4 := Lib.hid (hk.heap (fun h => h) HS3.out)
          have HT4 := Lib.hid (hk.heap (fun h => h) HT3.out)
          have HK4 := Lib.hid (HK.out.trans hk (fun _ _ h => h))
          have HKW := Lib.hid hk
          clear hk c0 c1 g0 g1 d0 d1 e0 e1 t0 t1 t2 t3
          obtain ⟨c0, c1, g0, g1⟩ := ac2 HS4.out
          obtain ⟨d0, d1, e0, e1⟩ := ac2 HR4.out
          obtain ⟨t0, t1, t2, t3⟩ := cc4 HT4.out
          go_wp2
          have HF := blkA_set (blkA_set HR4.out 0 (.int .u64 p)) 1 (.slice a L.length c)
          have HKE := (HK4.out.setCell (p := ⟨w.heap.size + 2, 0, none⟩) (.inr (Nat.le_add_right _ _)) (.int .u64 p)).setCell (p := ⟨w.heap.size + 2, 1, none⟩) (.inr (Nat.le_add_right _ _)) (.slice a L.length c)
          clear c0 c1 g0 g1 d0 d1 e0 e1 t0 t1 t2 t3
          obtain ⟨r0, r1, _, _⟩ := ac2 (x := .int .u64 p) (y := .slice a L.length c) HF
          clear HF
          generalize hW : World.setCell _ _ _ = W at r0 r1 HKE ⊢
          exact bodyPost_ret (v := .tuple #[.agg #[.int .u64 p, .slice a L.length c], .int .i64 10]) (by simp [results, Try.results47, go_sem, r0, r1]) rfl ⟨_, rfl, HVF.out _ HKE, HKE⟩
        · have hX : accX p b s 0 = 0 := by rw [HX2.out, if_neg hp]
          have hP : accP p b s 0 = b := by unfold accP; rw [if_pos hX]
          have hL : accL p b s 0 L ⟨s, b, k, ch, ep, nd⟩ = putV L ⟨s, b, k, ch, ep, nd⟩ := by unfold accL; rw [if_pos hX]
          rw [hX, hP, hL]
          have hp1 : decide (b < p) = false := decide_eq_false hp
          clear hX hP hL hp
          go_enter Try.func47, Try.ntmps47
          go_wp2_with fail
          rw [← HW1.out, ← HW2.out, ← HW3.out]
          refine HM.out.mono ?_
          rintro e w' ⟨rfl, rfl⟩
          obtain ⟨c0, c1, g0, g1⟩ := ac2 HS3.out
          obtain ⟨d0, d1, e0, e1⟩ := ac2 HR3.out
          obtain ⟨t0, t1, t2, t3⟩ := cc4 HT3.out
          go_wp2_with fail
          refine (HC.out _).mono ?_
          rintro e w4 ⟨rfl, hk⟩
          have HR4 := Lib.hid (hk.heap (fun h => h) HR3.out)
          have HS4 := Lib.hid (hk.heap (fun h => h) HS3.out)
          have HT4 := Lib.hid (hk.heap (fun h => h) HT3.out)
          have HK4 := Lib.hid (HK.out.trans hk (fun _ _ h => h))
          have HKW := Lib.hid hk
          clear hk c0 c1 g0 g1 d0 d1 e0 e1 t0 t1 t2 t3
          obtain ⟨c0, c1, g0, g1⟩ := ac2 HS4.out
          obtain ⟨d0, d1, e0, e1⟩ := ac2 HR4.out
          obtain ⟨t0, t1, t2, t3⟩ := cc4 HT4.out
          go_wp2_with fail
          have HS5 := Lib.hid (blkA_set HS4.out 0 (.int .u64 b))
          have HR5 := Lib.hid (blkA_set_other HR4.out 0 (.int .u64 b) (show w.heap.size ≠ w.heap.size + 2 by omega))
          have HK5 := Lib.hid (HK4.out.setCell (p := ⟨w.heap.size, 0, none⟩) (.inr (Nat.le_refl _)) (.int .u64 b))
          obtain ⟨W, hW⟩ : ∃ W, W = w4.setCell ⟨w.heap.size, 0, none⟩ (.int .u64 b) := ⟨_, rfl⟩
          have HZW : Hid (w.heap.size + 3 ≤ W.heap.size) := Lib.hid (by have := HKW.out.size; have := HZ.out; rw [hW]; simp [World.setCell]; omega)
          rw [← hW] at HS5 HR5 HK5 ⊢
          clear c0 c1 g0 g1 d0 d1 e0 e1 t0 t1 t2 t3 hW
          refine (RPut_any W _ L s b k ch ep nd F (HV.out.no HK5.out) hl).mono ?_
          rintro e w6 ⟨u, rfl, hu, hk⟩
          obtain ⟨ua, uc, rfl⟩ := hu.form
          have HU := Lib.hid hu
          have HR6 := Lib.hid (hk.heap (fun h => h) HR5.out)
          have HS6 := Lib.hid (hk.heap (fun h => h) HS5.out)
          have HK6 := Lib.hid (HK5.out.trans hk (fun _ _ h => h))
          obtain ⟨LP, hLP⟩ : ∃ LP, LP = putV L ⟨s, b, k, ch, ep, nd⟩ := ⟨_, rfl⟩
          rw [← hLP] at HU ⊢
          have HLP := Lib.hid hLP
          clear hk hu hLP
          obtain ⟨c0, c1, g0, g1⟩ := ac2 (x := .int .u64 b) (y := .slice a L.length c) HS6.out
          obtain ⟨d0, d1, e0, e1⟩ := ac2 HR6.out
          have HS7 := Lib.hid (blkA_set HS6.out 1 (.slice ua LP.length uc))
          have HR7 := Lib.hid (blkA_set_other HR6.out 1 (.slice ua LP.length uc) (show w.heap.size ≠ w.heap.size + 2 by omega))
          go_wp2_with fail
          have HF := blkA_set (blkA_set HR7.out 0 (.int .u64 b)) 1 (.slice ua LP.length uc)
          have HKE := ((HK6.out.setCell (p := ⟨w.heap.size, 1, none⟩) (.inr (Nat.le_refl _)) (.slice ua LP.length uc)).setCell (p := ⟨w.heap.size + 2, 0, none⟩) (.inr (Nat.le_add_right _ _)) (.int .u64 b)).setCell (p := ⟨w.heap.size + 2, 1, none⟩) (.inr (Nat.le_add_right _ _)) (.slice ua LP.length uc)
          have HKS := ((((Kept.refl (fun k => k < w.heap.size + 3) w6).setCell (p := ⟨w.heap.size, 1, none⟩) (.inl (by show w.heap.size < _; omega)) (.slice ua LP.length uc)).setCell (p := ⟨w.heap.size + 2, 0, none⟩) (.inl (by show w.heap.size + 2 < _; omega)) (.int .u64 b)).setCell (p := ⟨w.heap.size + 2, 1, none⟩) (.inl (by show w.heap.size + 2 < _; omega)) (.slice ua LP.length uc))
          have HUE : VRd _ (Fw F w) _ _ := (HU.out.kept HKS (fun i hi h => by have := HU.out.base i hi; have := HZW.out; have h : i < w.heap.size + 3 := h; omega)).rd (F := Fw F w) (fun i hi => .inr (by have := HU.out.base i hi; have := HZW.out; omega))
          clear HKS c0 c1 g0 g1 d0 d1 e0 e1
          obtain ⟨r0, r1, _, _⟩ := ac2 (x := .int .u64 b) (y := .slice ua LP.length uc) HF
          clear HF
          generalize hW : World.setCell _ _ _ = W2 at r0 r1 HKE HUE ⊢
          exact bodyPost_ret (v := .tuple #[.agg #[.int .u64 b, .slice ua LP.length uc], .int .i64 0]) (by simp [results, Try.results47, go_sem, r0, r1]) rfl ⟨_, rfl, (by rw [← HLP.out]; exact HUE), HKE⟩
      · have hX := HX.out
        rw [if_pos hx0] at hX
        have hxe : (x == 0) = false := by simpa using hx0
        obtain ⟨hP, hL⟩ := HXX.out _ hX hx0
        rw [hX, hP, hL]
        clear hX hP hL HX
        go_enter Try.func47, Try.ntmps47
        go_wp2_with fail
        rw [← HW1.out, ← HW2.out, ← HW3.out]
        refine HM.out.mono ?_
        rintro e w' ⟨rfl, rfl⟩
        obtain ⟨c0, c1, g0, g1⟩ := ac2 HS3.out
        obtain ⟨d0, d1, e0, e1⟩ := ac2 HR3.out
        obtain ⟨t0, t1, t2, t3⟩ := cc4 HT3.out
        go_wp2_with fail
        refine (HC.out _).mono ?_
        rintro e w4 ⟨rfl, hk⟩
        have HR4 := Lib.hid (hk.heap (fun h => h) HR3.out)
        have HS4 := Lib.hid (hk.heap (fun h => h) HS3.out)
        have HT4 := Lib.hid (hk.heap (fun h => h) HT3.out)
        have HK4 := Lib.hid (HK.out.trans hk (fun _ _ h => h))
        have HKW := Lib.hid hk
        clear hk c0 c1 g0 g1 d0 d1 e0 e1 t0 t1 t2 t3
        obtain ⟨c0, c1, g0, g1⟩ := ac2 HS4.out
        obtain ⟨d0, d1, e0, e1⟩ := ac2 HR4.out
        obtain ⟨t0, t1, t2, t3⟩ := cc4 HT4.out
        go_wp2
        have HF := blkA_set (blkA_set HR4.out 0 (.int .u64 p)) 1 (.slice a L.length c)
        have HKE := (HK4.out.setCell (p := ⟨w.heap.size + 2, 0, none⟩) (.inr (Nat.le_add_right _ _)) (.int .u64 p)).setCell (p := ⟨w.heap.size + 2, 1, none⟩) (.inr (Nat.le_add_right _ _)) (.slice a L.length c)
        clear c0 c1 g0 g1 d0 d1 e0 e1 t0 t1 t2 t3
        obtain ⟨r0, r1, _, _⟩ := ac2 (x := .int .u64 p) (y := .slice a L.length c) HF
        clear HF
        generalize hW : World.setCell _ _ _ = W at r0 r1 HKE ⊢
        exact bodyPost_ret (v := .tuple #[.agg #[.int .u64 p, .slice a L.length c], .int .i64 x]) (by simp [results, Try.results47, go_sem, r0, r1]) rfl ⟨_, rfl, HVF.out _ HKE, HKE⟩
  · have HM := Lib.hid (rIs_no b w3 h0 h1 hB)
    have hX : accX p b s x = 1 := by unfold accX; rw [if_pos (.inl hB)]
    obtain ⟨hP, hL⟩ := HXX.out _ hX (by decide)
    rw [hX, hP, hL]
    clear hX hP hL
    clear hB
    go_enter Try.func47, Try.ntmps47
    go_wp2_with fail
    rw [← HW1.out, ← HW2.out, ← HW3.out]
    refine HM.out.mono ?_
    rintro e w' ⟨rfl, rfl⟩
    obtain ⟨c0, c1, g0, g1⟩ := ac2 HS3.out
    obtain ⟨d0, d1, e0, e1⟩ := ac2 HR3.out
    obtain ⟨t0, t1, t2, t3⟩ := cc4 HT3.out
    go_wp2
    have HF := blkA_set (blkA_set HR3.out 0 (.int .u64 p)) 1 (.slice a L.length c)
    have HKE := (HK.out.setCell (p := ⟨w.heap.size + 2, 0, none⟩) (.inr (Nat.le_add_right _ _)) (.int .u64 p)).setCell (p := ⟨w.heap.size + 2, 1, none⟩) (.inr (Nat.le_add_right _ _)) (.slice a L.length c)
    clear c0 c1 g0 g1 d0 d1 e0 e1 t0 t1 t2 t3
    obtain ⟨r0, r1, _, _⟩ := ac2 (x := .int .u64 p) (y := .slice a L.length c) HF
    clear HF
    generalize hW : World.setCell _ _ _ = W at r0 r1 HKE ⊢
    exact bodyPost_ret (v := .tuple #[.agg #[.int .u64 p, .slice a L.length c], .int .i64 1]) (by simp [results, Try.results47, go_sem, r0, r1]) rfl ⟨_, rfl, HVF.out _ HKE, HKE⟩
end Go.Proofs.Ytjbchnildeeicaa
