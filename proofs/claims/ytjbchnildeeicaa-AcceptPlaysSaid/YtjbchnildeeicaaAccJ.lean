/-
  The chapter's Prepare and Accept.
-/
import Derived.Test.YtjbchnildeeicaaAccI
import Derived.Test.YtjbchnildeeicaaAccD
namespace Go.Proofs.Ytjbchnildeeicaa
open Go.RowKit
set_option linter.unusedVariables false

theorem ac2 {w : World} {b : Nat} {x y : Value} (h : w.heap[b]? = some (.cells #[x, y] 28 (0, 0))) :
    w.cell? ⟨b, 0, none⟩ = some x ∧ w.cell? ⟨b, 1, none⟩ = some y ∧ w.frozen? ⟨b, 0, none⟩ = false ∧ w.frozen? ⟨b, 1, none⟩ = false :=
  ⟨cell_of_row _ _ 0 _ _ _ h, cell_of_row _ _ 1 _ _ _ h, blkA_frozen h 0, blkA_frozen h 1⟩
set_option maxRecDepth 100000 in
set_option maxHeartbeats 1000000 in
theorem RPrep_any (w : World) (p b f : Int) (v : Value) (L : List Vt) (F : Nat → Prop) (h : VRd w F v L) (hl : L.length ≤ 10000) (h0 : 0 ≤ b) (h1 : b ≤ 18446744073709551615) :
    Calls Try.prog 46 #[.agg #[.int .u64 p, v], .int .u64 b, .int .i64 f] w fun e w' =>
      ∃ u, e = .returned (.tuple #[.agg #[.int .u64 (prepP p b f), v], u, .int .i64 (prepX p b f)]) ∧ VOwn w.heap.size w' u (prepL p b f L) ∧ Kept NoB w w' := by
  obtain ⟨a, c, rfl⟩ := h.form
  have HK1 := Lib.hid ((Kept.refl NoB w).alloc (.cells #[.int .u64 p, .slice a L.length c] 28))
  have HR1 := Lib.hid (heap_alloc_new w (.cells #[.int .u64 p, .slice a L.length c] 28))
  obtain ⟨w1, hw1⟩ : ∃ w1, w1 = w.alloc (.cells #[.int .u64 p, .slice a L.length c] 28) := ⟨_, rfl⟩
  have hz1 : w1.heap.size = w.heap.size + 1 := by rw [hw1]; simp
  rw [← hw1] at HK1 HR1
  have HK2 := Lib.hid (HK1.out.alloc (.cells #[.int .u64 0, .slice none 0 0] 28))
  have HR2 := Lib.hid (heap_alloc_new w1 (.cells #[.int .u64 0, .slice none 0 0] 28))
  have HS2 := Lib.hid (heap_alloc_old w1 (.cells #[.int .u64 0, .slice none 0 0] 28) (heap_lt HR1.out))
  rw [hz1] at HR2
  rw [HR1.out] at HS2
  obtain ⟨w2, hw2⟩ : ∃ w2, w2 = w1.alloc (.cells #[.int .u64 0, .slice none 0 0] 28) := ⟨_, rfl⟩
  rw [← hw2] at HK2 HR2 HS2
  have HCA : Hid (∀ w', Kept NoB w w' → Calls Try.prog 19 #[.slice a L.length c, .int .i64 f] w' fun e w'' => ∃ u, e = .returned u ∧ VOwn w'.heap.size w'' u (fromV L f) ∧ Kept NoB w' w'') := Lib.hid (fun w' hk => RFrom_any w' (.slice a L.length c) f L F (h.no hk) (by omega))
  have hz2 : w2.heap.size = w.heap.size + 2 := by rw [hw2]; simp [hz1]
  have HZ2 := Lib.hid hz2
  have HZ1 := Lib.hid hz1
  have HW1 := Lib.hid hw1
  have HW2 := Lib.hid hw2
  clear h HK1 HR1 hw1 hw2 hz1 hz2
  unfold prepL prepP
  by_cases hB : IsBal b
  · have HM := Lib.hid (rIs_yes b w2 h0 h1 hB)
    by_cases hr : f < 0 ∨ 512 < f
    · have hX : prepX p b f = 1 := by unfold prepX; rw [if_pos hr]
      rw [hX, if_neg (by decide), if_neg (by decide)]
      clear hX hB
      by_cases hf0 : f < 0
      · clear hr
        go_enter Try.func46, Try.ntmps46
        go_wp2_with fail
        rw [← HW1.out, ← HW2.out]
        refine HM.out.mono ?_
        rintro e w' ⟨rfl, rfl⟩
        obtain ⟨c0, c1, g0, g1⟩ := ac2 HS2.out
        obtain ⟨d0, d1, e0, e1⟩ := ac2 HR2.out
        go_wp2
        have HF := blkA_set (blkA_set HR2.out 0 (.int .u64 p)) 1 (.slice a L.length c)
        have HK3 := (HK2.out.setCell (p := ⟨w.heap.size + 1, 0, none⟩) (.inr (Nat.le_succ _)) (.int .u64 p)).setCell (p := ⟨w.heap.size + 1, 1, none⟩) (.inr (Nat.le_succ _)) (.slice a L.length c)
        clear c0 c1 g0 g1 d0 d1 e0 e1
        obtain ⟨r0, r1, _, _⟩ := ac2 (x := .int .u64 p) (y := .slice a L.length c) HF
        clear HF
        generalize hW : World.setCell _ _ _ = W at r0 r1 HK3 ⊢
        exact bodyPost_ret (v := .tuple #[.agg #[.int .u64 p, .slice a L.length c], .slice none 0 0, .int .i64 1]) (by simp [results, Try.results46, go_sem, r0, r1]) rfl ⟨_, rfl, VOwn.nil _ _, HK3⟩
      · have hf1 : 0 ≤ f := by omega
        have hf2 : 512 < f := by omega
        clear hr hf0
        go_enter Try.func46, Try.ntmps46
        go_wp2_with fail
        rw [← HW1.out, ← HW2.out]
        refine HM.out.mono ?_
        rintro e w' ⟨rfl, rfl⟩
        obtain ⟨c0, c1, g0, g1⟩ := ac2 HS2.out
        obtain ⟨d0, d1, e0, e1⟩ := ac2 HR2.out
        go_wp2
        have HF := blkA_set (blkA_set HR2.out 0 (.int .u64 p)) 1 (.slice a L.length c)
        have HK3 := (HK2.out.setCell (p := ⟨w.heap.size + 1, 0, none⟩) (.inr (Nat.le_succ _)) (.int .u64 p)).setCell (p := ⟨w.heap.size + 1, 1, none⟩) (.inr (Nat.le_succ _)) (.slice a L.length c)
        clear c0 c1 g0 g1 d0 d1 e0 e1
        obtain ⟨r0, r1, _, _⟩ := ac2 (x := .int .u64 p) (y := .slice a L.length c) HF
        clear HF
        generalize hW : World.setCell _ _ _ = W at r0 r1 HK3 ⊢
        exact bodyPost_ret (v := .tuple #[.agg #[.int .u64 p, .slice a L.length c], .slice none 0 0, .int .i64 1]) (by simp [results, Try.results46, go_sem, r0, r1]) rfl ⟨_, rfl, VOwn.nil _ _, HK3⟩
    · have hX : prepX p b f = if b < p then 10 else 0 := by
        unfold prepX canX
        rw [if_neg hr, if_neg (by simpa using hB)]
      rw [hX]
      have hf1 : 0 ≤ f := by omega
      have hf2 : f ≤ 512 := by omega
      clear hX hr hB
      by_cases hp : b < p
      · rw [if_pos hp, if_neg (by decide), if_neg (by decide)]
        go_enter Try.func46, Try.ntmps46
        go_wp2_with fail
        rw [← HW1.out, ← HW2.out]
        refine HM.out.mono ?_
        rintro e w' ⟨rfl, rfl⟩
        obtain ⟨c0, c1, g0, g1⟩ := ac2 HS2.out
        obtain ⟨d0, d1, e0, e1⟩ := ac2 HR2.out
        go_wp2
        have HF := blkA_set (blkA_set HR2.out 0 (.int .u64 p)) 1 (.slice a L.length c)
        have HK3 := (HK2.out.setCell (p := ⟨w.heap.size + 1, 0, none⟩) (.inr (Nat.le_succ _)) (.int .u64 p)).setCell (p := ⟨w.heap.size + 1, 1, none⟩) (.inr (Nat.le_succ _)) (.slice a L.length c)
        clear c0 c1 g0 g1 d0 d1 e0 e1
        obtain ⟨r0, r1, _, _⟩ := ac2 (x := .int .u64 p) (y := .slice a L.length c) HF
        clear HF
        generalize hW : World.setCell _ _ _ = W at r0 r1 HK3 ⊢
        exact bodyPost_ret (v := .tuple #[.agg #[.int .u64 p, .slice a L.length c], .slice none 0 0, .int .i64 10]) (by simp [results, Try.results46, go_sem, r0, r1]) rfl ⟨_, rfl, VOwn.nil _ _, HK3⟩
      · rw [if_neg hp, if_pos rfl, if_pos rfl]
        have hp1 : decide (b < p) = false := decide_eq_false hp
        clear hp
        go_enter Try.func46, Try.ntmps46
        go_wp2_with fail
        rw [← HW1.out, ← HW2.out]
        refine HM.out.mono ?_
        rintro e w' ⟨rfl, rfl⟩
        obtain ⟨c0, c1, g0, g1⟩ := ac2 HS2.out
        obtain ⟨d0, d1, e0, e1⟩ := ac2 HR2.out
        go_wp2_with fail
        have HS6 := Lib.hid (blkA_set HS2.out 0 (.int .u64 b))
        have HR6 := Lib.hid (blkA_set_other HR2.out 0 (.int .u64 b) (show w.heap.size ≠ w.heap.size + 1 by omega))
        have HK6 := Lib.hid (HK2.out.setCell (p := ⟨w.heap.size, 0, none⟩) (.inr (Nat.le_refl _)) (.int .u64 b))
        obtain ⟨W, hW⟩ : ∃ W, W = w2.setCell ⟨w.heap.size, 0, none⟩ (.int .u64 b) := ⟨_, rfl⟩
        have HZW : Hid (W.heap.size = w.heap.size + 2) := Lib.hid (by rw [hW]; simp [World.setCell, HZ2.out])
        rw [← hW] at HS6 HR6 HK6 ⊢
        clear c0 c1 g0 g1 d0 d1 e0 e1 hW
        obtain ⟨c0, c1, g0, g1⟩ := ac2 (x := .int .u64 b) (y := .slice a L.length c) HS6.out
        obtain ⟨d0, d1, e0, e1⟩ := ac2 HR6.out
        go_region_held3 (fun w' => w'.cell? ⟨w.heap.size, 0, none⟩ = some (.int .u64 b) ∧ w'.cell? ⟨w.heap.size, 1, none⟩ = some (.slice a L.length c))
          (first
            | exact ⟨cell_drew c0, cell_drew c1⟩
            | exact ⟨HKQ.out.cell (p := ⟨w.heap.size, 0, none⟩) (fun h => h) c0, HKQ.out.cell (p := ⟨w.heap.size, 1, none⟩) (fun h => h) c1⟩
            | go_keep)
          ((go_at_call 19; refine (HCA.out _ HK6.out.drew).mono ?_; rintro e w3 ⟨u3, rfl, hu3, hk3⟩; have HU3 := Lib.hid hu3; have HKQ := Lib.hid ((Kept.refl NoB W).drew.trans hk3 (fun _ _ h => h)); have HR7 := Lib.hid (HKQ.out.heap (fun h => h) HR6.out); clear hu3 hk3; obtain ⟨x0, x1, x2, x3⟩ := ac2 HR7.out))
        all_goals
          have HF := blkA_set (blkA_set HR7.out 0 (.int .u64 b)) 1 (.slice a L.length c)
          have HKE := ((Kept.refl (AG (w.heap.size + 1)) w3).setCell (p := ⟨w.heap.size + 1, 0, none⟩) (.inl rfl) (.int .u64 b)).setCell (p := ⟨w.heap.size + 1, 1, none⟩) (.inl rfl) (.slice a L.length c)
          have HO3 := (HU3.out.kept HKE (fun i hi h => by have := HU3.out.base i hi; have h : i = w.heap.size + 1 := h; have := HZW.out; have := show W.drew.heap.size = W.heap.size from rfl; omega)).mono (show w.heap.size ≤ W.drew.heap.size by have := HZW.out; have := show W.drew.heap.size = W.heap.size from rfl; omega)
          have HK3 := ((HK6.out.trans HKQ.out (fun _ _ h => h)).setCell (p := ⟨w.heap.size + 1, 0, none⟩) (.inr (Nat.le_succ _)) (.int .u64 b)).setCell (p := ⟨w.heap.size + 1, 1, none⟩) (.inr (Nat.le_succ _)) (.slice a L.length c)
          clear HKE c0 c1 g0 g1 d0 d1 e0 e1
          obtain ⟨r0, r1, _, _⟩ := ac2 (x := .int .u64 b) (y := .slice a L.length c) HF
          clear HF
          generalize hW2 : World.setCell _ _ _ = W2 at r0 r1 HO3 HK3 ⊢
          have HO4 := Lib.hid HO3
          have HK4 := Lib.hid HK3
          clear HO3 HK3
          go_wp2
          exact bodyPost_ret (v := .tuple #[.agg #[.int .u64 b, .slice a L.length c], u3, .int .i64 0]) (by simp [results, Try.results46, go_sem, r0, r1]) rfl ⟨_, rfl, HO4.out, HK4.out⟩
  · have HM := Lib.hid (rIs_no b w2 h0 h1 hB)
    have hX : prepX p b f = 1 := by unfold prepX canX; rw [if_pos hB]; split <;> rfl
    rw [hX, if_neg (by decide), if_neg (by decide)]
    clear hX hB
    go_enter Try.func46, Try.ntmps46
    go_wp2_with fail
    rw [← HW1.out, ← HW2.out]
    refine HM.out.mono ?_
    rintro e w' ⟨rfl, rfl⟩
    obtain ⟨c0, c1, g0, g1⟩ := ac2 HS2.out
    obtain ⟨d0, d1, e0, e1⟩ := ac2 HR2.out
    go_wp2
    have HF := blkA_set (blkA_set HR2.out 0 (.int .u64 p)) 1 (.slice a L.length c)
    have HK3 := (HK2.out.setCell (p := ⟨w.heap.size + 1, 0, none⟩) (.inr (Nat.le_succ _)) (.int .u64 p)).setCell (p := ⟨w.heap.size + 1, 1, none⟩) (.inr (Nat.le_succ _)) (.slice a L.length c)
    clear c0 c1 g0 g1 d0 d1 e0 e1
    obtain ⟨r0, r1, _, _⟩ := ac2 (x := .int .u64 p) (y := .slice a L.length c) HF
    clear HF
    generalize hW : World.setCell _ _ _ = W at r0 r1 HK3 ⊢
    exact bodyPost_ret (v := .tuple #[.agg #[.int .u64 p, .slice a L.length c], .slice none 0 0, .int .i64 1]) (by simp [results, Try.results46, go_sem, r0, r1]) rfl ⟨_, rfl, VOwn.nil _ _, HK3⟩
end Go.Proofs.Ytjbchnildeeicaa
