/-
  catenaryref15: Put.
-/
import Derived.Test.YtnmclhgljpcjcaaVerO
namespace Go.Proofs.Ytnmclhgljpcjcaa
open Go.RowKit
set_option linter.unusedVariables false

set_option maxRecDepth 100000 in
set_option maxHeartbeats 2000000 in
theorem RPut15 (w : World) (v xv : Value) (l : List Vn) (n : Vn) (F : Nat → Prop) (h : VsAt w F v l) (hx : VnV w F xv n) (hasc : Asc l) (hf : FitV n) (hF : ∀ k, F k → k < w.heap.size) (hl : l.length ≤ 1000) : Calls Try.prog 18 #[v, xv] w (RPutEnd w F l n) := by
  obtain ⟨i0, hi0, hz0', hz1, hz2⟩ := info_parts info_rvers
  obtain ⟨a, c, rfl⟩ := h.form
  obtain ⟨u, rfl, hd⟩ := hx
  obtain ⟨x0, x1, x2⟩ := n
  obtain ⟨hf1, hf2, hf3, hf4⟩ := hf
  simp only at hd hf1 hf2 hf3 hf4 ⊢
  have HD := Lib.hid hd
  obtain ⟨ua, uc, rfl, huc, hucm, _⟩ := hd
  have HV := Lib.hid h
  have HA := Lib.hid hasc
  have HF := Lib.hid hF
  have HKX := Lib.hid ((Kept.refl NoB w).alloc (.cells #[.int .u64 x0, .int .u64 x1, .slice ua x2.length uc] 36))
  have HXX := Lib.hid (heap_alloc_new w (.cells #[.int .u64 x0, .int .u64 x1, .slice ua x2.length uc] 36))
  obtain ⟨d0, d1, d2⟩ := cells3v HXX.out
  clear h hasc hF
  by_cases e1 : 2048 < x2.length
  · have HP : Hid (putXV l ⟨x0, x1, x2⟩ = 6) := Lib.hid (by unfold putXV; rw [if_pos e1])
    have g1 : (2048 : Int) < (x2.length : Int) := by omega
    clear e1
    go_enter Try.func18, Try.ntmps18
    go_wp2
    go_ret2
    exact RPutEnd.bad HV.out HKX.out HP.out (by decide)
  have g1 : (x2.length : Int) ≤ 2048 := by omega
  by_cases e2 : x0 = 0 ∨ x1 = 0
  · have HP : Hid (putXV l ⟨x0, x1, x2⟩ = 1) := Lib.hid (by unfold putXV; rw [if_neg e1, if_pos e2])
    clear e1
    by_cases e3 : x0 = 0
    · have q0 : (x0 == 0) = true := by simpa using e3
      clear e2 e3
      go_enter Try.func18, Try.ntmps18
      go_wp2
      go_ret2
      exact RPutEnd.bad HV.out HKX.out HP.out (by decide)
    · have q0 : (x0 == 0) = false := by simpa using e3
      have q1 : (x1 == 0) = true := by rcases e2 with e2 | e2; exact absurd e2 e3; simpa using e2
      clear e2 e3
      go_enter Try.func18, Try.ntmps18
      go_wp2
      go_ret2
      exact RPutEnd.bad HV.out HKX.out HP.out (by decide)
  have q0 : (x0 == 0) = false := by rw [beq_eq_false_iff_ne]; exact fun h => e2 (.inl h)
  have q1 : (x1 == 0) = false := by rw [beq_eq_false_iff_ne]; exact fun h => e2 (.inr h)
  have hx0 : 0 < x0 := by omega
  by_cases e4 : l = []
  · subst e4
    have HP : Hid (putXV [] ⟨x0, x1, x2⟩ = 0) := Lib.hid (by unfold putXV; rw [if_neg e1, if_neg e2, if_neg (by simp)])
    have hl0 : ([] : List Vn).length = 0 := rfl
    rw [hl0] at HV ⊢
    clear e1 e2 hl0
    go_enter Try.func18, Try.ntmps18
    go_wp2
    go_quiet (fail)
    go_wp2_with fail
    obtain ⟨W, hW⟩ : ∃ W, W = (w.alloc (.cells #[.int .u64 x0, .int .u64 x1, .slice ua x2.length uc] 36)).drewN nq := ⟨_, rfl⟩
    rw [← hW]
    have HKW : Hid (Kept NoB w W) := Lib.hid (by rw [hW]; exact (HKX.out.drewN nq))
    have HWX : Hid (W.heap[w.heap.size]? = some (.cells #[.int .u64 x0, .int .u64 x1, .slice ua x2.length uc] 36 (0, 0))) := Lib.hid (by rw [hW]; exact HXX.out)
    clear hW d0 d1 d2
    obtain ⟨d0, d1, d2⟩ := cells3v HWX.out
    have HVW := Lib.hid (HV.out.no HKW.out)
    have HU := Lib.hid (HD.out.kept HKW.out (fun _ _ h => h))
    have HKD := Lib.hid ((Kept.refl NoB W).drew)
    have HKA2 := Lib.hid (((Kept.refl NoB W).alloc (.cells #[.int .u64 x0, .int .u64 x1, .slice ua x2.length uc] 36)).drew)
    have HZA2 : Hid ((W.alloc (.cells #[.int .u64 x0, .int .u64 x1, .slice ua x2.length uc] 36)).drew.heap[W.heap.size]? = some (.cells #[.int .u64 x0, .int .u64 x1, .slice ua x2.length uc] 36 (0, 0))) := Lib.hid (heap_alloc_new W _)
    go_region_law (first
      | (refine step_append_vs0 32 36 i0 Try.underlying32 hi0 hz0' hz1 hz2 (by rfl) (.const (.slice none 0 0)) (.tmp 41) (by rfl) (by rfl) W.heap.size (.slice a 0 c) ([] : List Vn) F (by rfl) (HVW.out.no HKD.out) (by decide) HKD.out.size ?_; intro ps a' c' w5 hps hd5 ho5 hg5 hat5; have HPS := Lib.hid hps; have HD5 := Lib.hid (hd5.kept ((Kept.refl NoB _).grown hg5 (fun i hi => by cases hi)) (fun _ _ h => h)); have HO5 := Lib.hid ho5; have HK5 := Lib.hid (HKD.out.grown hg5 (fun i hi => by cases hi)); have HPL := Lib.hid (show ps.length = 0 by rw [← List.length_map (f := Prod.fst), hps]; rfl); have k0 := HK5.out.cell (p := ⟨w.heap.size, 0, none⟩) (fun h => h) d0; have k1 := HK5.out.cell (p := ⟨w.heap.size, 1, none⟩) (fun h => h) d1; have k2 := HK5.out.cell (p := ⟨w.heap.size, 2, none⟩) (fun h => h) d2; have HO6 := Lib.hid (ho5.no ((Kept.refl NoB w5).alloc (.cells #[.int .u64 x0, .int .u64 x1, .slice ua x2.length uc] 36))); have HK6 := Lib.hid (HK5.out.alloc (.cells #[.int .u64 x0, .int .u64 x1, .slice ua x2.length uc] 36)); have HZ6 := Lib.hid (heap_alloc_new w5 (.cells #[.int .u64 x0, .int .u64 x1, .slice ua x2.length uc] 36)); clear hps hd5 ho5 hg5 hat5)
      | (refine step_append_vs0 32 36 i0 Try.underlying32 hi0 hz0' hz1 hz2 (by rfl) (.const (.slice none 0 0)) (.tmp 41) (by rfl) (by rfl) W.heap.size (.slice a 0 c) ([] : List Vn) F (by rfl) (HVW.out.no HKA2.out) (by decide) HKA2.out.size ?_; intro ps a' c' w5 hps hd5 ho5 hg5 hat5; have HPS := Lib.hid hps; have HD5 := Lib.hid (hd5.kept ((Kept.refl NoB _).grown hg5 (fun i hi => by cases hi)) (fun _ _ h => h)); have HO5 := Lib.hid ho5; have HK5 := Lib.hid (HKA2.out.grown hg5 (fun i hi => by cases hi)); have HPL := Lib.hid (show ps.length = 0 by rw [← List.length_map (f := Prod.fst), hps]; rfl); have HZ5 := Lib.hid (((Kept.refl NoB _).grown hg5 (fun i hi => by cases hi)).heap (fun h => h) HZA2.out); clear hps hd5 ho5 hg5 hat5)
      | (refine step_append_v1 32 36 i0 Try.underlying32 hi0 hz0' hz1 hz2 (by rfl) (.tmp 42) (.tmp 44) (by rfl) W.heap.size (.slice a' 0 c') ps (by rfl) HO6.out w5.heap.size ⟨x0, x1, x2⟩ (.slice ua x2.length uc) _ (by rfl) HZ6.out (by rfl) (by have := HPL.out; omega) HK6.out.size (0 + 1) (by rw [HPL.out]) ?_; intro a6 c6 w6 ho6 hg6 hat6; have HK7 := Lib.hid (HK6.out.grown hg6 (fun i hi => .inr (HO6.out.base i hi).1)); have HD7 := Lib.hid (HD5.out.kept (S := fun i => W.heap.size ≤ i) (((Kept.refl _ w5).alloc _).grown hg6 (fun i hi => .inl (HO6.out.base i hi).1)) (fun i hi h => by have := HF.out i hi; have := HKW.out.size; omega)); have HO7 := Lib.hid ho6; clear ho6 hg6 hat6)
      | (refine step_append_v1 32 36 i0 Try.underlying32 hi0 hz0' hz1 hz2 (by rfl) (.tmp 42) (.tmp 44) (by rfl) W.heap.size (.slice a' 0 c') ps (by rfl) HO5.out W.heap.size ⟨x0, x1, x2⟩ (.slice ua x2.length uc) _ (by rfl) HZ5.out (by rfl) (by have := HPL.out; omega) HK5.out.size (0 + 1) (by rw [HPL.out]) ?_; intro a6 c6 w6 ho6 hg6 hat6; have HK7 := Lib.hid (HK5.out.grown hg6 (fun i hi => .inr (HO5.out.base i hi).1)); have HD7 := Lib.hid (HD5.out.kept (S := fun i => W.heap.size ≤ i) ((Kept.refl _ w5).grown hg6 (fun i hi => .inl (HO5.out.base i hi).1)) (fun i hi h => by have := HF.out i hi; have := HKW.out.size; omega)); have HO7 := Lib.hid ho6; clear ho6 hg6 hat6))
    all_goals
      go_wp2
      go_ret2
      exact rput_end15 HKW.out HPS.out HD7.out HU.out HO7.out HK7.out HP.out
  · have hN0 : 0 < l.length := List.length_pos_iff.2 e4
    obtain ⟨⟨y0, y1, y2⟩, hy⟩ : ∃ y, y = lastV l := ⟨_, rfl⟩
    have hw1 : IntKind.u64.wrap (x0 - 1) = x0 - 1 := IntWalk.u64_in _ (by omega)
    have HLO : Hid (∀ w', Kept NoB w w' → Calls Try.prog 28 #[.slice a l.length c] w' fun e w'' => ∃ u' n' c', e = .returned (.agg #[.int .u64 y0, .int .u64 y1, .slice u' n' c']) ∧ Kept NoB w' w'') := Lib.hid (fun w' hk => by
      refine (RLast15_any w' _ l F (HV.out.no hk)).mono ?_
      rintro e w'' ⟨v', rfl, ⟨u, rfl, hu⟩, h2⟩
      obtain ⟨u', c', rfl, _⟩ := hu
      rw [← hy]
      exact ⟨_, _, _, rfl, h2⟩)
    have HPX : Hid (putXV l ⟨x0, x1, x2⟩ = if x0 - 1 = y0 ∧ y1 < x1 then 0 else 12) := Lib.hid (by
      unfold putXV
      rw [if_neg e1, if_neg e2, ← hy]
      have : 0 < l.length := List.length_pos_iff.2 e4
      simp only
      by_cases hc : x0 = y0 + 1 ∧ y1 < x1
      · rw [if_neg (fun h => h.2 hc), if_pos ⟨by omega, hc.2⟩]
      · rw [if_pos ⟨this, hc⟩, if_neg (fun h => hc ⟨by omega, h.2⟩)])
    have hfd := fldR15_r y0 y1
    have hfq := fldR15_q y0 y1
    clear e1 e2 e4 hy
    have HKQ := Lib.hid HKX.out.drew
    by_cases hr : x0 - 1 = y0
    · have hr1 : (x0 - 1 != y0) = false := by simpa using hr
      by_cases hq : y1 < x1
      · have HP : Hid (putXV l ⟨x0, x1, x2⟩ = 0) := Lib.hid (by rw [HPX.out, if_pos ⟨hr, hq⟩])
        have hqb : decide (x1 ≤ y1) = false := decide_eq_false (by omega)
        clear hr hq
        go_enter Try.func18, Try.ntmps18
        go_wp2_with fail
        go_region_held3 (fun w' => w'.cell? ⟨w.heap.size, 0, none⟩ = some (.int .u64 x0) ∧ w'.cell? ⟨w.heap.size, 1, none⟩ = some (.int .u64 x1) ∧ w'.cell? ⟨w.heap.size, 2, none⟩ = some (.slice ua x2.length uc))
          (first
            | (with_reducible exact ⟨cell_drew d0, cell_drew d1, cell_drew d2⟩)
            | (with_reducible exact ⟨k1, k2, k3⟩)
            | (with_reducible exact ⟨m1, m2, m3⟩)
            | go_keep)
          (first
            | (go_at_call 28; (with_reducible refine (HLO.out _ HKQ.out).mono ?_); rintro e w3 ⟨u', n', c', rfl, hk3⟩; have HKA := Lib.hid (HKQ.out.trans hk3 (fun _ _ h => h)); have HXA := Lib.hid (hk3.heap (fun h => h) HXX.out); have k1 := hk3.cell (p := ⟨w.heap.size, 0, none⟩) (fun h => h) d0; have k2 := hk3.cell (p := ⟨w.heap.size, 1, none⟩) (fun h => h) d1; have k3 := hk3.cell (p := ⟨w.heap.size, 2, none⟩) (fun h => h) d2; clear hk3)
            | (go_at_call 28; (with_reducible refine (HLO.out _ HKA.out).mono ?_); rintro e w4 ⟨u5, n5, c5, rfl, hk4⟩; have HKB := Lib.hid (HKA.out.trans hk4 (fun _ _ h => h)); have HXB := Lib.hid (hk4.heap (fun h => h) HXA.out); have m1 := hk4.cell (p := ⟨w.heap.size, 0, none⟩) (fun h => h) k1; have m2 := hk4.cell (p := ⟨w.heap.size, 1, none⟩) (fun h => h) k2; have m3 := hk4.cell (p := ⟨w.heap.size, 2, none⟩) (fun h => h) k3; clear hk4))
        go_wp2_with fail
        obtain ⟨W, hW⟩ : ∃ W, W = w4 := ⟨_, rfl⟩
        rw [← hW]
        have HKW : Hid (Kept NoB w W) := Lib.hid (by rw [hW]; exact HKB.out)
        have HWX : Hid (W.heap[w.heap.size]? = some (.cells #[.int .u64 x0, .int .u64 x1, .slice ua x2.length uc] 36 (0, 0))) := Lib.hid (by rw [hW]; exact HXB.out)
        clear hW d0 d1 d2
        obtain ⟨d0, d1, d2⟩ := cells3v HWX.out
        have HVW := Lib.hid (HV.out.no HKW.out)
        have HU := Lib.hid (HD.out.kept HKW.out (fun _ _ h => h))
        have HKD := Lib.hid ((Kept.refl NoB W).drew)
        have HKA2 := Lib.hid (((Kept.refl NoB W).alloc (.cells #[.int .u64 x0, .int .u64 x1, .slice ua x2.length uc] 36)).drew)
        have HZA2 : Hid ((W.alloc (.cells #[.int .u64 x0, .int .u64 x1, .slice ua x2.length uc] 36)).drew.heap[W.heap.size]? = some (.cells #[.int .u64 x0, .int .u64 x1, .slice ua x2.length uc] 36 (0, 0))) := Lib.hid (heap_alloc_new W _)
        go_region_law (first
          | (refine step_append_vs0 32 36 i0 Try.underlying32 hi0 hz0' hz1 hz2 (by rfl) (.const (.slice none 0 0)) (.tmp 41) (by rfl) (by rfl) W.heap.size (.slice a l.length c) l F (by rfl) (HVW.out.no HKD.out) (by omega) HKD.out.size ?_; intro ps a' c' w5 hps hd5 ho5 hg5 hat5; have HPS := Lib.hid hps; have HD5 := Lib.hid (hd5.kept ((Kept.refl NoB _).grown hg5 (fun i hi => by cases hi)) (fun _ _ h => h)); have HO5 := Lib.hid ho5; have HK5 := Lib.hid (HKD.out.grown hg5 (fun i hi => by cases hi)); have HPL := Lib.hid (show ps.length = l.length by rw [← List.length_map (f := Prod.fst), hps]); have k0 := HK5.out.cell (p := ⟨w.heap.size, 0, none⟩) (fun h => h) d0; have k1 := HK5.out.cell (p := ⟨w.heap.size, 1, none⟩) (fun h => h) d1; have k2 := HK5.out.cell (p := ⟨w.heap.size, 2, none⟩) (fun h => h) d2; have HO6 := Lib.hid (ho5.no ((Kept.refl NoB w5).alloc (.cells #[.int .u64 x0, .int .u64 x1, .slice ua x2.length uc] 36))); have HK6 := Lib.hid (HK5.out.alloc (.cells #[.int .u64 x0, .int .u64 x1, .slice ua x2.length uc] 36)); have HZ6 := Lib.hid (heap_alloc_new w5 (.cells #[.int .u64 x0, .int .u64 x1, .slice ua x2.length uc] 36)); clear hps hd5 ho5 hg5 hat5)
          | (refine step_append_vs0 32 36 i0 Try.underlying32 hi0 hz0' hz1 hz2 (by rfl) (.const (.slice none 0 0)) (.tmp 41) (by rfl) (by rfl) W.heap.size (.slice a l.length c) l F (by rfl) (HVW.out.no HKA2.out) (by omega) HKA2.out.size ?_; intro ps a' c' w5 hps hd5 ho5 hg5 hat5; have HPS := Lib.hid hps; have HD5 := Lib.hid (hd5.kept ((Kept.refl NoB _).grown hg5 (fun i hi => by cases hi)) (fun _ _ h => h)); have HO5 := Lib.hid ho5; have HK5 := Lib.hid (HKA2.out.grown hg5 (fun i hi => by cases hi)); have HPL := Lib.hid (show ps.length = l.length by rw [← List.length_map (f := Prod.fst), hps]); have HZ5 := Lib.hid (((Kept.refl NoB _).grown hg5 (fun i hi => by cases hi)).heap (fun h => h) HZA2.out); clear hps hd5 ho5 hg5 hat5)
          | (refine step_append_v1 32 36 i0 Try.underlying32 hi0 hz0' hz1 hz2 (by rfl) (.tmp 42) (.tmp 44) (by rfl) W.heap.size (.slice a' l.length c') ps (by rfl) HO6.out w5.heap.size ⟨x0, x1, x2⟩ (.slice ua x2.length uc) _ (by rfl) HZ6.out (by rfl) (by have := HPL.out; omega) HK6.out.size (l.length + 1) (by rw [HPL.out]) ?_; intro a6 c6 w6 ho6 hg6 hat6; have HK7 := Lib.hid (HK6.out.grown hg6 (fun i hi => .inr (HO6.out.base i hi).1)); have HD7 := Lib.hid (HD5.out.kept (S := fun i => W.heap.size ≤ i) (((Kept.refl _ w5).alloc _).grown hg6 (fun i hi => .inl (HO6.out.base i hi).1)) (fun i hi h => by have := HF.out i hi; have := HKW.out.size; omega)); have HO7 := Lib.hid ho6; clear ho6 hg6 hat6)
          | (refine step_append_v1 32 36 i0 Try.underlying32 hi0 hz0' hz1 hz2 (by rfl) (.tmp 42) (.tmp 44) (by rfl) W.heap.size (.slice a' l.length c') ps (by rfl) HO5.out W.heap.size ⟨x0, x1, x2⟩ (.slice ua x2.length uc) _ (by rfl) HZ5.out (by rfl) (by have := HPL.out; omega) HK5.out.size (l.length + 1) (by rw [HPL.out]) ?_; intro a6 c6 w6 ho6 hg6 hat6; have HK7 := Lib.hid (HK5.out.grown hg6 (fun i hi => .inr (HO5.out.base i hi).1)); have HD7 := Lib.hid (HD5.out.kept (S := fun i => W.heap.size ≤ i) ((Kept.refl _ w5).grown hg6 (fun i hi => .inl (HO5.out.base i hi).1)) (fun i hi h => by have := HF.out i hi; have := HKW.out.size; omega)); have HO7 := Lib.hid ho6; clear ho6 hg6 hat6))
        all_goals
          go_wp2
          go_ret2
          exact rput_end15 HKW.out HPS.out HD7.out HU.out HO7.out HK7.out HP.out
      · have HP : Hid (putXV l ⟨x0, x1, x2⟩ = 12) := Lib.hid (by rw [HPX.out, if_neg (fun h => hq h.2)])
        have hqb : decide (x1 ≤ y1) = true := decide_eq_true (by omega)
        clear hr hq
        go_enter Try.func18, Try.ntmps18
        go_wp2_with fail
        go_region_held3 (fun w' => w'.cell? ⟨w.heap.size, 0, none⟩ = some (.int .u64 x0) ∧ w'.cell? ⟨w.heap.size, 1, none⟩ = some (.int .u64 x1))
          (first
            | (with_reducible exact ⟨cell_drew d0, cell_drew d1⟩)
            | (with_reducible exact ⟨k1, k2⟩)
            | (with_reducible exact ⟨m1, m2⟩)
            | go_keep)
          (first
            | (go_at_call 28; (with_reducible refine (HLO.out _ HKQ.out).mono ?_); rintro e w3 ⟨u', n', c', rfl, hk3⟩; have HKA := Lib.hid (HKQ.out.trans hk3 (fun _ _ h => h)); have k1 := hk3.cell (p := ⟨w.heap.size, 0, none⟩) (fun h => h) d0; have k2 := hk3.cell (p := ⟨w.heap.size, 1, none⟩) (fun h => h) d1; clear hk3)
            | (go_at_call 28; (with_reducible refine (HLO.out _ HKA.out).mono ?_); rintro e w4 ⟨u5, n5, c5, rfl, hk4⟩; have HKB := Lib.hid (HKA.out.trans hk4 (fun _ _ h => h)); have m1 := hk4.cell (p := ⟨w.heap.size, 0, none⟩) (fun h => h) k1; have m2 := hk4.cell (p := ⟨w.heap.size, 1, none⟩) (fun h => h) k2; clear hk4))
        go_wp2_with fail
        go_ret2
        exact RPutEnd.bad HV.out HKB.out HP.out (by decide)
    · exact RPut15_far w a ua c uc x0 x1 y0 y1 x2 l F HV.out (by rw [HPX.out, if_neg (fun h => hr h.1)]) hN0 g1 q0 q1 hw1 HLO.out (by simpa using hr)
end Go.Proofs.Ytnmclhgljpcjcaa
