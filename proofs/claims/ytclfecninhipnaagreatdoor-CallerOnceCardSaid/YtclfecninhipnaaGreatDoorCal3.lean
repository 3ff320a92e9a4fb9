/-
  Layer 26: the walk of CallerOnce. Layer 26: CallerOnce of any operation. Layer 26: two numbers of one byte that came in.
-/
import Derived.Test.YtclfecninhipnaaGreatDoorCal2
import Derived.Test.YtclfecninhipnaaGreatDoorLtr2
import Derived.IntWalk
namespace Go.Proofs.YtclfecninhipnaaGreatDoor
open Go.RowKit
set_option linter.unusedVariables false
set_option linter.unusedSimpArgs false

theorem cat_one26 (w : World) (x : Int) (h0 : 0 ≤ x) (h1 : x < 256) (t : TypeId) (fr : Nat × Nat) : BSl (w.alloc (.cells #[.int .u8 x] t fr)) (fun k => k = w.heap.size) (.slice (some ⟨w.heap.size, 0, none⟩) 1 1) [x] :=
  ⟨_, 1, rfl, Nat.le_refl _, by decide, (fun h => by cases h), (fun y hy => by simp only [List.mem_singleton] at hy; subst hy; exact ⟨h0, h1⟩), fun _ => ⟨w.heap.size, 0, rfl, rfl, by simp, fun j hj => by
    have : j = 0 := by simp at hj; omega
    subst this
    exact cell_of_row _ _ 0 _ _ _ (heap_alloc_new w (.cells #[.int .u8 x] t fr))⟩⟩
set_option maxRecDepth 100000 in
set_option maxHeartbeats 8000000 in
theorem Once26_r (w : World) (y v p p0 p1 q0 q1 : Int) (da : Option Addr) (n dc : Nat) (od : List Int) (hm : n = od.length) (hn : ¬ 2100 < n) (hd : BSl w (fun i => i < w.heap.size) (.slice da n dc) od) (y0 : 0 ≤ y) (y1 : y ≤ 4294967295) (hp0 : 0 ≤ p0) (hp1 : p0 ≤ 255) (hp2 : 0 ≤ p1) (hp3 : p1 ≤ 255) (hq0 : 0 ≤ q0) (hq1 : q0 ≤ 255) (hq2 : 0 ≤ q1) (hq3 : q1 ≤ 255) (ht : Tab10 w) (hp9 : p ≤ 9223372036854775807) (hE : chk26r v od.length = 0) :
    Calls Tryz.prog 3 #[.agg #[.int .i64 1, .int .u32 y, .int .u64 v, .slice da n dc, .int .i64 p], .agg #[.int .u8 p0, .int .u8 p1], .agg #[.int .u8 q0, .int .u8 q1]] w (BoolE true w) := by
  have HEE := Lib.hid hE
  have HB := Lib.hid (fun w => RBegin_any 1 2 w)
  have HOD := Lib.hid hd
  have HM : Hid (n = od.length) := Lib.hid hm
  have HNL : Hid (od.length ≤ 1000000) := Lib.hid (by omega)
  have hd0 : decide (2100 < (n : Int)) = false := decide_eq_false (by omega)
  obtain ⟨W, hW⟩ : ∃ W, W = ((w.alloc (.cells #[.int .i64 1, .int .u32 y, .int .u64 v, .slice da n dc, .int .i64 p] 26)).alloc (.cells #[.int .u8 p0, .int .u8 p1] 27)).alloc (.cells #[.int .u8 q0, .int .u8 q1] 27) := ⟨_, rfl⟩
  have HW := Lib.hid hW
  have HKW : Hid (Kept NoB w W) := Lib.hid (by rw [hW]; exact (((Kept.refl NoB w).alloc _).alloc _).alloc _)
  have HSZ : Hid (W.heap.size = w.heap.size + 3) := Lib.hid (by rw [hW]; simp)
  obtain ⟨h1, h2, h3⟩ := three26a w (.cells #[.int .i64 1, .int .u32 y, .int .u64 v, .slice da n dc, .int .i64 p] 26) (.cells #[.int .u8 p0, .int .u8 p1] 27) (.cells #[.int .u8 q0, .int .u8 q1] 27)
  rw [← hW] at h1 h2 h3
  have HRO : Hid (∀ w', Kept (fun i => W.heap.size ≤ i) W w' → w'.heap[w.heap.size]? = some (.cells #[.int .i64 1, .int .u32 y, .int .u64 v, .slice da n dc, .int .i64 p] 26 (0, 0))) := Lib.hid (fun w' hk => hk.heap (fun h => by have h : W.heap.size ≤ w.heap.size := h; have := HSZ.out; omega) h1)
  have HRP : Hid (∀ w', Kept (fun i => W.heap.size ≤ i) W w' → w'.heap[w.heap.size + 1]? = some (.cells #[.int .u8 p0, .int .u8 p1] 27 (0, 0))) := Lib.hid (fun w' hk => hk.heap (fun h => by have h : W.heap.size ≤ w.heap.size + 1 := h; have := HSZ.out; omega) h2)
  have HRQ : Hid (∀ w', Kept (fun i => W.heap.size ≤ i) W w' → w'.heap[w.heap.size + 1 + 1]? = some (.cells #[.int .u8 q0, .int .u8 q1] 27 (0, 0))) := Lib.hid (fun w' hk => hk.heap (fun h => by have h : W.heap.size ≤ w.heap.size + 1 + 1 := h; have := HSZ.out; omega) h3)
  have HTB := Lib.hid ht
  have HFR : Hid (∀ w', Kept (fun i => W.heap.size ≤ i) W w' → Kept NoB w w') := Lib.hid (fun w' hk => kept_far26 HKW.out hk (fun i h => by have h : W.heap.size ≤ i := h; have := HSZ.out; omega))
  obtain ⟨bo, hbo⟩ : ∃ bo, bo = w.heap.size := ⟨_, rfl⟩
  rw [← hbo] at HRO HRP HRQ
  obtain ⟨bp, hbp⟩ : ∃ bp, bp = bo + 1 := ⟨_, rfl⟩
  rw [← hbp] at HRP HRQ
  obtain ⟨bq, hbq⟩ : ∃ bq, bq = bp + 1 := ⟨_, rfl⟩
  rw [← hbq] at HRQ
  clear hW h1 h2 h3 ht hd hm hn
  go_enter Tryz.func3, Tryz.ntmps3
  go_upto_region 1 with fail
  rw [← hbo, ← hbp, ← hbq, ← HW.out]
  clear hbo hbp hbq
  go_wp2_with fail
  refine (HB.out W).mono ?_
  rintro e w1 ⟨v0, rfl, hc, hk1⟩
  rw [ex26_x]
  have HK1 : Hid (Kept (fun i => W.heap.size ≤ i) W w1) := Lib.hid ((Kept.refl _ W).wide26 hk1 (fun _ h => h.elim))
  have HN := Lib.hid (CNew_good w1 1 1 (by decide) (by decide) (by decide) (by decide) v0 (begC 1 2) _ hc.r25 (by decide) ex26_all)
  obtain ⟨a, cap, rfl, _⟩ := hc
  rw [ex26_len]
  rw [ex26_len] at HN
  clear hk1
  go_wp2_with fail
  refine HN.out.mono ?_
  rintro e w2 ⟨g, ga, r, z, rfl, hca, hat, hg, hk2⟩
  have HK2 := Lib.hid (HK1.out.wide26 hk2 (fun _ h => h.elim))
  have HG2 := Lib.hid hca
  have HAT := Lib.hid hat
  have HGW : Hid (W.heap.size ≤ g) := Lib.hid (Nat.le_trans HK1.out.size hg)
  have HGT : Hid (¬ 0 = g) := Lib.hid (HTB.out.far26 (by have := HGW.out; have := HSZ.out; omega))
  have HT2 := Lib.hid (HTB.out.kept (HFR.out _ HK2.out) (fun h => h))
  have HD2 := Lib.hid (HOD.out.kept (HFR.out _ HK2.out) (fun _ _ h => h))
  have HF2 : Hid (∀ i, i < w.heap.size → i < w2.heap.size) := Lib.hid (fun i h => by have := (HFR.out _ HK2.out).size; omega)
  obtain ⟨c0, c1, c2, c3, c4⟩ := cells5 (HRO.out _ HK2.out)
  clear hca hat hg hk2
  have HMM := Lib.hid HM.out
  have HBG := Lib.hid (Begin26_read w2 g _ r z (csNew 1 1 ga) (begC 1 2) HG2.out HAT.out (by decide) (by decide) rfl (by show (1 : Int) ≤ 1; decide) (by show (1 : Int) ≤ 6; decide) 1 y v p rfl hp9 y0 y1 da dc od (fun i => i < w.heap.size) (by rw [← HM.out]; exact HD2.out) HF2.out HNL.out HT2.out HEE.out HGT.out)
  rw [← HM.out] at HBG
  go_wp2_with fail
  refine HBG.out.mono ?_
  rintro e w3 ⟨b, qf, qa, qc, lq, rfl, hb3, qf1, qf2, hg3, hl3, ho3, hlq3, hk3⟩
  have HG3 := Lib.hid hg3
  have HL3 := Lib.hid hl3
  have HK3 := Lib.hid (HK2.out.wide26 hk3 (fun i h => by have h : i = g := h; have := HGW.out; omega))
  have HLQ : Hid (W.heap.size ≤ lq) := Lib.hid (by have := HK2.out.size; omega)
  have hlg : lq ≠ g := fun e => by
    have h1 := hl3
    unfold RLat at h1
    rw [e, hg3] at h1
    injection h1 with h1
    injection h1 with h1 h2
    exact absurd h2 (by decide)
  have HLG : Hid (lq ≠ g) := Lib.hid hlg
  clear hb3 qf1 qf2 hg3 hl3 ho3 hlq3 hk3 hlg c0 c1 c2 c3 c4
  have HT3 := Lib.hid (HTB.out.kept (HFR.out _ HK3.out) (fun h => h))
  obtain ⟨c0, c1, c2, c3, c4⟩ := cells5 (HRO.out _ HK3.out)
  go_wp2_with fail
  clear c1 c2 c3 c4
  refine wp_loop_rounds 3 ?_
  rw [rounds_succ]
  have r0 := cell_of_row _ _ 0 _ _ _ (HRQ.out _ HK3.out)
  obtain ⟨x, hx⟩ : ∃ x, x = csBeg (csNew 1 1 ga) 1 1 y v (.slice qa n qc) p lq := ⟨_, rfl⟩
  rw [← hx] at HG3
  have HXX : Hid (x.cl = 1 ∧ x.nu = 1 ∧ x.k = 1 ∧ x.y = y ∧ x.lp = .pointer (some ⟨lq, 0, none⟩) ∧ x.d = .slice qa n qc ∧ x.tk = 0) := Lib.hid (by rw [hx]; exact ⟨rfl, rfl, rfl, rfl, rfl, rfl, rfl⟩)
  clear hx
  go_upto_region 14 with fail
  have hz := heap_alloc_new w3 (.cells #[.int .i64 0, .int .i64 0, .int .i64 0, .int .i64 0, .int .u64 0, .int .u64 0, .int .u64 0, .int .u64 0, .int .u64 0, .int .u64 0, .int .i64 0, .int .u32 0, .int .i64 0, .int .i64 0, .int .i64 0, .int .u64 0, .int .i64 0, .int .i64 0, .int .u64 0, .slice none 0 0, .bool false, .int .i64 0, .slice none 0 0, .slice none 0 0, .slice none 0 0] 48)
  obtain ⟨b4, hb4⟩ : ∃ b4, b4 = w3.heap.size := ⟨_, rfl⟩
  rw [← hb4] at hz
  have HB4Z : Hid (W.heap.size ≤ b4) := Lib.hid (by rw [hb4]; exact HK3.out.size)
  have HBS : Hid (b4 = w3.heap.size) := Lib.hid hb4
  obtain ⟨V, hV⟩ : ∃ V, V = (w3.alloc (.cells #[.int .i64 0, .int .i64 0, .int .i64 0, .int .i64 0, .int .u64 0, .int .u64 0, .int .u64 0, .int .u64 0, .int .u64 0, .int .u64 0, .int .i64 0, .int .u32 0, .int .i64 0, .int .i64 0, .int .i64 0, .int .u64 0, .int .i64 0, .int .i64 0, .int .u64 0, .slice none 0 0, .bool false, .int .i64 0, .slice none 0 0, .slice none 0 0, .slice none 0 0] 48)).setRow b4 #[.int .i64 20, .int .i64 1, .int .i64 201, .int .i64 0, .int .u64 0, .int .u64 0, .int .u64 1, .int .u64 0, .int .u64 0, .int .u64 q0, .int .i64 0, .int .u32 0, .int .i64 0, .int .i64 0, .int .i64 0, .int .u64 0, .int .i64 0, .int .i64 0, .int .u64 0, .slice none 0 0, .bool false, .int .i64 0, .slice none 0 0, .slice none 0 0, .slice none 0 0] := ⟨_, rfl⟩
  have HV := Lib.hid hV
  have HVR : Hid (V.heap[b4]? = some (.cells #[.int .i64 20, .int .i64 1, .int .i64 201, .int .i64 0, .int .u64 0, .int .u64 0, .int .u64 1, .int .u64 0, .int .u64 0, .int .u64 q0, .int .i64 0, .int .u32 0, .int .i64 0, .int .i64 0, .int .i64 0, .int .u64 0, .int .i64 0, .int .i64 0, .int .u64 0, .slice none 0 0, .bool false, .int .i64 0, .slice none 0 0, .slice none 0 0, .slice none 0 0] 48 (0, 0))) := Lib.hid (by rw [hV]; exact setRow26_at hz)
  have HKA : Hid (Kept NoB w3 V) := Lib.hid (by rw [hV]; exact ((Kept.refl NoB w3).alloc _).setRow26 (.inr (by rw [hb4]; exact Nat.le_refl _)) _)
  have HZ := Lib.hid hz
  have e11 : V.cell? ⟨b4, 11, none⟩ = some (.int .u32 0) := cell_of_row _ _ 11 _ _ _ HVR.out
  have f11 : V.frozen? ⟨b4, 11, none⟩ = false := frz25 HVR.out 11
  have HKB := Lib.hid (HK3.out.wide26 HKA.out (fun _ h => h.elim))
  have y0' : V.cell? ⟨bo, 1, none⟩ = some (.int .u32 y) := cell_of_row _ _ 1 _ _ _ (HRO.out _ HKB.out)
  obtain ⟨V4, hV4⟩ : ∃ V4, V4 = V.setCell ⟨b4, 11, none⟩ (.int .u32 y) := ⟨_, rfl⟩
  have HV4 := Lib.hid hV4
  have HX4 : Hid (V4.heap[b4]? = some (.cells #[.int .i64 20, .int .i64 1, .int .i64 201, .int .i64 0, .int .u64 0, .int .u64 0, .int .u64 1, .int .u64 0, .int .u64 0, .int .u64 q0, .int .i64 0, .int .u32 y, .int .i64 0, .int .i64 0, .int .i64 0, .int .u64 0, .int .i64 0, .int .i64 0, .int .u64 0, .slice none 0 0, .bool false, .int .i64 0, .slice none 0 0, .slice none 0 0, .slice none 0 0] 48 (0, 0))) := Lib.hid (by rw [hV4]; exact bset25 HVR.out 11 (.int .u32 y))
  have HK34 : Hid (Kept NoB w3 V4) := Lib.hid (by rw [hV4]; exact HKA.out.setCell (p := ⟨b4, 11, none⟩) (.inr (by show w3.heap.size ≤ b4; rw [hb4]; exact Nat.le_refl _)) _)
  have HKC := Lib.hid (HK3.out.wide26 HK34.out (fun _ h => h.elim))
  have p0' : V4.cell? ⟨bp, 0, none⟩ = some (.int .u8 p0) := cell_of_row _ _ 0 _ _ _ (HRP.out _ HKC.out)
  obtain ⟨b5, hb5⟩ : ∃ b5, b5 = V4.heap.size := ⟨_, rfl⟩
  have HBS5 : Hid (b5 = V4.heap.size) := Lib.hid hb5
  obtain ⟨V6, hV6⟩ : ∃ V6, V6 = V4.alloc (.cells #[.int .u8 p0] 5) := ⟨_, rfl⟩
  have HV6 := Lib.hid hV6
  have HX6 : Hid (V6.heap[b4]? = some (.cells #[.int .i64 20, .int .i64 1, .int .i64 201, .int .i64 0, .int .u64 0, .int .u64 0, .int .u64 1, .int .u64 0, .int .u64 0, .int .u64 q0, .int .i64 0, .int .u32 y, .int .i64 0, .int .i64 0, .int .i64 0, .int .u64 0, .int .i64 0, .int .i64 0, .int .u64 0, .slice none 0 0, .bool false, .int .i64 0, .slice none 0 0, .slice none 0 0, .slice none 0 0] 48 (0, 0))) := Lib.hid (by rw [hV6]; exact blk_old25 HX4.out _)
  have e24 : V6.cell? ⟨b4, 24, none⟩ = some (.slice none 0 0) := cell_of_row _ _ 24 _ _ _ HX6.out
  have f24 : V6.frozen? ⟨b4, 24, none⟩ = false := frz25 HX6.out 24
  obtain ⟨V5, hV5⟩ : ∃ V5, V5 = V6.setCell ⟨b4, 24, none⟩ (.slice (some ⟨b5, 0, none⟩) 1 1) := ⟨_, rfl⟩
  have HV5 := Lib.hid hV5
  have HX : Hid (V5.heap[b4]? = some (.cells #[.int .i64 20, .int .i64 1, .int .i64 201, .int .i64 0, .int .u64 0, .int .u64 0, .int .u64 1, .int .u64 0, .int .u64 0, .int .u64 q0, .int .i64 0, .int .u32 y, .int .i64 0, .int .i64 0, .int .i64 0, .int .u64 0, .int .i64 0, .int .i64 0, .int .u64 0, .slice none 0 0, .bool false, .int .i64 0, .slice none 0 0, .slice none 0 0, .slice (some ⟨b5, 0, none⟩) 1 1] 48 (0, 0))) := Lib.hid (by rw [hV5]; exact bset25 HX6.out 24 (.slice (some ⟨b5, 0, none⟩) 1 1))
  have HK35 : Hid (Kept NoB w3 V5) := Lib.hid (by rw [hV5, hV6]; exact (HK34.out.alloc _).setCell (p := ⟨b4, 24, none⟩) (.inr (by show w3.heap.size ≤ b4; rw [hb4]; exact Nat.le_refl _)) _)
  have HKV := Lib.hid (HK3.out.wide26 HK35.out (fun _ h => h.elim))
  have HD5 : Hid (BSl V5 (fun i => i < V5.heap.size) (.slice (some ⟨b5, 0, none⟩) 1 1) [p0]) := Lib.hid (by
    have h45 : b4 < b5 := by rw [hb5]; exact heap_lt HX4.out
    have h := cat_one26 V4 p0 hp0 (by have := hp1; omega) 5 (0, 0)
    rw [← hV6, ← hb5] at h
    have h2 : b5 < V6.heap.size := by rw [hV6, hb5]; simp
    have h3 := h.kept (S := fun i => i = b4) ((Kept.refl (fun i => i = b4) V6).setCell (p := ⟨b4, 24, none⟩) (.inl rfl) (.slice (some ⟨b5, 0, none⟩) 1 1)) (fun i h e => by have h : i = b5 := h; have e : i = b4 := e; omega)
    rw [← hV5] at h3
    exact h3.mono (fun i h _ => h))
  clear hz hV hV4 hb4 hb5 hV5 hV6
  go_step
  repeat (first | (rw [← HV6.out]) | (rw [← HV5.out]) | (refine wpList_load_row rfl 48 _ rfl b4 rfl 48 #[.int .i64 20, .int .i64 1, .int .i64 201, .int .i64 0, .int .u64 0, .int .u64 0, .int .u64 1, .int .u64 0, .int .u64 0, .int .u64 q0, .int .i64 0, .int .u32 y, .int .i64 0, .int .i64 0, .int .i64 0, .int .u64 0, .int .i64 0, .int .i64 0, .int .u64 0, .slice none 0 0, .bool false, .int .i64 0, .slice none 0 0, .slice none 0 0, .slice (some ⟨b5, 0, none⟩) 1 1] (0, 0) _ HX.out Tryz.underlying48 rfl (by kernel_rfl) ?_) | (rw [← HBS5.out]) | (refine wpList_store_row rfl 48 _ _ rfl b4 #[.int .i64 20, .int .i64 1, .int .i64 201, .int .i64 0, .int .u64 0, .int .u64 0, .int .u64 1, .int .u64 0, .int .u64 0, .int .u64 q0, .int .i64 0, .int .u32 0, .int .i64 0, .int .i64 0, .int .i64 0, .int .u64 0, .int .i64 0, .int .i64 0, .int .u64 0, .slice none 0 0, .bool false, .int .i64 0, .slice none 0 0, .slice none 0 0, .slice none 0 0] rfl rfl 48 #[.int .i64 0, .int .i64 0, .int .i64 0, .int .i64 0, .int .u64 0, .int .u64 0, .int .u64 0, .int .u64 0, .int .u64 0, .int .u64 0, .int .i64 0, .int .u32 0, .int .i64 0, .int .i64 0, .int .i64 0, .int .u64 0, .int .i64 0, .int .i64 0, .int .u64 0, .slice none 0 0, .bool false, .int .i64 0, .slice none 0 0, .slice none 0 0, .slice none 0 0] HZ.out (by kernel_rfl) rfl (by rw [← Array.all_toList]; rfl) ?_; rw [← HV.out]) | (rw [← HV4.out]) | (rw [← HBS.out]) | go_skip | go_guarded | go_step)
  have HTK := Lib.hid (TakeR_first V5 g lq x (HG3.out.no HK35.out) HXX.out.1 HXX.out.2.1 HXX.out.2.2.2.2.1 HLG.out (HL3.out.no HK35.out) qa n qc HXX.out.2.2.2.2.2.1 1 q0 y p0 (some ⟨b5, 0, none⟩) 1 _ (fun _ h => h) HD5.out HXX.out.2.2.1 HXX.out.2.2.2.1.symm (by decide) (by decide) (HTB.out.kept (HFR.out _ HKV.out) (fun h => h)))
  refine HTK.out.mono ?_
  rintro e w4 ⟨a', c', rfl, hg4, hl4, hb4, hk4⟩
  have HG4 := Lib.hid hg4
  have HL4 := Lib.hid hl4
  have HB4 := Lib.hid hb4
  have HK4 := Lib.hid (HKV.out.wide26 hk4 (fun i h => by have := HGW.out; have := HLQ.out; rcases h with h | h <;> omega))
  clear hg4 hl4 hb4 hk4 r0
  go_wp2_with fail
  rw [rounds_succ]
  have r0 := cell_of_row _ _ 1 _ _ _ (HRQ.out _ HK4.out)
  go_upto_region 14 with fail
  have hz := heap_alloc_new w4 (.cells #[.int .i64 0, .int .i64 0, .int .i64 0, .int .i64 0, .int .u64 0, .int .u64 0, .int .u64 0, .int .u64 0, .int .u64 0, .int .u64 0, .int .i64 0, .int .u32 0, .int .i64 0, .int .i64 0, .int .i64 0, .int .u64 0, .int .i64 0, .int .i64 0, .int .u64 0, .slice none 0 0, .bool false, .int .i64 0, .slice none 0 0, .slice none 0 0, .slice none 0 0] 48)
  obtain ⟨b4, hb4⟩ : ∃ b4, b4 = w4.heap.size := ⟨_, rfl⟩
  rw [← hb4] at hz
  have HB4Z : Hid (W.heap.size ≤ b4) := Lib.hid (by rw [hb4]; exact HK4.out.size)
  have HBS : Hid (b4 = w4.heap.size) := Lib.hid hb4
  obtain ⟨V, hV⟩ : ∃ V, V = (w4.alloc (.cells #[.int .i64 0, .int .i64 0, .int .i64 0, .int .i64 0, .int .u64 0, .int .u64 0, .int .u64 0, .int .u64 0, .int .u64 0, .int .u64 0, .int .i64 0, .int .u32 0, .int .i64 0, .int .i64 0, .int .i64 0, .int .u64 0, .int .i64 0, .int .i64 0, .int .u64 0, .slice none 0 0, .bool false, .int .i64 0, .slice none 0 0, .slice none 0 0, .slice none 0 0] 48)).setRow b4 #[.int .i64 20, .int .i64 2, .int .i64 201, .int .i64 0, .int .u64 0, .int .u64 0, .int .u64 1, .int .u64 0, .int .u64 0, .int .u64 q1, .int .i64 0, .int .u32 0, .int .i64 0, .int .i64 0, .int .i64 0, .int .u64 0, .int .i64 0, .int .i64 0, .int .u64 0, .slice none 0 0, .bool false, .int .i64 0, .slice none 0 0, .slice none 0 0, .slice none 0 0] := ⟨_, rfl⟩
  have HV := Lib.hid hV
  have HVR : Hid (V.heap[b4]? = some (.cells #[.int .i64 20, .int .i64 2, .int .i64 201, .int .i64 0, .int .u64 0, .int .u64 0, .int .u64 1, .int .u64 0, .int .u64 0, .int .u64 q1, .int .i64 0, .int .u32 0, .int .i64 0, .int .i64 0, .int .i64 0, .int .u64 0, .int .i64 0, .int .i64 0, .int .u64 0, .slice none 0 0, .bool false, .int .i64 0, .slice none 0 0, .slice none 0 0, .slice none 0 0] 48 (0, 0))) := Lib.hid (by rw [hV]; exact setRow26_at hz)
  have HKA : Hid (Kept NoB w4 V) := Lib.hid (by rw [hV]; exact ((Kept.refl NoB w4).alloc _).setRow26 (.inr (by rw [hb4]; exact Nat.le_refl _)) _)
  have HZ := Lib.hid hz
  have e11 : V.cell? ⟨b4, 11, none⟩ = some (.int .u32 0) := cell_of_row _ _ 11 _ _ _ HVR.out
  have f11 : V.frozen? ⟨b4, 11, none⟩ = false := frz25 HVR.out 11
  have HKB := Lib.hid (HK4.out.wide26 HKA.out (fun _ h => h.elim))
  have y0' : V.cell? ⟨bo, 1, none⟩ = some (.int .u32 y) := cell_of_row _ _ 1 _ _ _ (HRO.out _ HKB.out)
  obtain ⟨V4, hV4⟩ : ∃ V4, V4 = V.setCell ⟨b4, 11, none⟩ (.int .u32 y) := ⟨_, rfl⟩
  have HV4 := Lib.hid hV4
  have HX4 : Hid (V4.heap[b4]? = some (.cells #[.int .i64 20, .int .i64 2, .int .i64 201, .int .i64 0, .int .u64 0, .int .u64 0, .int .u64 1, .int .u64 0, .int .u64 0, .int .u64 q1, .int .i64 0, .int .u32 y, .int .i64 0, .int .i64 0, .int .i64 0, .int .u64 0, .int .i64 0, .int .i64 0, .int .u64 0, .slice none 0 0, .bool false, .int .i64 0, .slice none 0 0, .slice none 0 0, .slice none 0 0] 48 (0, 0))) := Lib.hid (by rw [hV4]; exact bset25 HVR.out 11 (.int .u32 y))
  have HK34 : Hid (Kept NoB w4 V4) := Lib.hid (by rw [hV4]; exact HKA.out.setCell (p := ⟨b4, 11, none⟩) (.inr (by show w4.heap.size ≤ b4; rw [hb4]; exact Nat.le_refl _)) _)
  have HKC := Lib.hid (HK4.out.wide26 HK34.out (fun _ h => h.elim))
  have p0' : V4.cell? ⟨bp, 1, none⟩ = some (.int .u8 p1) := cell_of_row _ _ 1 _ _ _ (HRP.out _ HKC.out)
  obtain ⟨b5, hb5⟩ : ∃ b5, b5 = V4.heap.size := ⟨_, rfl⟩
  have HBS5 : Hid (b5 = V4.heap.size) := Lib.hid hb5
  obtain ⟨V6, hV6⟩ : ∃ V6, V6 = V4.alloc (.cells #[.int .u8 p1] 5) := ⟨_, rfl⟩
  have HV6 := Lib.hid hV6
  have HX6 : Hid (V6.heap[b4]? = some (.cells #[.int .i64 20, .int .i64 2, .int .i64 201, .int .i64 0, .int .u64 0, .int .u64 0, .int .u64 1, .int .u64 0, .int .u64 0, .int .u64 q1, .int .i64 0, .int .u32 y, .int .i64 0, .int .i64 0, .int .i64 0, .int .u64 0, .int .i64 0, .int .i64 0, .int .u64 0, .slice none 0 0, .bool false, .int .i64 0, .slice none 0 0, .slice none 0 0, .slice none 0 0] 48 (0, 0))) := Lib.hid (by rw [hV6]; exact blk_old25 HX4.out _)
  have e24 : V6.cell? ⟨b4, 24, none⟩ = some (.slice none 0 0) := cell_of_row _ _ 24 _ _ _ HX6.out
  have f24 : V6.frozen? ⟨b4, 24, none⟩ = false := frz25 HX6.out 24
  obtain ⟨V5, hV5⟩ : ∃ V5, V5 = V6.setCell ⟨b4, 24, none⟩ (.slice (some ⟨b5, 0, none⟩) 1 1) := ⟨_, rfl⟩
  have HV5 := Lib.hid hV5
  have HX : Hid (V5.heap[b4]? = some (.cells #[.int .i64 20, .int .i64 2, .int .i64 201, .int .i64 0, .int .u64 0, .int .u64 0, .int .u64 1, .int .u64 0, .int .u64 0, .int .u64 q1, .int .i64 0, .int .u32 y, .int .i64 0, .int .i64 0, .int .i64 0, .int .u64 0, .int .i64 0, .int .i64 0, .int .u64 0, .slice none 0 0, .bool false, .int .i64 0, .slice none 0 0, .slice none 0 0, .slice (some ⟨b5, 0, none⟩) 1 1] 48 (0, 0))) := Lib.hid (by rw [hV5]; exact bset25 HX6.out 24 (.slice (some ⟨b5, 0, none⟩) 1 1))
  have HK35 : Hid (Kept NoB w4 V5) := Lib.hid (by rw [hV5, hV6]; exact (HK34.out.alloc _).setCell (p := ⟨b4, 24, none⟩) (.inr (by show w4.heap.size ≤ b4; rw [hb4]; exact Nat.le_refl _)) _)
  have HKV := Lib.hid (HK4.out.wide26 HK35.out (fun _ h => h.elim))
  have HD5 : Hid (BSl V5 (fun i => i < V5.heap.size) (.slice (some ⟨b5, 0, none⟩) 1 1) [p1]) := Lib.hid (by
    have h45 : b4 < b5 := by rw [hb5]; exact heap_lt HX4.out
    have h := cat_one26 V4 p1 hp2 (by have := hp3; omega) 5 (0, 0)
    rw [← hV6, ← hb5] at h
    have h2 : b5 < V6.heap.size := by rw [hV6, hb5]; simp
    have h3 := h.kept (S := fun i => i = b4) ((Kept.refl (fun i => i = b4) V6).setCell (p := ⟨b4, 24, none⟩) (.inl rfl) (.slice (some ⟨b5, 0, none⟩) 1 1)) (fun i h e => by have h : i = b5 := h; have e : i = b4 := e; omega)
    rw [← hV5] at h3
    exact h3.mono (fun i h _ => h))
  clear hz hV hV4 hb4 hb5 hV5 hV6
  go_step
  repeat (first | (rw [← HV6.out]) | (rw [← HV5.out]) | (refine wpList_load_row rfl 48 _ rfl b4 rfl 48 #[.int .i64 20, .int .i64 2, .int .i64 201, .int .i64 0, .int .u64 0, .int .u64 0, .int .u64 1, .int .u64 0, .int .u64 0, .int .u64 q1, .int .i64 0, .int .u32 y, .int .i64 0, .int .i64 0, .int .i64 0, .int .u64 0, .int .i64 0, .int .i64 0, .int .u64 0, .slice none 0 0, .bool false, .int .i64 0, .slice none 0 0, .slice none 0 0, .slice (some ⟨b5, 0, none⟩) 1 1] (0, 0) _ HX.out Tryz.underlying48 rfl (by kernel_rfl) ?_) | (rw [← HBS5.out]) | (refine wpList_store_row rfl 48 _ _ rfl b4 #[.int .i64 20, .int .i64 2, .int .i64 201, .int .i64 0, .int .u64 0, .int .u64 0, .int .u64 1, .int .u64 0, .int .u64 0, .int .u64 q1, .int .i64 0, .int .u32 0, .int .i64 0, .int .i64 0, .int .i64 0, .int .u64 0, .int .i64 0, .int .i64 0, .int .u64 0, .slice none 0 0, .bool false, .int .i64 0, .slice none 0 0, .slice none 0 0, .slice none 0 0] rfl rfl 48 #[.int .i64 0, .int .i64 0, .int .i64 0, .int .i64 0, .int .u64 0, .int .u64 0, .int .u64 0, .int .u64 0, .int .u64 0, .int .u64 0, .int .i64 0, .int .u32 0, .int .i64 0, .int .i64 0, .int .i64 0, .int .u64 0, .int .i64 0, .int .i64 0, .int .u64 0, .slice none 0 0, .bool false, .int .i64 0, .slice none 0 0, .slice none 0 0, .slice none 0 0] HZ.out (by kernel_rfl) rfl (by rw [← Array.all_toList]; rfl) ?_; rw [← HV.out]) | (rw [← HV4.out]) | (rw [← HBS.out]) | go_skip | go_guarded | go_step)
  have HXA : Hid ((csAns x).cl = 1 ∧ (csAns x).nu = 1 ∧ (csAns x).k = 1 ∧ (csAns x).y = y ∧ (csAns x).lp = .pointer (some ⟨lq, 0, none⟩) ∧ (csAns x).tk = 0) := Lib.hid ⟨HXX.out.1, HXX.out.2.1, HXX.out.2.2.1, HXX.out.2.2.2.1, HXX.out.2.2.2.2.1, HXX.out.2.2.2.2.2.2⟩
  have HTK := Lib.hid (TakeR_again V5 g lq (csAns x) (HG4.out.no HK35.out) HXA.out.1 HXA.out.2.1 HXA.out.2.2.2.2.1 0 q0 _ (HL4.out.no HK35.out) 2 q1 y p1 (some ⟨b5, 0, none⟩) 1 _ (fun _ h => h) HD5.out HXA.out.2.2.1 HXA.out.2.2.2.1.symm (by decide) (by decide) (HTB.out.kept (HFR.out _ HKV.out) (fun h => h)))
  refine HTK.out.mono ?_
  rintro e w5 ⟨rfl, hk5⟩
  have HG5 := Lib.hid ((HG4.out.no HK35.out).no hk5)
  have HL5 := Lib.hid ((HL4.out.no HK35.out).no hk5)
  have HB5 := Lib.hid ((HB4.out.kept HK35.out (fun _ _ h => h)).kept hk5 (fun _ _ h => h))
  have HK5 := Lib.hid (HKV.out.wide26 hk5 (fun _ h => h.elim))
  clear hk5 r0
  go_wp2_with fail
  rw [rounds_succ]
  have HRE := Lib.hid (Reply26_set w5 g lq (csAns x) HG5.out HXA.out.2.2.2.2.1 0 q0 a' c' [p0] _ HL5.out HB5.out (by show (1 : Nat) ≤ 1000000; decide))
  go_wp2_with fail
  refine HRE.out.mono ?_
  rintro e w6 ⟨a6, c6, rfl, ho6, hk6⟩
  have HO6 := Lib.hid ho6
  have HG6 := Lib.hid (HG5.out.no hk6)
  have HL6 := Lib.hid (HL5.out.no hk6)
  have HK6 := Lib.hid (HK5.out.wide26 hk6 (fun _ h => h.elim))
  have HR6 := Lib.hid (heap_alloc_new w6 (.cells #[.int .i64 0, .int .u64 q0, .slice a6 1 c6] 51))
  obtain ⟨W6, hW6⟩ : ∃ W6, W6 = w6.alloc (.cells #[.int .i64 0, .int .u64 q0, .slice a6 1 c6] 51) := ⟨_, rfl⟩
  have HW6 := Lib.hid hW6
  obtain ⟨b6, hb6⟩ : ∃ b6, b6 = w6.heap.size := ⟨_, rfl⟩
  have HBS6 := Lib.hid hb6
  have HKA6 : Hid (Kept NoB w6 W6) := Lib.hid (by rw [hW6]; exact (Kept.refl NoB w6).alloc _)
  have hR6 := HR6.out
  rw [← hW6, ← hb6] at hR6
  have HRR := Lib.hid hR6
  have HGB : Hid (¬ b6 = g) := Lib.hid (by have := heap_lt HG6.out; omega)
  have HGA := Lib.hid (HG6.out.no HKA6.out)
  have HLA := Lib.hid (HL6.out.no HKA6.out)
  have HKB6 := Lib.hid (HK6.out.wide26 HKA6.out (fun _ h => h.elim))
  have HBU := Lib.hid (Busy26_no W6 g lq (csAns x) HGA.out (by rw [HXA.out.2.1]; decide) HXA.out.2.2.2.2.1 0 q0 a' _ c' HLA.out)
  have hlen0 : ([p0] : List Int).length = 1 := rfl
  rw [hlen0]
  have HG5L : Hid (g < w5.heap.size) := Lib.hid (heap_lt HG5.out)
  have HDA := Lib.hid (show BSl W6 (fun b => w5.heap.size ≤ b) (.slice a6 1 c6) [p0] from ho6.bsl.kept HKA6.out (fun _ _ h => h))
  clear hk6 ho6 hW6 hb6 hR6 hlen0 HO6
  go_upto_region 21 with fail
  rw [← HBS6.out, ← HW6.out]
  go_wp2_with fail
  refine HBU.out.mono ?_
  rintro e w7 ⟨rfl, hk7⟩
  have HK7 := Lib.hid (HKB6.out.wide26 hk7 (fun _ h => h.elim))
  have HR7 := Lib.hid (hk7.heap (fun h => h) HRR.out)
  have HG7 := Lib.hid (HGA.out.no hk7)
  have HD7 := Lib.hid (HDA.out.kept hk7 (fun _ _ h => h))
  have HL7 := Lib.hid (HLA.out.no hk7)
  have HTI := Lib.hid (Tick26_no w7 g lq (csAns x) HG7.out (by rw [HXA.out.2.1]; decide) HXA.out.2.2.2.2.1 HLG.out 0 q0 a' _ c' HL7.out HXA.out.2.2.2.2.2)
  obtain ⟨s0, s1, s2⟩ := cells3c HR7.out
  have r0 := cell_of_row _ _ 0 _ _ _ (HRQ.out _ HK7.out)
  clear hk7
  go_wp2_with fail
  refine HTI.out.mono ?_
  rintro e w8 ⟨rfl, hk8⟩
  have HK8 := Lib.hid (HK7.out.wide26 hk8 (fun i h => by have h : i = g := h; have := HGW.out; omega))
  have HR8 := Lib.hid (hk8.heap (fun h => HGB.out h) HR7.out)
  have HD8 := Lib.hid (HD7.out.kept hk8 (fun i hi h => by have h : i = g := h; have hi : w5.heap.size ≤ i := hi; have := HG5L.out; omega))
  clear hk8 s0 s1 s2 r0
  obtain ⟨s0, s1, s2⟩ := cells3c HR8.out
  have r1 := cell_of_row _ _ 0 _ _ _ (HRP.out _ HK8.out)
  have HOB := Lib.hid (cat_one26 w8 p0 hp0 (by have := hp1; omega) 5 (0, 0))
  have HKO := Lib.hid ((Kept.refl NoB w8).alloc (.cells #[.int .u8 p0] 5))
  have HK9 := Lib.hid (HK8.out.wide26 HKO.out (fun _ h => h.elim))
  have HSM := Lib.hid (Same_any _ _ [p0] [p0] _ _ _ (HD8.out.kept HKO.out (fun _ _ h => h)) HOB.out)
  rw [decide_eq_true (rfl : ([p0] : List Int) = [p0])] at HSM
  go_wp2_with fail
  refine HSM.out.mono ?_
  rintro e w10 ⟨rfl, hk10⟩
  have HK10 := Lib.hid (HK9.out.wide26 hk10 (fun _ h => h.elim))
  have HAW := Lib.hid (awake26 w10 (HTB.out.kept (HFR.out _ HK10.out) (fun h => h)))
  clear hk10
  go_wp2_with fail
  refine HAW.out.mono ?_
  rintro e w9 ⟨rfl, hk9⟩
  have HK11 := Lib.hid (HK10.out.wide26 hk9 (fun _ h => h.elim))
  clear hk9
  go_wp2
  go_ret
  exact ⟨rfl, HFR.out _ HK11.out⟩
end Go.Proofs.YtclfecninhipnaaGreatDoor
namespace Go.Proofs.YtclfecninhipnaaGreatDoor
open Go.RowKit
set_option linter.unusedVariables false

set_option maxRecDepth 100000 in
set_option maxHeartbeats 8000000 in
theorem Once26_far (w : World) (k y v p p0 p1 q0 q1 : Int) (da : Option Addr) (n dc : Nat) (hn : 2100 < n) (ht : Tab10 w) :
    Calls Tryz.prog 3 #[.agg #[.int .i64 k, .int .u32 y, .int .u64 v, .slice da n dc, .int .i64 p], .agg #[.int .u8 p0, .int .u8 p1], .agg #[.int .u8 q0, .int .u8 q1]] w (BoolE true w) := by
  have HB := Lib.hid (fun w => RBegin_any 1 2 w)
  have hd0 : decide (2100 < (n : Int)) = true := decide_eq_true (by omega)
  obtain ⟨W, hW⟩ : ∃ W, W = ((w.alloc (.cells #[.int .i64 k, .int .u32 y, .int .u64 v, .slice da n dc, .int .i64 p] 26)).alloc (.cells #[.int .u8 p0, .int .u8 p1] 27)).alloc (.cells #[.int .u8 q0, .int .u8 q1] 27) := ⟨_, rfl⟩
  have HW := Lib.hid hW
  have HKW : Hid (Kept NoB w W) := Lib.hid (by rw [hW]; exact (((Kept.refl NoB w).alloc _).alloc _).alloc _)
  have HSZ : Hid (W.heap.size = w.heap.size + 3) := Lib.hid (by rw [hW]; simp)
  obtain ⟨h1, h2, h3⟩ := three26a w (.cells #[.int .i64 k, .int .u32 y, .int .u64 v, .slice da n dc, .int .i64 p] 26) (.cells #[.int .u8 p0, .int .u8 p1] 27) (.cells #[.int .u8 q0, .int .u8 q1] 27)
  rw [← hW] at h1 h2 h3
  have HRO : Hid (∀ w', Kept (fun i => W.heap.size ≤ i) W w' → w'.heap[w.heap.size]? = some (.cells #[.int .i64 k, .int .u32 y, .int .u64 v, .slice da n dc, .int .i64 p] 26 (0, 0))) := Lib.hid (fun w' hk => hk.heap (fun h => by have h : W.heap.size ≤ w.heap.size := h; have := HSZ.out; omega) h1)
  have HRP : Hid (∀ w', Kept (fun i => W.heap.size ≤ i) W w' → w'.heap[w.heap.size + 1]? = some (.cells #[.int .u8 p0, .int .u8 p1] 27 (0, 0))) := Lib.hid (fun w' hk => hk.heap (fun h => by have h : W.heap.size ≤ w.heap.size + 1 := h; have := HSZ.out; omega) h2)
  have HRQ : Hid (∀ w', Kept (fun i => W.heap.size ≤ i) W w' → w'.heap[w.heap.size + 1 + 1]? = some (.cells #[.int .u8 q0, .int .u8 q1] 27 (0, 0))) := Lib.hid (fun w' hk => hk.heap (fun h => by have h : W.heap.size ≤ w.heap.size + 1 + 1 := h; have := HSZ.out; omega) h3)
  have HTB := Lib.hid ht
  have HFR : Hid (∀ w', Kept (fun i => W.heap.size ≤ i) W w' → Kept NoB w w') := Lib.hid (fun w' hk => kept_far26 HKW.out hk (fun i h => by have h : W.heap.size ≤ i := h; have := HSZ.out; omega))
  obtain ⟨bo, hbo⟩ : ∃ bo, bo = w.heap.size := ⟨_, rfl⟩
  rw [← hbo] at HRO HRP HRQ
  obtain ⟨bp, hbp⟩ : ∃ bp, bp = bo + 1 := ⟨_, rfl⟩
  rw [← hbp] at HRP HRQ
  obtain ⟨bq, hbq⟩ : ∃ bq, bq = bp + 1 := ⟨_, rfl⟩
  rw [← hbq] at HRQ
  clear hW h1 h2 h3 ht
  go_enter Tryz.func3, Tryz.ntmps3
  go_upto_region 1 with fail
  rw [← hbo, ← hbp, ← hbq, ← HW.out]
  clear hbo hbp hbq
  go_wp2_with fail
  refine (HB.out W).mono ?_
  rintro e w1 ⟨v0, rfl, hc, hk1⟩
  rw [ex26_x]
  have HK1 : Hid (Kept (fun i => W.heap.size ≤ i) W w1) := Lib.hid ((Kept.refl _ W).wide26 hk1 (fun _ h => h.elim))
  have HN := Lib.hid (CNew_good w1 1 1 (by decide) (by decide) (by decide) (by decide) v0 (begC 1 2) _ hc.r25 (by decide) ex26_all)
  obtain ⟨a, cap, rfl, _⟩ := hc
  rw [ex26_len]
  rw [ex26_len] at HN
  clear hk1
  go_wp2_with fail
  refine HN.out.mono ?_
  rintro e w2 ⟨g, ga, r, z, rfl, hca, hat, hg, hk2⟩
  have HK2 := Lib.hid (HK1.out.wide26 hk2 (fun _ h => h.elim))
  have HG2 := Lib.hid hca
  have HAT := Lib.hid hat
  have HGW : Hid (W.heap.size ≤ g) := Lib.hid (Nat.le_trans HK1.out.size hg)
  have HGT : Hid (¬ 0 = g) := Lib.hid (HTB.out.far26 (by have := HGW.out; have := HSZ.out; omega))
  have HT2 := Lib.hid (HTB.out.kept (HFR.out _ HK2.out) (fun h => h))
  have HF2 : Hid (∀ i, i < w.heap.size → i < w2.heap.size) := Lib.hid (fun i h => by have := (HFR.out _ HK2.out).size; omega)
  obtain ⟨c0, c1, c2, c3, c4⟩ := cells5 (HRO.out _ HK2.out)
  have hd1 : decide (2100 < n) = true := decide_eq_true hn
  have HAW := Lib.hid (awake26 w2 HT2.out)
  clear hca hat hg hk2 hn
  go_wp2_with fail
  refine HAW.out.mono ?_
  rintro e w9 ⟨rfl, hk9⟩
  have HK9 := Lib.hid (HK2.out.wide26 hk9 (fun _ h => h.elim))
  clear hk9
  go_wp2
  go_ret
  exact ⟨rfl, HFR.out _ HK9.out⟩
theorem Once26_any (w : World) (u : Value) (o : Bo) (c q : Int × Int) (hu : ∃ a c, u = .agg #[.int .i64 o.k, .int .u32 o.key, .int .u64 o.r, .slice a o.d.length c, .int .i64 o.p] ∧ BSl w (fun k => k < w.heap.size) (.slice a o.d.length c) o.d) (k0 : 0 ≤ o.key) (k1 : o.key ≤ 4294967295) (p9 : o.p ≤ 9223372036854775807) (hc : 0 ≤ c.1 ∧ c.1 ≤ 255 ∧ 0 ≤ c.2 ∧ c.2 ≤ 255) (hq : 0 ≤ q.1 ∧ q.1 ≤ 255 ∧ 0 ≤ q.2 ∧ q.2 ≤ 255) (ht : Tab10 w) :
    Calls Tryz.prog 3 #[u, .agg #[.int .u8 c.1, .int .u8 c.2], .agg #[.int .u8 q.1, .int .u8 q.2]] w (BoolE true w) := by
  obtain ⟨a, cap, rfl, hd⟩ := hu
  obtain ⟨k, y, v, od, p⟩ := o
  simp only at k0 k1 p9 hd ⊢
  by_cases hn : 2100 < od.length
  · exact Once26_far w k y v p c.1 c.2 q.1 q.2 a od.length cap hn ht
  · by_cases hk : k = 1
    · subst hk
      by_cases hE : chk26r v od.length = 0
      · exact Once26_r w y v p c.1 c.2 q.1 q.2 a od.length cap od rfl hn hd k0 k1 hc.1 hc.2.1 hc.2.2.1 hc.2.2.2 hq.1 hq.2.1 hq.2.2.1 hq.2.2.2 ht p9 hE
      · exact Once26_fail w 1 y v p c.1 c.2 q.1 q.2 a od.length cap od rfl hn hd k0 k1 hc.1 hc.2.1 hc.2.2.1 hc.2.2.2 hq.1 hq.2.1 hq.2.2.1 hq.2.2.2 ht _ hE (fun w' g x _ _ _ => Check26_read w' g y v p 1 a od.length cap)
    · by_cases hE : chkU areReq ⟨0, 1, 1, k, y, v, od⟩ = 0
      · exact Once26_w w k y v p c.1 c.2 q.1 q.2 a od.length cap od rfl hn hd k0 k1 hc.1 hc.2.1 hc.2.2.1 hc.2.2.2 hq.1 hq.2.1 hq.2.2.1 hq.2.2.2 ht hk hE
      · exact Once26_fail w k y v p c.1 c.2 q.1 q.2 a od.length cap od rfl hn hd k0 k1 hc.1 hc.2.1 hc.2.2.1 hc.2.2.2 hq.1 hq.2.1 hq.2.2.1 hq.2.2.2 ht _ hE (fun w' g x hx hcl hkk => by
          have := Check26_write w' g x hx k y v p 1 hk a cap od _ (hd.kept hkk (fun _ _ h => h)) (fun i hi => Nat.lt_of_lt_of_le hi hkk.size) (by omega) (ht.kept hkk (fun h => h))
          rw [hcl] at this
          exact this)
theorem Once26_v (w : World) (u x y : Value) (o : Bo) (c q : Int × Int) (hu : ∃ a c, u = .agg #[.int .i64 o.k, .int .u32 o.key, .int .u64 o.r, .slice a o.d.length c, .int .i64 o.p] ∧ BSl w (fun k => k < w.heap.size) (.slice a o.d.length c) o.d) (k0 : 0 ≤ o.key) (k1 : o.key ≤ 4294967295) (p9 : o.p ≤ 9223372036854775807) (hc : x = .agg #[.int .u8 c.1, .int .u8 c.2] ∧ 0 ≤ c.1 ∧ c.1 ≤ 255 ∧ 0 ≤ c.2 ∧ c.2 ≤ 255) (hq : y = .agg #[.int .u8 q.1, .int .u8 q.2] ∧ 0 ≤ q.1 ∧ q.1 ≤ 255 ∧ 0 ≤ q.2 ∧ q.2 ≤ 255) (ht : Tab10 w) :
    Calls Tryz.prog 3 #[u, x, y] w (BoolE true w) := by
  obtain ⟨rfl, hc⟩ := hc
  obtain ⟨rfl, hq⟩ := hq
  exact Once26_any w u o c q hu k0 k1 p9 hc hq ht
end Go.Proofs.YtclfecninhipnaaGreatDoor
namespace Go.Proofs.YtclfecninhipnaaGreatDoor
open Go.RowKit Go.ChangeShapes Go.WideShapes Go.ChangeAt Go.Deep
set_option linter.unusedVariables false
set_option linter.unusedSimpArgs false

section
variable {H : Type} {enc : TypeId × Value → H} {W : World} {base b0 : Nat}

theorem okWide_array26 {P : Program} {t : TypeId} {w : World} {r : Reach} {base n : Nat} {v : Value} {e : TypeId} (ht : P.underlying t = some (.array n e)) (h : Value.okWide P w r base t v) : ∃ cs, v = .agg cs ∧ cs.size = P.cellsOf t := by
  simp only [Value.okWide, ht] at h
  obtain ⟨cs, h1, h2, _⟩ := h
  exact ⟨cs, h1, h2⟩
theorem list2v26 {α : Type} {cs : List α} (h : cs.length = 2) : ∃ c0 c1, cs = [c0, c1] := by
  match cs, h with
  | [c0, c1], _ => exact ⟨c0, c1, rfl⟩
set_option maxRecDepth 100000 in
/-- Two numbers by value. -/
theorem two8_open {r : Reach} {v : Value} {d : DataW H} {p : List MemPlace} (hv : Value.okWide Tryz.prog W r b0 27 v)
    (h : DataW.Trod enc Tryz.prog W base (fun _ => true) true 27 v d p) : ∃ o : Int × Int, v = .agg #[.int .u8 o.1, .int .u8 o.2] ∧ 0 ≤ o.1 ∧ o.1 ≤ 255 ∧ 0 ≤ o.2 ∧ o.2 ≤ 255 := by
  obtain ⟨cs, rfl, hsz⟩ := okWide_array26 Tryz.underlying27 hv
  have hC : Tryz.prog.cellsOf 27 = 2 := by kernel_rfl
  obtain ⟨l⟩ := cs
  obtain ⟨c0, c1, rfl⟩ := list2v26 (cs := l) (hsz.trans hC)
  obtain ⟨fuel, hf⟩ := h
  obtain ⟨xs, n', _, _, _, hxl, hg⟩ := DataW.trod_array Tryz.underlying27 (by simpa [Value.cells] using hf)
  have hCe : Tryz.prog.cellsOf 5 = 1 := by kernel_rfl
  rw [hCe] at hg
  match xs, hxl with
  | [y0, y1], _ =>
    have g0 : DataW.trod enc Tryz.prog W base (fun _ => true) true n' 5 [c0] = some y0 := hg 0 (by decide)
    have g1 : DataW.trod enc Tryz.prog W base (fun _ => true) true n' 5 [c1] = some y1 := hg 1 (by decide)
    obtain ⟨k0, e0, _, w0⟩ := DataW.trod_int Tryz.underlying5 g0
    obtain ⟨k1, e1, _, w1⟩ := DataW.trod_int Tryz.underlying5 g1
    simp only [List.cons.injEq, and_true] at e0 e1
    subst e0 e1
    exact ⟨(k0, k1), rfl, (bounds_u8 w0).1, (bounds_u8 w0).2, (bounds_u8 w1).1, (bounds_u8 w1).2⟩
set_option maxRecDepth 100000 in
/-- An operation by value, with its last number's bound. -/
theorem bo_open26 {r : Reach} {v : Value} {d : DataW H} {p : List MemPlace} (hv : Value.okWide Tryz.prog W r b0 26 v)
    (h : DataW.Trod enc Tryz.prog W base (fun _ => true) true 26 v d p) : ∃ o : Bo, (∃ a c, v = .agg #[.int .i64 o.k, .int .u32 o.key, .int .u64 o.r, .slice a o.d.length c, .int .i64 o.p] ∧ BSl W (fun k => k < W.heap.size) (.slice a o.d.length c) o.d) ∧ 0 ≤ o.key ∧ o.key ≤ 4294967295 ∧ 0 ≤ o.r ∧ o.r ≤ 18446744073709551615 ∧ o.p ≤ 9223372036854775807 := by
  obtain ⟨cs, rfl, hsz⟩ := okWide_struct Tryz.underlying26 hv
  have hC : Tryz.prog.cellsOf 26 = 5 := by kernel_rfl
  obtain ⟨l⟩ := cs
  obtain ⟨c0, c1, c2, c3, c4, rfl⟩ := list5u (cs := l) (hsz.trans hC)
  obtain ⟨fuel, hf⟩ := h
  obtain ⟨xs, n', _, _, _, hxl, hg⟩ := DataW.trod_struct Tryz.underlying26 (by simpa [Value.cells] using hf)
  have hxl5 : xs.length = 5 := hxl
  match xs, hxl5 with
  | [y0, y1, y2, y3, y4], _ =>
    have g0 : DataW.trod enc Tryz.prog W base (fun _ => true) true n' 3 [c0] = some y0 := hg 0 _ rfl
    have g1 : DataW.trod enc Tryz.prog W base (fun _ => true) true n' 22 [c1] = some y1 := hg 1 _ rfl
    have g2 : DataW.trod enc Tryz.prog W base (fun _ => true) true n' 23 [c2] = some y2 := hg 2 _ rfl
    have g3 : DataW.trod enc Tryz.prog W base (fun _ => true) true n' 24 [c3] = some y3 := hg 3 _ rfl
    have g4 : DataW.trod enc Tryz.prog W base (fun _ => true) true n' 3 [c4] = some y4 := hg 4 _ rfl
    obtain ⟨k0, e0, _, w0⟩ := DataW.trod_int Tryz.underlying3 g0
    obtain ⟨k1, e1, _, w1⟩ := DataW.trod_int Tryz.underlying22 g1
    obtain ⟨k2, e2, _, w2⟩ := DataW.trod_int Tryz.underlying23 g2
    obtain ⟨l, hl⟩ := bsl_cell17 g3
    obtain ⟨k4, e4, _, w4⟩ := DataW.trod_int Tryz.underlying3 g4
    simp only [List.cons.injEq, and_true] at e0 e1 e2 e4
    subst e0 e1 e2 e4
    have hk1 := bounds_u32 w1
    have hk2 := bounds_u64 w2
    obtain ⟨a, c, rfl, rest⟩ := id hl
    exact ⟨⟨k0, k1, k2, l, k4⟩, ⟨a, c, rfl, hl⟩, hk1.1, hk1.2, hk2.1, hk2.2, (bounds_i64 w4).2⟩
end
end Go.Proofs.YtclfecninhipnaaGreatDoor
