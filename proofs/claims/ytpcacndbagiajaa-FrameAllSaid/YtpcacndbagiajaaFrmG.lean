/-
  awake of the statements of layer 3; the walks of FrameCuts and FramePuts.
-/
import Derived.Test.YtpcacndbagiajaaFrmF
namespace Go.Proofs.Ytpcacndbagiajaa
open Go.RowKit

theorem seven_put : putF 7 [] = ([7, 0, 0] ++ le4 (more 0 [7, 0, 0]), 0) := by decide +kernel
theorem seven_get : getF ([7, 0, 0] ++ le4 (more 0 [7, 0, 0])) = ⟨7, [], 7, 0⟩ := by
  have h1 : sizeF ([7, 0, 0] ++ le4 (more 0 [7, 0, 0])) = (7, 0) := by decide +kernel
  have h2 : lenF ([7, 0, 0] ++ le4 (more 0 [7, 0, 0])) = 0 := by decide +kernel
  have h3 : fitsB ([7, 0, 0] ++ le4 (more 0 [7, 0, 0])) = true := sealed_fits _
  have hl : ([7, 0, 0] ++ le4 (more 0 [7, 0, 0])).length = 7 := rfl
  have hc : cutF ([7, 0, 0] ++ le4 (more 0 [7, 0, 0])) = ⟨7, [], 7, 0⟩ := by
    unfold cutF
    rw [h1, h2, if_neg (by decide), List.take_of_length_le (by rw [hl]; decide), if_pos h3]
    rfl
  unfold getF
  rw [hc, hl, if_neg (by decide)]

set_option maxRecDepth 100000 in
theorem awake3_any (w : World) : Calls Try.prog 37 #[] w fun e w' => e = .returned (.bool true) ∧ Kept NoB w w' := by
  go_enter Try.func37, Try.ntmps37
  go_wp2_with fail
  refine (FNew_nil _).mono ?_
  rintro e w1 ⟨g, rfl, hg, ht1, hc1, hk1⟩
  have HT1 := Lib.hid ht1
  have HC1 := Lib.hid hc1
  have HK1 := Lib.hid hk1
  have hgl := hc1.lt
  clear ht1 hc1 hk1
  go_wp2_with fail
  refine (FPut_any g w.heap.size false 0 0 7 _ [] NoB _ HC1.out HT1.out (by omega) (BSl.nil _ _) (by simp)).mono ?_
  rintro e w2 ⟨v2, rfl, hv2, ht2, hk2⟩
  rw [seven_put] at hv2 ⊢
  obtain ⟨s, hs⟩ : ∃ s, s = [7, 0, 0] ++ le4 (more 0 [7, 0, 0]) := ⟨_, rfl⟩
  have hsl : s.length = 7 := by rw [hs]; rfl
  have HG := Lib.hid seven_get
  rw [← hs] at hv2 HG
  have HC2 := Lib.hid (HC1.out.kept hk2 (fun h => by have e : g = w.heap.size := h; omega))
  have HK2 := Lib.hid (HK1.out.one_new hk2 (Nat.le_refl _))
  have HT2 := Lib.hid ht2
  obtain ⟨va, vc, rfl⟩ := own_form hv2.2.1
  rw [hsl]
  have HV2 := Lib.hid hv2
  rw [hsl] at HV2
  have HSL := Lib.hid hsl
  have hs1 := HT1.out.lt
  clear hv2 ht2 hk2 hs hsl
  go_wp2_with fail
  obtain ⟨m2, ht2⟩ := HT2.out
  refine (Get3_any g w.heap.size m2 0 0 _ s _ _ HC2.out ht2 HV2.out.bsl (by omega) (by omega) (by omega) (by omega) (by omega) (by omega)).mono ?_
  rintro e w3 ⟨v3, rfl, hv3, ht3, hc3, hk3⟩
  rw [HG.out] at hv3 ⊢
  obtain ⟨wa, wc, rfl⟩ := own_form hv3.2.1
  have HK3 := Lib.hid (show Kept NoB w w3 from HK2.out.trans hk3 (fun i hi h => by rcases h with h | h <;> omega))
  go_wp2
  go_ret
  exact ⟨rfl, HK3.out.alloc _⟩

set_option maxHeartbeats 1000000 in
set_option maxRecDepth 100000 in
theorem FrameCuts_any (v : Value) (l0 : List Int) (w : World) (h : BSl w (fun k => k < w.heap.size) v l0) :
    Calls Try.prog 7 #[v] w fun e w' => e = .returned (.bool true) ∧ Kept NoB w w' := by
  have HV := Lib.hid h
  obtain ⟨va, vcap, rfl, _⟩ := h
  go_enter Try.func7, Try.ntmps7
  go_wp2_with fail
  refine (Cut_any _ l0 300 _ _ HV.out (by omega)).mono ?_
  rintro e w1 ⟨c, rfl, hc, rfl⟩
  obtain ⟨l, hl⟩ : ∃ m, m = l0.take 300 := ⟨_, rfl⟩
  have hl300 : l.length ≤ 300 := by rw [hl, List.length_take]; omega
  rw [← hl] at hc
  have HC := Lib.hid hc
  obtain ⟨ca, cc, rfl, _⟩ := hc
  clear HV hl
  obtain ⟨r, hr⟩ : ∃ r, r = cutF l := ⟨_, rfl⟩
  obtain ⟨q, hq⟩ : ∃ q, q = getF l := ⟨_, rfl⟩
  obtain ⟨rk, rb, rn, re⟩ := r
  obtain ⟨qk, qb, qn, qe⟩ := q
  have HRR := Lib.hid hr
  have HQQ := Lib.hid hq
  clear hr hq
  go_wp2_with fail
  refine (FNew_nil _).mono ?_
  rintro e w1 ⟨g, rfl, hg, ht1, hc1, hk1⟩
  have HT1 := Lib.hid ht1
  have HC1 := Lib.hid hc1
  have HK1 := Lib.hid hk1
  have HB1 := Lib.hid (HC.out.kept hk1 (fun _ _ h => h))
  have hgl := hc1.lt
  clear ht1 hc1 hk1
  go_wp2_with fail
  refine (Cut3_any g w.heap.size false 0 0 _ l _ _ HC1.out HT1.out HB1.out (by omega) (by omega) (by omega) (by omega) (by omega) (by omega)).mono ?_
  rintro e w2 ⟨x2, rfl, hx2, ht2, hc2, hk2⟩
  rw [← HRR.out] at hx2 hc2 ⊢
  obtain ⟨xa, xc, rfl⟩ := own_form hx2.2.1
  have HX2 := Lib.hid hx2
  have HT2 := Lib.hid ht2
  have HC2 := Lib.hid hc2
  have HK2 := Lib.hid (show Kept NoB w w2 from HK1.out.trans hk2 (fun i hi h => by rcases h with h | h <;> omega))
  have HB2 := Lib.hid (HB1.out.kept hk2 (fun k h1 h2 => by rcases h2 with h2 | h2 <;> omega))
  have hz12 := hk2.size
  have hzw1 := HT1.out.lt
  clear hx2 ht2 hc2 hk2
  go_wp2_with fail
  have hB0 : ∀ k, k < w.heap.size → ¬ Two g w.heap.size k := fun k h1 h2 => by rcases h2 with h2 | h2 <;> omega
  have hB1 : ∀ k, w1.heap.size ≤ k → ¬ Two g w.heap.size k := fun k h1 h2 => by rcases h2 with h2 | h2 <;> omega
  have hz2 := HK2.out.size
  have HH0 := Lib.hid hB0
  have HH1 := Lib.hid hB1
  clear hB0 hB1
  refine (RCutF_any _ l (fun k => k < w.heap.size) _ (HB2.out.kept (S := NoB) ((Kept.refl _ _).alloc _) (fun _ _ h => h)) (fun k h => by simp; omega) (by omega)).mono ?_
  rintro e w3 ⟨y3, rfl, hy3, hk3⟩
  rw [← HRR.out] at hy3 ⊢
  have HY3 := Lib.hid hy3
  obtain ⟨ya, yc, rfl, _⟩ := hy3
  have bx3 := Lib.hid (hk3.heap (fun h => h) (heap_alloc_new w2 _))
  have hk23 : Kept NoB w2 w3 := ((Kept.refl _ _).alloc _).trans hk3 (fun _ _ h => h)
  have hlx := heap_lt bx3.out
  have HX3 := Lib.hid (HX2.out.kept hk23 (fun _ _ h => h))
  have HT3 := Lib.hid (HT2.out.kept hk23 (fun h => h))
  have HC3 := Lib.hid (HC2.out.kept hk23 (fun h => h))
  have HB3 := Lib.hid (HB2.out.kept hk23 (fun _ _ h => h))
  have HK3 := Lib.hid (HK2.out.trans hk23 (fun _ _ h => h))
  clear hk3 hk23
  go_wp2_with fail
  obtain ⟨m3, ht3⟩ := HT3.out
  have hka : ∀ o : Obj, Kept NoB w3 (w3.alloc o) := fun o => (Kept.refl _ _).alloc o
  have hn0 : 0 ≤ goodN re 0 1 ∧ goodN re 0 1 < 100000 ∧ 0 ≤ badN re 0 ∧ badN re 0 < 100000 := by unfold goodN badN; split <;> omega
  refine (Get3_any g w.heap.size m3 (goodN re 0 1) (badN re 0) _ l _ _ (HC3.out.kept (hka _) (fun h => h)) (ht3.kept (hka _) (fun h => h)) (HB3.out.kept (hka _) (fun _ _ h => h)) (by omega) (by omega) hn0.1 hn0.2.1 hn0.2.2.1 hn0.2.2.2).mono ?_
  rintro e w4 ⟨p4, rfl, hp4, ht4, hc4, hk4⟩
  clear hka hn0 ht3 ht4 hc4
  rw [← HQQ.out] at hp4 ⊢
  obtain ⟨pa, pc, rfl⟩ := own_form hp4.2.1
  have HP4 := Lib.hid hp4
  have by4 := Lib.hid (hk4.heap (fun h => by rcases h with h | h <;> omega) (heap_alloc_new w3 _))
  have hk34 : Kept (Two g w.heap.size) w3 w4 := ((Kept.refl _ _).alloc _).trans hk4 (fun _ _ h => h)
  have bx4 := Lib.hid (hk34.heap (fun h => by rcases h with h | h <;> omega) bx3.out)
  have hly := heap_lt by4.out
  have HX4 := Lib.hid (HX3.out.kept hk34 HH1.out)
  have HY4 := Lib.hid (HY3.out.kept hk34 HH0.out)
  have HB4 := Lib.hid (HB3.out.kept hk34 HH0.out)
  have HK4 := Lib.hid (HK3.out.trans hk34 (fun i hi h => by rcases h with h | h <;> omega))
  clear hp4 hk4 hk34 bx3
  go_wp2_with fail
  have hz4 := HK4.out.size
  refine (RGetF_any _ l (fun k => k < w.heap.size) _ (HB4.out.kept (S := NoB) ((Kept.refl _ _).alloc _) (fun _ _ h => h)) (fun k h => by simp; omega) (by omega)).mono ?_
  rintro e w5 ⟨q5, rfl, hq5, hk5⟩
  rw [← HQQ.out] at hq5 ⊢
  have HQ5 := Lib.hid hq5
  obtain ⟨qa, qc, rfl, _⟩ := hq5
  have bp5 := Lib.hid (hk5.heap (fun h => h) (heap_alloc_new w4 _))
  have hk45 : Kept NoB w4 w5 := ((Kept.refl _ _).alloc _).trans hk5 (fun _ _ h => h)
  have bx5 := Lib.hid (hk45.heap (fun h => h) bx4.out)
  have by5 := Lib.hid (hk45.heap (fun h => h) by4.out)
  have hlp := heap_lt bp5.out
  have HX5 := Lib.hid (HX4.out.kept hk45 (fun _ _ h => h))
  have HY5 := Lib.hid (HY4.out.kept hk45 (fun _ _ h => h))
  have HP5 := Lib.hid (HP4.out.kept hk45 (fun _ _ h => h))
  have HK5 := Lib.hid (HK4.out.trans hk45 (fun _ _ h => h))
  clear hk5 hk45 bx4 by4
  have x0 : (w5.alloc (.cells #[.int .u8 qk, .slice qa qb.length qc] 76)).cell? ⟨w2.heap.size, 0, none⟩ = some (.int .u8 rk) := cell_alloc (cell_of_row w5 _ 0 _ _ _ bx5.out) _
  have x1 : (w5.alloc (.cells #[.int .u8 qk, .slice qa qb.length qc] 76)).cell? ⟨w2.heap.size, 1, none⟩ = some (.slice xa rb.length xc) := cell_alloc (cell_of_row w5 _ 1 _ _ _ bx5.out) _
  have y0 : (w5.alloc (.cells #[.int .u8 qk, .slice qa qb.length qc] 76)).cell? ⟨w3.heap.size, 0, none⟩ = some (.int .u8 rk) := cell_alloc (cell_of_row w5 _ 0 _ _ _ by5.out) _
  have y1 : (w5.alloc (.cells #[.int .u8 qk, .slice qa qb.length qc] 76)).cell? ⟨w3.heap.size, 1, none⟩ = some (.slice ya rb.length yc) := cell_alloc (cell_of_row w5 _ 1 _ _ _ by5.out) _
  go_wp2_with fail
  have hka : Kept NoB w5 (w5.alloc (.cells #[.int .u8 qk, .slice qa qb.length qc] 76)) := (Kept.refl _ _).alloc _
  refine (like_any rk rk _ _ rb rb _ _ _ (HX5.out.bsl.kept hka (fun _ _ h => h)) (HY5.out.kept hka (fun _ _ h => h))).mono ?_
  rintro e w6 ⟨rfl, hk6⟩
  rw [decide_eq_true (rfl : rk = rk), decide_eq_true (rfl : rb = rb)]
  have hk56 : Kept NoB w5 w6 := hka.trans hk6 (fun _ _ h => h)
  have bp6 := hk56.heap (fun h => h) bp5.out
  have bq6 : w6.heap[w5.heap.size]? = some (.cells #[.int .u8 qk, .slice qa qb.length qc] 76 (0, 0)) := hk6.heap (fun h => h) (heap_alloc_new w5 _)
  have p0 : w6.cell? ⟨w4.heap.size, 0, none⟩ = some (.int .u8 qk) := cell_of_row w6 _ 0 _ _ _ bp6
  have p1 : w6.cell? ⟨w4.heap.size, 1, none⟩ = some (.slice pa qb.length pc) := cell_of_row w6 _ 1 _ _ _ bp6
  have q0 : w6.cell? ⟨w5.heap.size, 0, none⟩ = some (.int .u8 qk) := cell_of_row w6 _ 0 _ _ _ bq6
  have q1 : w6.cell? ⟨w5.heap.size, 1, none⟩ = some (.slice qa qb.length qc) := cell_of_row w6 _ 1 _ _ _ bq6
  have HP6 := Lib.hid (HP5.out.kept hk56 (fun _ _ h => h))
  have HQ6 := Lib.hid (HQ5.out.kept hk56 (fun _ _ h => h))
  have HK6 := Lib.hid (HK5.out.trans hk56 (fun _ _ h => h))
  clear hka hk6 hk56 bp6 bq6 x0 x1 y0 y1
  go_wp2_with fail
  refine (like_any qk qk _ _ qb qb _ _ _ HP6.out.bsl HQ6.out).mono ?_
  rintro e w7 ⟨rfl, hk7⟩
  rw [decide_eq_true (rfl : qk = qk), decide_eq_true (rfl : qb = qb)]
  go_wp2_with fail
  refine (awake3_any _).mono ?_
  rintro e w8 ⟨rfl, hk8⟩
  go_wp2
  go_ret
  exact ⟨rfl, (HK6.out.trans hk7 (fun _ _ h => h)).trans hk8 (fun _ _ h => h)⟩
end Go.Proofs.Ytpcacndbagiajaa
