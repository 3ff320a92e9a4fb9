/-
  Layer 30: the walk of VolGets.
-/
import Derived.Test.YtiifkcjngajegaaVolM
import Derived.Test.YtiifkcjngajegaaVolO
namespace Go.Proofs.Ytiifkcjngajegaa
open Go.RowKit
set_option linter.unusedVariables false

theorem PSl.low {F G : Nat → Prop} {w : World} {v : Value} {l : List Pt} (h : PSl w F G v l) : PSl w (fun _ => True) (fun k => k < w.heap.size) v l := by
  obtain ⟨ps, h1, h2⟩ := h
  exact ⟨ps, h1.any, h2.mono (fun _ hk _ => hk)⟩
theorem gotP_keys (n b : Int) (bs : List Int) (hB : IsB bs) : (gotP n b bs).2.length ≤ 20 ∧ ∀ j, j < (gotP n b bs).2.length → ((0 ≤ (ptl (gotP n b bs).2 j).1 ∧ (ptl (gotP n b bs).2 j).1 < 4294967296) ∧ 0 ≤ (ptl (gotP n b bs).2 j).2.1 ∧ (ptl (gotP n b bs).2 j).2.1 < 18446744073709551616) := by
  unfold gotP
  by_cases h0 : bs = []
  · rw [if_pos h0]; exact ⟨Nat.zero_le _, fun j hj => by cases hj⟩
  · rw [if_neg h0]
    by_cases hr : rgt30 n b
    · rw [if_neg (fun h => h hr)]
      by_cases hd : (gqs30 (hd30 bs).2.toNat (hd30 bs).1).1.done ≠ 0
      · rw [if_pos hd]; exact ⟨Nat.zero_le _, fun j hj => by cases hj⟩
      · rw [if_neg hd]
        by_cases hc : (gqs30 (hd30 bs).2.toNat (hd30 bs).1).2 = [] ∨ chkP n b (gqs30 (hd30 bs).2.toNat (hd30 bs).1).2 ≠ 0
        · rw [if_pos hc]; exact ⟨Nat.zero_le _, fun j hj => by cases hj⟩
        · rw [if_neg hc]
          have hl := gqs_len30 (hd30 bs).2.toNat (hd30 bs).1
          have hu := upto_le28 ⟨bs, 0⟩ 1 (most := 20) (by decide)
          have hu : (hd30 bs).2 ≤ 20 := hu.2
          have B1 : IsB (hd30 bs).1.l := isB_upto28 (s := ⟨bs, 0⟩) (w := 1) hB (by omega)
          refine ⟨by show (gqs30 (hd30 bs).2.toNat (hd30 bs).1).2.length ≤ 20; omega, fun j hj => ?_⟩
          have hj : j < (gqs30 (hd30 bs).2.toNat (hd30 bs).1).2.length := hj
          exact gqs_bounds30 B1 j (by omega)
    · rw [if_pos hr]; exact ⟨Nat.zero_le _, fun j hj => by cases hj⟩
set_option maxRecDepth 100000 in
set_option maxHeartbeats 4000000 in
theorem VolGets_any (n b : Int) (v : Value) (b0 : List Int) (W : World) (h : BSl W (fun k => k < W.heap.size) v b0) :
    Calls Try.prog 6 #[.agg #[.int .i64 n, .int .i64 b], v] W fun e W' => e = .returned (.bool true) ∧ Kept NoB W W' := by
  obtain ⟨va, vc, rfl, _⟩ := id h
  have HK0 := Lib.hid ((Kept.refl NoB W).alloc (.cells #[.int .i64 n, .int .i64 b] 42))
  have hA0 := heap_alloc_new W (.cells #[.int .i64 n, .int .i64 b] 42)
  have HV := Lib.hid (h.kept HK0.out (fun _ _ h => h))
  obtain ⟨c0, c1⟩ := cell2_30 hA0
  have hk2 := (Kept.refl NoB (W.alloc (.cells #[.int .i64 n, .int .i64 b] 42))).alloc (.cells #[.int .i64 n, .int .i64 b] 44)
  have HK := Lib.hid (HK0.out.trans hk2 (fun _ _ h => h))
  have HA := Lib.hid (hk2.heap (fun h => h) hA0)
  have hd := heap_alloc_new (W.alloc (.cells #[.int .i64 n, .int .i64 b] 42)) (.cells #[.int .i64 n, .int .i64 b] 44)
  rw [show (W.alloc (.cells #[.int .i64 n, .int .i64 b] 42)).heap.size = W.heap.size + 1 by simp] at hd
  have HD := Lib.hid hd
  have HK2 := Lib.hid hk2
  clear h hA0 hd hk2
  go_enter Try.func6, Try.ntmps6
  go_wp2_with fail
  refine (Cut_any _ b0 2500 _ _ HV.out (by omega)).mono ?_
  rintro e w' ⟨v', rfl, hb, rfl⟩
  obtain ⟨bs, hb0⟩ : ∃ b, b = b0.take 2500 := ⟨_, rfl⟩
  rw [← hb0] at hb
  have hbl : bs.length ≤ 2500 := by rw [hb0, List.length_take]; omega
  have HB := Lib.hid (hb.kept HK2.out (fun _ _ h => h))
  have hIB := hb.isB
  obtain ⟨hln, hkeys⟩ := gotP_keys n b bs hIB
  have hgb := gotP_bytes (n := n) (b := b) hIB
  have HG1 := Lib.hid (fun v W' (h : BSl W' (fun k => k < W.heap.size) v bs) => vGet_any n b v bs _ W' h (by omega))
  have HG2 := Lib.hid (fun v W' (h : BSl W' (fun k => k < W.heap.size) v bs) (hs : W.heap.size ≤ W'.heap.size) => rGet30_any n b v bs _ W' h (fun k hk => Nat.lt_of_lt_of_le hk hs))
  obtain ⟨G, hG⟩ : ∃ G, G = gotP n b bs := ⟨_, rfl⟩
  rw [← hG] at HG1 HG2 hln hkeys hgb
  obtain ⟨er, LL⟩ := G
  simp only at HG1 HG2 hln hkeys hgb
  have HPU := Lib.hid (fun x W' (hx : PSl W' (fun _ => True) (fun _ => True) x LL) => vPut_any n b x LL _ _ W' hx.low (fun _ h => h) hkeys)
  obtain ⟨PL, hPL⟩ : ∃ q, q = putP n b LL := ⟨_, rfl⟩
  obtain ⟨gg, hgg⟩ : ∃ q, q = chkP n b LL := ⟨_, rfl⟩
  rw [← hPL, ← hgg] at HPU
  rw [← hPL] at hgb
  have HSA := Lib.hid (fun x y W' (hx : BSl W' (fun _ => True) x PL) (hy : BSl W' (fun k => k < W.heap.size) y bs) => Same_any x y PL bs _ _ W' hx hy)
  have hll : LL.length ≤ 1000 := by omega
  obtain ⟨a, cap, rfl, _⟩ := id hb
  obtain ⟨d0, d1⟩ := cell2_30 HD.out
  clear hb0 hIB hG hb hln hkeys hPL hgg hbl HV HK0 HK2
  by_cases he : er = 0
  · rw [decide_eq_true (hgb he)] at HSA
    subst he
    clear hgb
    go_wp2_with (first
      | (go_at_call 32; refine (HG1.out _ _ HB.out).mono ?_; rintro e w1 ⟨v1, rfl, hv1, hk⟩; have hv1' := hv1.any; (obtain ⟨a1, k1, rfl, _⟩ := hv1.form); replace HK := Lib.hid (HK.out.trans hk (fun _ _ h => h)); replace HA := Lib.hid (hk.heap (fun h => h) HA.out); replace HD := Lib.hid (hk.heap (fun h => h) HD.out); replace HB := Lib.hid (HB.out.kept hk (fun _ _ h => h)); (try replace HL1 := Lib.hid (HL1.out.no hk)); (try replace HL2 := Lib.hid (HL2.out.no hk)); (try replace HP := Lib.hid (HP.out.kept hk (fun _ _ h => h))); clear c0 c1 d0 d1; obtain ⟨c0, c1⟩ := cell2_30 HA.out; obtain ⟨d0, d1⟩ := cell2_30 HD.out; have HL1 := Lib.hid hv1'; clear hv1 hv1'; clear hk)
      | (go_at_call 34; refine (HG2.out _ _ HB.out HK.out.size).mono ?_; rintro e w2 ⟨v2, rfl, hv2, hk⟩; have hv2' := hv2.any; (obtain ⟨a2, k2, rfl, _⟩ := hv2.form); replace HK := Lib.hid (HK.out.trans hk (fun _ _ h => h)); replace HA := Lib.hid (hk.heap (fun h => h) HA.out); replace HD := Lib.hid (hk.heap (fun h => h) HD.out); replace HB := Lib.hid (HB.out.kept hk (fun _ _ h => h)); (try replace HL1 := Lib.hid (HL1.out.no hk)); (try replace HL2 := Lib.hid (HL2.out.no hk)); (try replace HP := Lib.hid (HP.out.kept hk (fun _ _ h => h))); clear c0 c1 d0 d1; obtain ⟨c0, c1⟩ := cell2_30 HA.out; obtain ⟨d0, d1⟩ := cell2_30 HD.out; have HL2 := Lib.hid hv2'; clear hv2 hv2'; clear hk)
      | (go_at_call 27; refine (HPU.out _ _ HL1.out).mono ?_; rintro e w3 ⟨a3, c3, rfl, hb, hk⟩; have hb' := hb.mono (G := fun _ => True) (fun _ _ _ => trivial); replace HK := Lib.hid (HK.out.trans hk (fun _ _ h => h)); replace HA := Lib.hid (hk.heap (fun h => h) HA.out); replace HD := Lib.hid (hk.heap (fun h => h) HD.out); replace HB := Lib.hid (HB.out.kept hk (fun _ _ h => h)); (try replace HL1 := Lib.hid (HL1.out.no hk)); (try replace HL2 := Lib.hid (HL2.out.no hk)); (try replace HP := Lib.hid (HP.out.kept hk (fun _ _ h => h))); clear c0 c1 d0 d1; obtain ⟨c0, c1⟩ := cell2_30 HA.out; obtain ⟨d0, d1⟩ := cell2_30 HD.out; have HP := Lib.hid hb'; clear hb hb'; clear hk)
      | (go_at_call 29; refine (like30_true _ _ LL _ _ _ _ _ HL1.out HL2.out hll).mono ?_; rintro e w4 ⟨rfl, hk⟩; replace HK := Lib.hid (HK.out.trans hk (fun _ _ h => h)); replace HA := Lib.hid (hk.heap (fun h => h) HA.out); replace HD := Lib.hid (hk.heap (fun h => h) HD.out); replace HB := Lib.hid (HB.out.kept hk (fun _ _ h => h)); (try replace HL1 := Lib.hid (HL1.out.no hk)); (try replace HL2 := Lib.hid (HL2.out.no hk)); (try replace HP := Lib.hid (HP.out.kept hk (fun _ _ h => h))); clear c0 c1 d0 d1; obtain ⟨c0, c1⟩ := cell2_30 HA.out; obtain ⟨d0, d1⟩ := cell2_30 HD.out; clear hk)
      | (go_at_call 13; refine (HSA.out _ _ _ HP.out HB.out).mono ?_; rintro e w5 ⟨rfl, hk⟩; replace HK := Lib.hid (HK.out.trans hk (fun _ _ h => h)); replace HA := Lib.hid (hk.heap (fun h => h) HA.out); replace HD := Lib.hid (hk.heap (fun h => h) HD.out); replace HB := Lib.hid (HB.out.kept hk (fun _ _ h => h)); (try replace HL1 := Lib.hid (HL1.out.no hk)); (try replace HL2 := Lib.hid (HL2.out.no hk)); (try replace HP := Lib.hid (HP.out.kept hk (fun _ _ h => h))); clear c0 c1 d0 d1; obtain ⟨c0, c1⟩ := cell2_30 HA.out; obtain ⟨d0, d1⟩ := cell2_30 HD.out; clear hk)
      | (go_at_call 23; refine (awake30_any _).mono ?_; rintro e w6 ⟨rfl, hk⟩; replace HK := Lib.hid (HK.out.trans hk (fun _ _ h => h)); replace HA := Lib.hid (hk.heap (fun h => h) HA.out); replace HD := Lib.hid (hk.heap (fun h => h) HD.out); replace HB := Lib.hid (HB.out.kept hk (fun _ _ h => h)); (try replace HL1 := Lib.hid (HL1.out.no hk)); (try replace HL2 := Lib.hid (HL2.out.no hk)); (try replace HP := Lib.hid (HP.out.kept hk (fun _ _ h => h))); clear c0 c1 d0 d1; obtain ⟨c0, c1⟩ := cell2_30 HA.out; obtain ⟨d0, d1⟩ := cell2_30 HD.out; clear hk))
    go_ret
    exact ⟨rfl, HK.out⟩
  · have hne : (er != 0) = true := bne_iff_ne.2 he
    clear hgb he
    go_wp2_with (first
      | (go_at_call 32; refine (HG1.out _ _ HB.out).mono ?_; rintro e w1 ⟨v1, rfl, hv1, hk⟩; have hv1' := hv1.any; (obtain ⟨a1, k1, rfl, _⟩ := hv1.form); replace HK := Lib.hid (HK.out.trans hk (fun _ _ h => h)); replace HA := Lib.hid (hk.heap (fun h => h) HA.out); replace HD := Lib.hid (hk.heap (fun h => h) HD.out); replace HB := Lib.hid (HB.out.kept hk (fun _ _ h => h)); (try replace HL1 := Lib.hid (HL1.out.no hk)); (try replace HL2 := Lib.hid (HL2.out.no hk)); (try replace HP := Lib.hid (HP.out.kept hk (fun _ _ h => h))); clear c0 c1 d0 d1; obtain ⟨c0, c1⟩ := cell2_30 HA.out; obtain ⟨d0, d1⟩ := cell2_30 HD.out; have HL1 := Lib.hid hv1'; clear hv1 hv1'; clear hk)
      | (go_at_call 34; refine (HG2.out _ _ HB.out HK.out.size).mono ?_; rintro e w2 ⟨v2, rfl, hv2, hk⟩; have hv2' := hv2.any; (obtain ⟨a2, k2, rfl, _⟩ := hv2.form); replace HK := Lib.hid (HK.out.trans hk (fun _ _ h => h)); replace HA := Lib.hid (hk.heap (fun h => h) HA.out); replace HD := Lib.hid (hk.heap (fun h => h) HD.out); replace HB := Lib.hid (HB.out.kept hk (fun _ _ h => h)); (try replace HL1 := Lib.hid (HL1.out.no hk)); (try replace HL2 := Lib.hid (HL2.out.no hk)); (try replace HP := Lib.hid (HP.out.kept hk (fun _ _ h => h))); clear c0 c1 d0 d1; obtain ⟨c0, c1⟩ := cell2_30 HA.out; obtain ⟨d0, d1⟩ := cell2_30 HD.out; have HL2 := Lib.hid hv2'; clear hv2 hv2'; clear hk)
      | (go_at_call 27; refine (HPU.out _ _ HL1.out).mono ?_; rintro e w3 ⟨a3, c3, rfl, hb, hk⟩; have hb' := hb.mono (G := fun _ => True) (fun _ _ _ => trivial); replace HK := Lib.hid (HK.out.trans hk (fun _ _ h => h)); replace HA := Lib.hid (hk.heap (fun h => h) HA.out); replace HD := Lib.hid (hk.heap (fun h => h) HD.out); replace HB := Lib.hid (HB.out.kept hk (fun _ _ h => h)); (try replace HL1 := Lib.hid (HL1.out.no hk)); (try replace HL2 := Lib.hid (HL2.out.no hk)); (try replace HP := Lib.hid (HP.out.kept hk (fun _ _ h => h))); clear c0 c1 d0 d1; obtain ⟨c0, c1⟩ := cell2_30 HA.out; obtain ⟨d0, d1⟩ := cell2_30 HD.out; have HP := Lib.hid hb'; clear hb hb'; clear hk)
      | (go_at_call 29; refine (like30_true _ _ LL _ _ _ _ _ HL1.out HL2.out hll).mono ?_; rintro e w4 ⟨rfl, hk⟩; replace HK := Lib.hid (HK.out.trans hk (fun _ _ h => h)); replace HA := Lib.hid (hk.heap (fun h => h) HA.out); replace HD := Lib.hid (hk.heap (fun h => h) HD.out); replace HB := Lib.hid (HB.out.kept hk (fun _ _ h => h)); (try replace HL1 := Lib.hid (HL1.out.no hk)); (try replace HL2 := Lib.hid (HL2.out.no hk)); (try replace HP := Lib.hid (HP.out.kept hk (fun _ _ h => h))); clear c0 c1 d0 d1; obtain ⟨c0, c1⟩ := cell2_30 HA.out; obtain ⟨d0, d1⟩ := cell2_30 HD.out; clear hk)
      | (go_at_call 13; refine (HSA.out _ _ _ HP.out HB.out).mono ?_; rintro e w5 ⟨rfl, hk⟩; replace HK := Lib.hid (HK.out.trans hk (fun _ _ h => h)); replace HA := Lib.hid (hk.heap (fun h => h) HA.out); replace HD := Lib.hid (hk.heap (fun h => h) HD.out); replace HB := Lib.hid (HB.out.kept hk (fun _ _ h => h)); (try replace HL1 := Lib.hid (HL1.out.no hk)); (try replace HL2 := Lib.hid (HL2.out.no hk)); (try replace HP := Lib.hid (HP.out.kept hk (fun _ _ h => h))); clear c0 c1 d0 d1; obtain ⟨c0, c1⟩ := cell2_30 HA.out; obtain ⟨d0, d1⟩ := cell2_30 HD.out; clear hk)
      | (go_at_call 23; refine (awake30_any _).mono ?_; rintro e w6 ⟨rfl, hk⟩; replace HK := Lib.hid (HK.out.trans hk (fun _ _ h => h)); replace HA := Lib.hid (hk.heap (fun h => h) HA.out); replace HD := Lib.hid (hk.heap (fun h => h) HD.out); replace HB := Lib.hid (HB.out.kept hk (fun _ _ h => h)); (try replace HL1 := Lib.hid (HL1.out.no hk)); (try replace HL2 := Lib.hid (HL2.out.no hk)); (try replace HP := Lib.hid (HP.out.kept hk (fun _ _ h => h))); clear c0 c1 d0 d1; obtain ⟨c0, c1⟩ := cell2_30 HA.out; obtain ⟨d0, d1⟩ := cell2_30 HD.out; clear hk))
    go_ret
    exact ⟨rfl, HK.out⟩
theorem VolGets_v (W : World) (x v : Value) (o : Int × Int) (b0 : List Int) (h : ShpV x o) (hb : BSl W (fun k => k < W.heap.size) v b0) :
    Calls Try.prog 6 #[x, v] W fun e W' => e = .returned (.bool true) ∧ Kept NoB W W' := by
  obtain ⟨rfl, _, _⟩ := h
  exact VolGets_any o.1 o.2 v b0 W hb
end Go.Proofs.Ytiifkcjngajegaa
