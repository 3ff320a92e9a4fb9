/-
  The walk of RoleReports.
-/
import Derived.Test.YtajneoaljpljpaaRolL
namespace Go.Proofs.Ytajneoaljpljpaa
open Go.RowKit
set_option linter.unusedVariables false
set_option linter.unusedSimpArgs false

theorem repC_len (c : Cf) (n : Int) (l : List Int) : (repC c n l).length ≤ 2 := by
  unfold repC
  have h1 := rep1_len c l (rlOf c n).pred
  have h2 := rep1_len c l (rlOf c n).succ
  rw [List.length_append]
  omega
set_option maxRecDepth 100000 in
set_option maxHeartbeats 2000000 in
theorem RoleReports_any (v u x : Value) (o c : Cf) (l : List Int) (w : World) (ho : CfR w AnyC v o) (h : CfR w AnyC u c) (hl : NSl w AnyC x l) : Calls Try.prog 4 #[v, u, x] w (BoolE true w) := by
  have H1 := Lib.hid (fun w' (hk : Kept NoB w w') => Newer19 _ _ o c w' (ho.no hk) (h.no hk))
  have H2 := Lib.hid (fun w' (hk : Kept NoB w w') => RNewer19 _ _ o c w' (ho.no hk) (h.no hk))
  have H3 := Lib.hid (fun hm w' (hk : Kept NoB w w') => Missing19 _ _ c l w' ((h.no hk).v hm) (hl.kept hk (fun _ _ _ h => h)))
  have H4 := Lib.hid (fun hm w' (hk : Kept NoB w w') => RMissing19 _ _ c l w' ((h.no hk).v hm) (hl.kept hk (fun _ _ _ h => h)))
  have H5 := Lib.hid (fun n w' (hk : Kept NoB w w') => Reports19 _ _ c n l w' (h.no hk) (hl.kept hk (fun _ _ _ h => h)))
  have H6 := Lib.hid (fun n w' (hk : Kept NoB w w') => RReports19 _ _ c n l w' (h.no hk) (hl.kept hk (fun _ _ _ h => h)))
  have H9 := Lib.hid (fun w' (hk : Kept NoB w w') => awake19 w')
  have HRL := Lib.hid (fun n => repC_len c n l)
  obtain ⟨u1, rfl, hn, h0, htop⟩ := h
  obtain ⟨a, cap, rfl, _⟩ := hn
  obtain ⟨u2, rfl, hn', h0', htop'⟩ := ho
  obtain ⟨oa, ocap, rfl, _⟩ := hn'
  obtain ⟨b, cab, rfl, _⟩ := hl
  obtain ⟨R, hR⟩ : ∃ R : Int → List Rc, R = fun n => repC c n l := ⟨_, rfl⟩
  have e1 : ∀ n, repC c n l = R n := fun n => by rw [hR]
  simp only [e1] at H5 H6 HRL
  obtain ⟨b1, hb1⟩ : ∃ b, b = newB o c := ⟨_, rfl⟩
  obtain ⟨b2, hb2⟩ : ∃ b, b = missB c l := ⟨_, rfl⟩
  rw [← hb1] at H1 H2
  rw [← hb2] at H3 H4
  clear hR e1 hb1 hb2
  obtain ⟨ch, ep, ns, fr, jn⟩ := c
  obtain ⟨och, oep, ons, ofr, ojn⟩ := o
  simp only at H1 H2 H3 H4 H5 H6 ⊢
  obtain ⟨m, hm⟩ : ∃ m, m = ns.length := ⟨_, rfl⟩
  obtain ⟨om, hom⟩ : ∃ m, m = ons.length := ⟨_, rfl⟩
  obtain ⟨N, hN⟩ : ∃ N, N = l.length := ⟨_, rfl⟩
  rw [← hm] at H1 H2 H3 H4 H5 H6 ⊢
  rw [← hom] at H1 H2 ⊢
  rw [← hN] at H3 H4 H5 H6 ⊢
  clear hm hom hN
  have hbb1 := heap_alloc_new w (.cells #[.int .i64 och, .int .u64 oep, .slice oa om ocap, .bool ofr, .int .i64 ojn] 25)
  obtain ⟨V, hV⟩ : ∃ V, V = (w.alloc (.cells #[.int .i64 och, .int .u64 oep, .slice oa om ocap, .bool ofr, .int .i64 ojn] 25)).alloc (.cells #[.int .i64 ch, .int .u64 ep, .slice a m cap, .bool fr, .int .i64 jn] 25) := ⟨_, rfl⟩
  have HB1 : Hid (V.heap[w.heap.size]? = some (.cells #[.int .i64 och, .int .u64 oep, .slice oa om ocap, .bool ofr, .int .i64 ojn] 25 (0, 0))) := Lib.hid (by rw [hV]; exact balloc19 hbb1 _)
  have HB2 : Hid (V.heap[w.heap.size + 1]? = some (.cells #[.int .i64 ch, .int .u64 ep, .slice a m cap, .bool fr, .int .i64 jn] 25 (0, 0))) := Lib.hid (by
    have := heap_alloc_new (w.alloc (.cells #[.int .i64 och, .int .u64 oep, .slice oa om ocap, .bool ofr, .int .i64 ojn] 25)) (.cells #[.int .i64 ch, .int .u64 ep, .slice a m cap, .bool fr, .int .i64 jn] 25)
    rw [show (w.alloc (.cells #[.int .i64 och, .int .u64 oep, .slice oa om ocap, .bool ofr, .int .i64 ojn] 25)).heap.size = w.heap.size + 1 by simp] at this
    rw [hV]; exact this)
  have HKV : Hid (Kept NoB w V) := Lib.hid (by rw [hV]; exact ((Kept.refl _ _).alloc _).alloc _)
  have HV := Lib.hid hV
  have HTEN : Hid (∀ w', Kept NoB V w' → w'.cell? ⟨w.heap.size, 0, none⟩ = some (.int .i64 och) ∧ w'.cell? ⟨w.heap.size, 1, none⟩ = some (.int .u64 oep) ∧ w'.cell? ⟨w.heap.size, 2, none⟩ = some (.slice oa om ocap) ∧ w'.cell? ⟨w.heap.size, 3, none⟩ = some (.bool ofr) ∧ w'.cell? ⟨w.heap.size, 4, none⟩ = some (.int .i64 ojn) ∧ w'.cell? ⟨w.heap.size + 1, 0, none⟩ = some (.int .i64 ch) ∧ w'.cell? ⟨w.heap.size + 1, 1, none⟩ = some (.int .u64 ep) ∧ w'.cell? ⟨w.heap.size + 1, 2, none⟩ = some (.slice a m cap) ∧ w'.cell? ⟨w.heap.size + 1, 3, none⟩ = some (.bool fr) ∧ w'.cell? ⟨w.heap.size + 1, 4, none⟩ = some (.int .i64 jn)) := Lib.hid (fun w' hk => by
    obtain ⟨c0, c1, c2, c3, c4⟩ := cells5 (hk.heap (fun h => h) HB1.out)
    exact ⟨c0, c1, c2, c3, c4, cells5 (hk.heap (fun h => h) HB2.out)⟩)
  clear hbb1 hV
  obtain ⟨c0, c1, c2, c3, c4, d0, d1, d2, d3, d4⟩ := HTEN.out V (Kept.refl _ _)
  by_cases hm : m ≤ 30
  · have hm1 : (m : Int) ≤ 30 := by omega
    have hm2 : decide (30 < (m : Int)) = false := decide_eq_false (by omega)
    by_cases hom : om ≤ 30
    · have hom1 : (om : Int) ≤ 30 := by omega
      have hom2 : decide (30 < (om : Int)) = false := decide_eq_false (by omega)
      by_cases hN : N ≤ 40
      · have hN1 : (N : Int) ≤ 40 := by omega
        have hN2 : decide (40 < (N : Int)) = false := decide_eq_false (by omega)
        replace H3 := Lib.hid (H3.out (by omega))
        replace H4 := Lib.hid (H4.out (by omega))
        clear hm hom hN
        go_enter Try.func4, Try.ntmps4
        go_wp2_with fail
        rw [← HV.out]
        go_loopw [7] (fun iv wr => ∃ k : Nat, k ≤ 26 ∧ iv = .int .i64 k ∧ Kept NoB V wr) (fun i _ => 26 - (intOf i).toNat)
        case atStart => exact ⟨0, by omega, rfl, Kept.refl _ _⟩
        case round =>
          obtain ⟨k, hk, rfl, hK⟩ := hrel
          have HKR := Lib.hid hK
          clear c0 c1 c2 c3 c4 d0 d1 d2 d3 d4
          obtain ⟨c0, c1, c2, c3, c4, d0, d1, d2, d3, d4⟩ := HTEN.out wr hK
          clear hK
          by_cases hlt : k ≤ 25
          · have hk1 : (k : Int) ≤ 25 := by omega
            have hkd : decide ((k : Int) ≤ 25) = true := decide_eq_true hk1
            go_wp2_with fail
            refine (H5.out k wr (HKV.out.trans HKR.out (fun _ _ h => h))).mono ?_
            rintro e w1 ⟨v1, rfl, hv1, hk1'⟩
            have HK1 := Lib.hid (HKR.out.trans hk1' (fun _ _ h => h))
            have HV1 := Lib.hid hv1
            clear c0 c1 c2 c3 c4 d0 d1 d2 d3 d4 hk1'
            obtain ⟨c0, c1, c2, c3, c4, d0, d1, d2, d3, d4⟩ := HTEN.out w1 HK1.out
            obtain ⟨a1, n1, rfl⟩ := hv1.form
            clear hv1
            go_wp2_with fail
            refine (H6.out k w1 (HKV.out.trans HK1.out (fun _ _ h => h))).mono ?_
            rintro e w2 ⟨v2, rfl, hv2, hk2'⟩
            have HK2 := Lib.hid (HK1.out.trans hk2' (fun _ _ h => h))
            replace HV1 := Lib.hid (HV1.out.no hk2')
            have HV2 := Lib.hid hv2
            clear c0 c1 c2 c3 c4 d0 d1 d2 d3 d4 hk2'
            obtain ⟨a2, n2, rfl⟩ := hv2.form
            have hl2 := HRL.out k
            obtain ⟨L, hL⟩ : ∃ L, L = R k := ⟨_, rfl⟩
            rw [← hL] at HV1 HV2 hl2 ⊢
            clear hv2 hL
            go_wp2_with fail
            go_loopw [10] (fun jv wr => ∃ j : Nat, j ≤ L.length ∧ jv = .int .i64 j ∧ Kept NoB w2 wr) (fun i _ => L.length - (intOf i).toNat)
            case atStart => exact ⟨0, by omega, rfl, Kept.refl _ _⟩
            case round =>
              obtain ⟨j, hj, rfl, hKj⟩ := hrel
              have HKJ := Lib.hid hKj
              by_cases hjl : j < L.length
              · obtain ⟨r1, q1, e1, _, _, x0, x1, x2, x3⟩ := (HV1.out.no hKj).cells j hjl
                obtain ⟨r2, q2, e2, _, _, y0, y1, y2, y3⟩ := (HV2.out.no hKj).cells j hjl
                injection e1 with e1 e1' e1''
                injection e2 with e2 e2' e2''
                subst e1 e1'' e2 e2''
                obtain ⟨⟨z0, z1, z2, z3⟩, hz⟩ : ∃ z, z = L[j] := ⟨_, rfl⟩
                rw [← hz] at x0 x1 x2 x3 y0 y1 y2 y3
                simp only at x0 x1 x2 x3 y0 y1 y2 y3
                have hj1 : (j : Int) < (L.length : Int) := by omega
                have hj0 : (0 : Int) ≤ (j : Int) := by omega
                clear hz hKj e1' e2'
                go_wp2_with fail
                go_quiet (fail)
                all_goals go_wp2
                all_goals exact ⟨⟨j + 1, by omega, by go_num, HKJ.out.drewN _⟩, by simp [intOf]; omega⟩
              · obtain rfl : j = L.length := by omega
                clear hKj
                go_wp2
                exact ⟨⟨k + 1, by omega, by go_num, HK2.out.trans HKJ.out (fun _ _ h => h)⟩, by simp [intOf]; omega⟩
          · obtain rfl : k = 26 := by omega
            clear hlt hk
            go_wp2_with fail
            have HKc := Lib.hid (HKR.out.drew)
            have HT := Lib.hid (HTEN.out _ HKc.out)
            clear c0 c1 c2 c3 c4 d0 d1 d2 d3 d4
            go_region_held3 (fun w' => w'.cell? ⟨w.heap.size, 0, none⟩ = some (.int .i64 och) ∧ w'.cell? ⟨w.heap.size, 1, none⟩ = some (.int .u64 oep) ∧ w'.cell? ⟨w.heap.size, 2, none⟩ = some (.slice oa om ocap) ∧ w'.cell? ⟨w.heap.size, 3, none⟩ = some (.bool ofr) ∧ w'.cell? ⟨w.heap.size, 4, none⟩ = some (.int .i64 ojn) ∧ w'.cell? ⟨w.heap.size + 1, 0, none⟩ = some (.int .i64 ch) ∧ w'.cell? ⟨w.heap.size + 1, 1, none⟩ = some (.int .u64 ep) ∧ w'.cell? ⟨w.heap.size + 1, 2, none⟩ = some (.slice a m cap) ∧ w'.cell? ⟨w.heap.size + 1, 3, none⟩ = some (.bool fr) ∧ w'.cell? ⟨w.heap.size + 1, 4, none⟩ = some (.int .i64 jn)) (with_reducible exact HT.out)
              (first
              | (go_at_call 17; (with_reducible refine (H1.out _ (HKV.out.trans HKc.out (fun _ _ h => h))).mono ?_); rintro e w1 ⟨rfl, hk1⟩; replace HKc := Lib.hid (HKc.out.trans hk1 (fun _ _ h => h)); replace HT := Lib.hid (HTEN.out _ HKc.out); clear hk1)
              | (go_at_call 18; (with_reducible refine (H2.out _ (HKV.out.trans HKc.out (fun _ _ h => h))).mono ?_); rintro e w1 ⟨rfl, hk1⟩; replace HKc := Lib.hid (HKc.out.trans hk1 (fun _ _ h => h)); replace HT := Lib.hid (HTEN.out _ HKc.out); clear hk1)
              | (go_at_call 19; (with_reducible refine (H3.out _ (HKV.out.trans HKc.out (fun _ _ h => h))).mono ?_); rintro e w1 ⟨rfl, hk1⟩; replace HKc := Lib.hid (HKc.out.trans hk1 (fun _ _ h => h)); replace HT := Lib.hid (HTEN.out _ HKc.out); clear hk1)
              | (go_at_call 20; (with_reducible refine (H4.out _ (HKV.out.trans HKc.out (fun _ _ h => h))).mono ?_); rintro e w1 ⟨rfl, hk1⟩; replace HKc := Lib.hid (HKc.out.trans hk1 (fun _ _ h => h)); replace HT := Lib.hid (HTEN.out _ HKc.out); clear hk1)
              | (go_at_call 6; (with_reducible refine (H9.out _ (HKV.out.trans HKc.out (fun _ _ h => h))).mono ?_); rintro e w1 ⟨rfl, hk1⟩; replace HKc := Lib.hid (HKc.out.trans hk1 (fun _ _ h => h)); replace HT := Lib.hid (HTEN.out _ HKc.out); clear hk1))
            go_wp2
            go_ret
            exact ⟨rfl, HKV.out.trans HKc.out (fun _ _ h => h)⟩
      · have hN1 : (40 : Int) < (N : Int) := by omega
        clear hm hom hN
        go_enter Try.func4, Try.ntmps4
        go_wp2_with fail
        rw [← HV.out]
        refine (H9.out _ HKV.out).mono ?_
        rintro e w1 ⟨rfl, hk⟩
        have HK1 := Lib.hid (HKV.out.trans hk (fun _ _ h => h))
        clear hk
        go_wp2
        go_ret
        exact ⟨rfl, HK1.out⟩
    · have hom1 : (30 : Int) < (om : Int) := by omega
      clear hm hom
      go_enter Try.func4, Try.ntmps4
      go_wp2_with fail
      rw [← HV.out]
      refine (H9.out _ HKV.out).mono ?_
      rintro e w1 ⟨rfl, hk⟩
      have HK1 := Lib.hid (HKV.out.trans hk (fun _ _ h => h))
      clear hk
      go_wp2
      go_ret
      exact ⟨rfl, HK1.out⟩
  · have hm1 : (30 : Int) < (m : Int) := by omega
    clear hm
    go_enter Try.func4, Try.ntmps4
    go_wp2_with fail
    rw [← HV.out]
    refine (H9.out _ HKV.out).mono ?_
    rintro e w1 ⟨rfl, hk⟩
    have HK1 := Lib.hid (HKV.out.trans hk (fun _ _ h => h))
    clear hk
    go_wp2
    go_ret
    exact ⟨rfl, HK1.out⟩
end Go.Proofs.Ytajneoaljpljpaa
