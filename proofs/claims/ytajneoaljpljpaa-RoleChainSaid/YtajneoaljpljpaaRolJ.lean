/-
  The page's example of roles; the walk of RoleIs.
-/
import Derived.Test.YtajneoaljpljpaaRolI
namespace Go.Proofs.Ytajneoaljpljpaa
open Go.RowKit
set_option linter.unusedVariables false
set_option linter.unusedSimpArgs false

def AnyC : Nat → Prop := fun _ => True
/-- The example's configuration. -/
def exC : Cf := ⟨0, 1, [1, 2, 3], false, 4⟩
theorem exC_rl : rlOf exC 3 = ⟨true, false, false, true, false, 2, 2, 4⟩ := by
  unfold rlOf
  rw [if_pos (show rgtB exC = true by decide), if_pos (show (3 : Int) ∈ exC.ns by decide), show plc exC.ns 3 = 2 by decide]
  rfl
set_option maxRecDepth 100000 in
theorem awake19 (w : World) : Calls Try.prog 6 #[] w (BoolE true w) := by
  have hb := heap_alloc_new w (.cells #[.int .i64 1, .int .i64 2, .int .i64 3] 3)
  have HK := Lib.hid ((Kept.refl NoB w).alloc (.cells #[.int .i64 1, .int .i64 2, .int .i64 3] 3))
  have HC : Hid (CfR (w.alloc (.cells #[.int .i64 1, .int .i64 2, .int .i64 3] 3)) AnyC (.agg #[.int .i64 0, .int .u64 1, .slice (some ⟨w.heap.size, 0, none⟩) 3 3, .bool false, .int .i64 4]) exC) := Lib.hid
    ⟨_, rfl, ⟨_, 3, rfl, Nat.le_refl _, by decide, (fun h => by cases h), fun _ => ⟨_, 0, rfl, trivial, heap_lt hb, fun j hj => by
      have hj : j < 3 := hj
      rw [cell_of_row _ _ _ _ _ _ hb]
      match j, hj with
      | 0, _ | 1, _ | 2, _ => rfl⟩⟩, by decide, by decide⟩
  have HO := Lib.hid (exC_rl ▸ Of19 _ exC 3 AnyC _ HC.out)
  clear hb
  go_enter Try.func6, Try.ntmps6
  go_wp2_with fail
  refine HO.out.mono ?_
  rintro e w1 ⟨rfl, hk⟩
  have HK1 := Lib.hid (HK.out.trans hk (fun _ _ h => h))
  clear hk
  unfold rlV
  simp only
  go_wp2
  go_ret
  exact ⟨rfl, HK1.out.alloc _⟩
set_option maxRecDepth 100000 in
set_option maxHeartbeats 1000000 in
theorem RoleIs_any (v : Value) (c : Cf) (n p : Int) (hp : p ≤ 9223372036854775807) (w : World) (h : CfR w AnyC v c) : Calls Try.prog 3 #[v, .int .i64 n, .int .i64 p] w (BoolE true w) := by
  have H1 := Lib.hid (fun w' (hk : Kept NoB w w') => Of19 _ c n AnyC w' (h.no hk))
  have H2 := Lib.hid (fun w' (hk : Kept NoB w w') => ROf19 _ c n AnyC w' (h.no hk))
  have H3 := Lib.hid (fun w' (hk : Kept NoB w w') => Head19 _ c AnyC w' (h.no hk))
  have H4 := Lib.hid (fun w' (hk : Kept NoB w w') => RHead19 _ c AnyC w' (h.no hk))
  have H5 := Lib.hid (fun w' (hk : Kept NoB w w') => Tail19 _ c AnyC w' (h.no hk))
  have H6 := Lib.hid (fun w' (hk : Kept NoB w w') => RTail19 _ c AnyC w' (h.no hk))
  have H7 := Lib.hid (fun w' (hk : Kept NoB w w') => Reader19 _ c p hp AnyC w' (h.no hk))
  have H8 := Lib.hid (fun w' (hk : Kept NoB w w') => RReader19 _ c p hp AnyC w' (h.no hk))
  have H9 := Lib.hid (fun w' (hk : Kept NoB w w') => awake19 w')
  obtain ⟨u, rfl, hn, h0, htop⟩ := h
  obtain ⟨a, cap, rfl, hn1, hn2, _⟩ := hn
  unfold maxLen at hn2
  obtain ⟨⟨q0, q1, q2, q3, q4, q5, q6, q7⟩, hR⟩ : ∃ R, R = rlOf c n := ⟨_, rfl⟩
  obtain ⟨x1, hx1⟩ : ∃ x, x = headN c := ⟨_, rfl⟩
  obtain ⟨x2, hx2⟩ : ∃ x, x = tailN c := ⟨_, rfl⟩
  obtain ⟨x3, hx3⟩ : ∃ x, x = readN c p := ⟨_, rfl⟩
  rw [← hR] at H1 H2
  rw [← hx1] at H3 H4
  rw [← hx2] at H5 H6
  rw [← hx3] at H7 H8
  clear hR hx1 hx2 hx3
  unfold RlE rlV at H1 H2
  simp only at H1 H2
  obtain ⟨ch, ep, ns, fr, jn⟩ := c
  simp only at H1 H2 H3 H4 H5 H6 H7 H8 hn1 h0 htop ⊢
  obtain ⟨m, hm⟩ : ∃ m, m = ns.length := ⟨_, rfl⟩
  rw [← hm] at H1 H2 H3 H4 H5 H6 H7 H8 hn1 ⊢
  clear hm
  obtain ⟨V, hV⟩ : ∃ V, V = w.alloc (.cells #[.int .i64 ch, .int .u64 ep, .slice a m cap, .bool fr, .int .i64 jn] 25) := ⟨_, rfl⟩
  have hb : V.heap[w.heap.size]? = some (.cells #[.int .i64 ch, .int .u64 ep, .slice a m cap, .bool fr, .int .i64 jn] 25 (0, 0)) := by rw [hV]; exact heap_alloc_new w _
  have HKV : Hid (Kept NoB w V) := Lib.hid (by rw [hV]; exact (Kept.refl _ _).alloc _)
  have HB := Lib.hid hb
  have HV := Lib.hid hV
  obtain ⟨c0, c1, c2, c3, c4⟩ := cells5 hb
  clear hb hV
  by_cases hm : m ≤ 30
  · have hm1 : (m : Int) ≤ 30 := by omega
    have hm2 : decide (30 < (m : Int)) = false := decide_eq_false (by omega)
    clear hm
    go_enter Try.func3, Try.ntmps3
    go_wp2_with fail
    rw [← HV.out]
    go_wp2_with fail
    have HTEN : Hid (∀ w', Kept NoB V w' → w'.cell? ⟨w.heap.size, 0, none⟩ = some (.int .i64 ch) ∧ w'.cell? ⟨w.heap.size, 1, none⟩ = some (.int .u64 ep) ∧ w'.cell? ⟨w.heap.size, 2, none⟩ = some (.slice a m cap) ∧ w'.cell? ⟨w.heap.size, 3, none⟩ = some (.bool fr) ∧ w'.cell? ⟨w.heap.size, 4, none⟩ = some (.int .i64 jn)) := Lib.hid (fun w' hk => cells5 (hk.heap (fun h => h) HB.out))
    have HKc := Lib.hid (Kept.refl NoB V).drew
    have HT := Lib.hid (HTEN.out _ HKc.out)
    clear c0 c1 c2 c3 c4
    go_region_held3 (fun w' => w'.cell? ⟨w.heap.size, 0, none⟩ = some (.int .i64 ch) ∧ w'.cell? ⟨w.heap.size, 1, none⟩ = some (.int .u64 ep) ∧ w'.cell? ⟨w.heap.size, 2, none⟩ = some (.slice a m cap) ∧ w'.cell? ⟨w.heap.size, 3, none⟩ = some (.bool fr) ∧ w'.cell? ⟨w.heap.size, 4, none⟩ = some (.int .i64 jn)) (with_reducible exact HT.out)
      (first
        | (go_at_call 7; (with_reducible refine (H1.out _ (HKV.out.trans HKc.out (fun _ _ h => h))).mono ?_); rintro e w1 ⟨rfl, hk1⟩; replace HKc := Lib.hid (HKc.out.trans hk1 (fun _ _ h => h)); replace HT := Lib.hid (HTEN.out _ HKc.out); clear hk1)
        | (go_at_call 8; (with_reducible refine (H2.out _ (HKV.out.trans HKc.out (fun _ _ h => h))).mono ?_); rintro e w1 ⟨rfl, hk1⟩; replace HKc := Lib.hid (HKc.out.trans hk1 (fun _ _ h => h)); replace HT := Lib.hid (HTEN.out _ HKc.out); clear hk1)
        | (go_at_call 9; (with_reducible refine (H3.out _ (HKV.out.trans HKc.out (fun _ _ h => h))).mono ?_); rintro e w1 ⟨rfl, hk1⟩; replace HKc := Lib.hid (HKc.out.trans hk1 (fun _ _ h => h)); replace HT := Lib.hid (HTEN.out _ HKc.out); clear hk1)
        | (go_at_call 10; (with_reducible refine (H4.out _ (HKV.out.trans HKc.out (fun _ _ h => h))).mono ?_); rintro e w1 ⟨rfl, hk1⟩; replace HKc := Lib.hid (HKc.out.trans hk1 (fun _ _ h => h)); replace HT := Lib.hid (HTEN.out _ HKc.out); clear hk1)
        | (go_at_call 11; (with_reducible refine (H5.out _ (HKV.out.trans HKc.out (fun _ _ h => h))).mono ?_); rintro e w1 ⟨rfl, hk1⟩; replace HKc := Lib.hid (HKc.out.trans hk1 (fun _ _ h => h)); replace HT := Lib.hid (HTEN.out _ HKc.out); clear hk1)
        | (go_at_call 12; (with_reducible refine (H6.out _ (HKV.out.trans HKc.out (fun _ _ h => h))).mono ?_); rintro e w1 ⟨rfl, hk1⟩; replace HKc := Lib.hid (HKc.out.trans hk1 (fun _ _ h => h)); replace HT := Lib.hid (HTEN.out _ HKc.out); clear hk1)
        | (go_at_call 13; (with_reducible refine (H7.out _ (HKV.out.trans HKc.out (fun _ _ h => h))).mono ?_); rintro e w1 ⟨rfl, hk1⟩; replace HKc := Lib.hid (HKc.out.trans hk1 (fun _ _ h => h)); replace HT := Lib.hid (HTEN.out _ HKc.out); clear hk1)
        | (go_at_call 14; (with_reducible refine (H8.out _ (HKV.out.trans HKc.out (fun _ _ h => h))).mono ?_); rintro e w1 ⟨rfl, hk1⟩; replace HKc := Lib.hid (HKc.out.trans hk1 (fun _ _ h => h)); replace HT := Lib.hid (HTEN.out _ HKc.out); clear hk1)
        | (go_at_call 6; (with_reducible refine (H9.out _ (HKV.out.trans HKc.out (fun _ _ h => h))).mono ?_); rintro e w1 ⟨rfl, hk1⟩; replace HKc := Lib.hid (HKc.out.trans hk1 (fun _ _ h => h)); replace HT := Lib.hid (HTEN.out _ HKc.out); clear hk1))
    go_wp2
    go_ret
    exact ⟨rfl, HKV.out.trans HKc.out (fun _ _ h => h)⟩
  · have hm1 : (30 : Int) < (m : Int) := by omega
    clear hm
    go_enter Try.func3, Try.ntmps3
    go_wp2_with fail
    rw [← HV.out]
    go_wp2_with fail
    refine (H9.out _ HKV.out).mono ?_
    rintro e w1 ⟨rfl, hk⟩
    have HK1 := Lib.hid (HKV.out.trans hk (fun _ _ h => h))
    clear hk
    go_wp2
    go_ret
    exact ⟨rfl, HK1.out⟩
end Go.Proofs.Ytajneoaljpljpaa
