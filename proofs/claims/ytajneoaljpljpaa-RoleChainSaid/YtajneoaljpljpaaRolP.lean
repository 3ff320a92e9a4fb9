/-
  The walk of RoleChain.
-/
import Derived.Test.YtajneoaljpljpaaRolJ
import Derived.IntWalk
import Derived.Deep.Cut
namespace Go.Proofs.Ytajneoaljpljpaa
open Go.RowKit
set_option linter.unusedVariables false
set_option linter.unusedSimpArgs false

/-- 1 as soon as a number was reached. -/
def le1 (x k : Int) : Int := if x ≤ k then 1 else 0
theorem le1_step (x k : Int) : le1 x (k + 1) = le1 x k + (if k + 1 = x then 1 else 0) := by
  unfold le1
  split <;> split <;> split <;> omega
theorem le1_range (x k : Int) : 0 ≤ le1 x k ∧ le1 x k ≤ 1 := by unfold le1; split <;> decide
theorem cnt_le (l : List Int) (k : Int) : cntN l k ≤ l.length := List.countP_le_length
theorem fld19_5 (y0 y1 y2 y3 y4 : Bool) (y5 y6 y7 : Int) (w : World) : (Instr.field 29 (.agg #[.bool y0, .bool y1, .bool y2, .bool y3, .bool y4, .int .i64 y5, .int .i64 y6, .int .i64 y7]) 5).run Try.prog w = .ok (.int .i64 y5) w := by kernel_rfl
theorem fld19_6 (y0 y1 y2 y3 y4 : Bool) (y5 y6 y7 : Int) (w : World) : (Instr.field 29 (.agg #[.bool y0, .bool y1, .bool y2, .bool y3, .bool y4, .int .i64 y5, .int .i64 y6, .int .i64 y7]) 6).run Try.prog w = .ok (.int .i64 y6) w := by kernel_rfl
theorem fld19_7 (y0 y1 y2 y3 y4 : Bool) (y5 y6 y7 : Int) (w : World) : (Instr.field 29 (.agg #[.bool y0, .bool y1, .bool y2, .bool y3, .bool y4, .int .i64 y5, .int .i64 y6, .int .i64 y7]) 7).run Try.prog w = .ok (.int .i64 y7) w := by kernel_rfl
structure ChF (c : Cf) (n : Int) (R : Rl) : Prop where
  pb : R.pred ≠ 0 → (rlOf c R.pred).succ = n
  sb : R.succ ≠ 0 → (rlOf c R.succ).pred = n
  ji : (R.joins && R.inn) = false
  hp : R.inn = true → R.head = decide (R.pred = 0)
  ts : R.inn = true → R.tail = decide (R.succ = c.jn)
  ii : R.inn = decide (n ∈ c.ns)
  hi : R.head = decide (n = c.ns.getD 0 0)
  ti : R.tail = decide (n = c.ns.getD (c.ns.length - 1) 0)
  hn : R.inn = false → R.head = false ∧ R.tail = false
theorem ch_facts {c : Cf} (h : rgtB c = true) (n : Int) : ChF c n (rlOf c n) := by
  refine ⟨pred_back h n, succ_back h n, join_in c n, head_pred h n, tail_succ h n, in_iff h n, head_iff h n, tail_iff h n, fun hi => ?_⟩
  rcases rl_cases h n with ⟨k, hk, _, _, e⟩ | ⟨_, _, _, e⟩ | ⟨_, e⟩
  · rw [e] at hi; cases hi
  · rw [e]; exact ⟨rfl, rfl⟩
  · rw [e]; exact ⟨rfl, rfl⟩
set_option maxRecDepth 100000 in
set_option maxHeartbeats 40000000 in
theorem RoleChain_any (v : Value) (c : Cf) (w : World) (h : CfR w AnyC v c) : Calls Try.prog 5 #[v] w (BoolE true w) := by
  have HR := Lib.hid (fun w' (hk : Kept NoB w w') => RRight19 _ c AnyC w' (h.no hk))
  have HO := Lib.hid (fun n w' (hk : Kept NoB w w') => Of19 _ c n AnyC w' (h.no hk))
  have HH := Lib.hid (fun w' (hk : Kept NoB w w') => Head19 _ c AnyC w' (h.no hk))
  have H9 := Lib.hid (fun w' (hk : Kept NoB w w') => awake19 w')
  obtain ⟨u1, rfl, hn, h0, htop⟩ := h
  obtain ⟨a, cap, rfl, _⟩ := id hn
  have HN := Lib.hid (fun w' (hk : Kept NoB w w') => hn.kept hk (fun _ _ _ h => h))
  obtain ⟨V, hV⟩ : ∃ V, V = w.alloc (.cells #[.int .i64 c.ch, .int .u64 c.ep, .slice a c.ns.length cap, .bool c.fr, .int .i64 c.jn] 25) := ⟨_, rfl⟩
  have HB : Hid (V.heap[w.heap.size]? = some (.cells #[.int .i64 c.ch, .int .u64 c.ep, .slice a c.ns.length cap, .bool c.fr, .int .i64 c.jn] 25 (0, 0))) := Lib.hid (by rw [hV]; exact heap_alloc_new w _)
  have HKV : Hid (Kept NoB w V) := Lib.hid (by rw [hV]; exact (Kept.refl _ _).alloc _)
  have HV := Lib.hid hV
  clear hV hn
  cases hr : rgtB c with
  | false =>
    rw [hr] at HR
    have e : rlOf c 1 = rl0 := by unfold rlOf; rw [hr]; rfl
    have HO1 := Lib.hid (HO.out 1)
    rw [e] at HO1
    clear hr e HO
    go_enter Try.func5, Try.ntmps5
    go_wp2_with fail
    rw [← HV.out]
    refine (HR.out _ HKV.out).mono ?_
    rintro e w1 ⟨rfl, hk⟩
    have HK1 := Lib.hid (HKV.out.trans hk (fun _ _ h => h))
    obtain ⟨c0, c1, c2, c3, c4⟩ := cells5 (hk.heap (fun h => h) HB.out)
    clear hk
    go_wp2_with fail
    refine (HO1.out _ HK1.out).mono ?_
    rintro e w2 ⟨rfl, hk⟩
    have HK2 := Lib.hid (HK1.out.trans hk (fun _ _ h => h))
    clear hk
    unfold rlV rl0
    simp only
    go_wp2_with fail
    refine (H9.out _ HK2.out).mono ?_
    rintro e w3 ⟨rfl, hk⟩
    have HK3 := Lib.hid (HK2.out.trans hk (fun _ _ h => h))
    clear hk
    go_wp2
    go_ret
    exact ⟨rfl, HK3.out⟩
  | true =>
    rw [hr] at HR
    have HRT := Lib.hid hr
    have HHN : Hid (headN c = c.ns.getD 0 0) := Lib.hid (by unfold headN; rw [if_pos hr])
    rw [HHN.out] at HH
    go_enter Try.func5, Try.ntmps5
    go_wp2_with fail
    rw [← HV.out]
    refine (HR.out _ HKV.out).mono ?_
    rintro e w1 ⟨rfl, hk⟩
    have HK1 := Lib.hid (HKV.out.trans hk (fun _ _ h => h))
    have HB1 := Lib.hid (hk.heap (fun h => h) HB.out)
    clear hk hr
    go_wp2_with fail
    go_loopw [3, 4, 5, 6] (fun hv tv iv nv wr => ∃ k : Nat, k ≤ 24 ∧ nv = .int .i64 ((k : Int) + 1) ∧ hv = .int .i64 (le1 (c.ns.getD 0 0) k) ∧ tv = .int .i64 (le1 (c.ns.getD (c.ns.length - 1) 0) k) ∧ iv = .int .i64 (cntN c.ns k) ∧ Kept NoB w1 wr) (fun _ _ _ nv _ => 25 - (intOf nv).toNat)
    case atStart => exact ⟨0, by omega, rfl, by show Value.int .i64 0 = _; congr 1; unfold le1; rw [if_neg (by have := ns_pos HRT.out (show 0 < c.ns.length by have := len_pos HRT.out; omega); omega)], by show Value.int .i64 0 = _; congr 1; unfold le1; rw [if_neg (by have := ns_pos HRT.out (show c.ns.length - 1 < c.ns.length by have := len_pos HRT.out; omega); omega)], by show Value.int .i64 0 = _; congr 1; rw [show ((0 : Nat) : Int) = 0 from rfl, cnt_zero (fun x hx => ((nsq_of HRT.out).1 x hx).1)]; rfl, Kept.refl _ _⟩
    case round =>
      obtain ⟨k, hk, rfl, rfl, rfl, rfl, hK⟩ := hrel
      have HKR := Lib.hid hK
      obtain ⟨c0, c1, c2, c3, c4⟩ := cells5 (hK.heap (fun h => h) HB1.out)
      clear hK
      by_cases hlt : k < 24
      · have hk1 : (k : Int) + 1 ≤ 24 := by omega
        have hkw : IntKind.i64.wrap ((k : Int) + 1 + 1) = (k : Int) + 1 + 1 := IntWalk.i64_in _ (by omega)
        have HF := Lib.hid (ch_facts HRT.out ((k : Int) + 1))
        have HS0 := Lib.hid (le1_step (c.ns.getD 0 0) k)
        have HS1 := Lib.hid (le1_step (c.ns.getD (c.ns.length - 1) 0) k)
        have HS2 := Lib.hid (cnt_step (nsq_of HRT.out).2 (k : Int))
        have HC2 := Lib.hid (cnt_le c.ns k)
        have hr0 := le1_range (c.ns.getD 0 0) k
        have hr1 := le1_range (c.ns.getD (c.ns.length - 1) 0) k
        have HLP := Lib.hid (len_pos HRT.out)
        obtain ⟨x0, hx0⟩ : ∃ x, x = c.ns.getD 0 0 := ⟨_, rfl⟩
        obtain ⟨x1, hx1⟩ : ∃ x, x = c.ns.getD (c.ns.length - 1) 0 := ⟨_, rfl⟩
        have HFH : Hid ((rlOf c ((k : Int) + 1)).head = decide ((k : Int) + 1 = x0)) := Lib.hid (by rw [hx0]; exact HF.out.hi)
        have HFT : Hid ((rlOf c ((k : Int) + 1)).tail = decide ((k : Int) + 1 = x1)) := Lib.hid (by rw [hx1]; exact HF.out.ti)
        rw [← hx0] at HS0 hr0 ⊢
        rw [← hx1] at HS1 hr1 ⊢
        obtain ⟨A, hA⟩ : ∃ A, A = le1 x0 k := ⟨_, rfl⟩
        obtain ⟨T, hT⟩ : ∃ T, T = le1 x1 k := ⟨_, rfl⟩
        obtain ⟨I, hI⟩ : ∃ I : Nat, I = cntN c.ns k := ⟨_, rfl⟩
        rw [← hA] at HS0 hr0 ⊢
        rw [← hT] at HS1 hr1 ⊢
        rw [← hI] at HS2 HC2 ⊢
        have hI5 : (I : Int) ≤ 5 := by have := HC2.out; have := HLP.out; omega
        have hI0 : (0 : Int) ≤ (I : Int) := by omega
        obtain ⟨hA0, hA1⟩ := hr0
        obtain ⟨hT0, hT1⟩ := hr1
        have HOK := Lib.hid (HO.out ((k : Int) + 1) wr (HK1.out.trans HKR.out (fun _ _ h => h)))
        have HPB := Lib.hid HF.out.pb
        have HSB := Lib.hid HF.out.sb
        have HJI := Lib.hid HF.out.ji
        have HHP := Lib.hid HF.out.hp
        have HTS := Lib.hid HF.out.ts
        have HII := Lib.hid HF.out.ii
        have HHN2 := Lib.hid HF.out.hn
        obtain ⟨⟨y0, y1, y2, y3, y4, y5, P, S⟩, hR⟩ : ∃ R, R = rlOf c ((k : Int) + 1) := ⟨_, rfl⟩
        rw [← hR] at HOK HPB HSB HJI HHP HTS HII HHN2 HFH HFT
        simp only at HPB HSB HJI HHP HTS HII HHN2 HFH HFT
        unfold RlE rlV at HOK
        simp only at HOK
        clear hx0 hx1 hA hT hI hR HF hlt
        go_upto_region 7 with fail
        go_upto_region 8 with (go_at_call 7; refine HOK.out.mono ?_; rintro e w2 ⟨rfl, hk2⟩; have HK2' := Lib.hid hk2; clear hk2)
        have HK2 := Lib.hid (HKR.out.trans (HK2'.out.alloc (.cells #[.bool y0, .bool y1, .bool y2, .bool y3, .bool y4, .int .i64 y5, .int .i64 P, .int .i64 S] 29)) (fun _ _ h => h))
        have HRB := Lib.hid (heap_alloc_new w2 (.cells #[.bool y0, .bool y1, .bool y2, .bool y3, .bool y4, .int .i64 y5, .int .i64 P, .int .i64 S] 29))
        obtain ⟨W, hW⟩ : ∃ W, W = w2.alloc (.cells #[.bool y0, .bool y1, .bool y2, .bool y3, .bool y4, .int .i64 y5, .int .i64 P, .int .i64 S] 29) := ⟨_, rfl⟩
        rw [← hW] at HK2 HRB ⊢
        clear hW c0 c1 c2 c3 c4 HOK HKR HK2'
        obtain ⟨c0, c1, c2, c3, c4⟩ := cells5 (HK2.out.heap (fun h => h) HB1.out)
        obtain ⟨s0, s1, s2, s3, s4, s5, s6, s7⟩ := cells8 HRB.out
        have HCL : Hid (∀ w', Kept NoB W w' → w'.cell? ⟨w2.heap.size, 0, none⟩ = some (.bool y0) ∧ w'.cell? ⟨w2.heap.size, 1, none⟩ = some (.bool y1) ∧ w'.cell? ⟨w2.heap.size, 2, none⟩ = some (.bool y2) ∧ w'.cell? ⟨w2.heap.size, 3, none⟩ = some (.bool y3) ∧ w'.cell? ⟨w2.heap.size, 6, none⟩ = some (.int .i64 P) ∧ w'.cell? ⟨w2.heap.size, 7, none⟩ = some (.int .i64 S) ∧ w'.cell? ⟨w.heap.size, 0, none⟩ = some (.int .i64 c.ch) ∧ w'.cell? ⟨w.heap.size, 1, none⟩ = some (.int .u64 c.ep) ∧ w'.cell? ⟨w.heap.size, 2, none⟩ = some (.slice a c.ns.length cap) ∧ w'.cell? ⟨w.heap.size, 3, none⟩ = some (.bool c.fr) ∧ w'.cell? ⟨w.heap.size, 4, none⟩ = some (.int .i64 c.jn)) := Lib.hid (fun w' hk => by
          obtain ⟨t0, t1, t2, t3, _, _, t6, t7⟩ := cells8 (hk.heap (fun h => h) HRB.out)
          exact ⟨t0, t1, t2, t3, t6, t7, cells5 ((HK2.out.trans hk (fun _ _ h => h)).heap (fun h => h) HB1.out)⟩)
        have HOW := Lib.hid (fun n w' (hk : Kept NoB W w') => HO.out n w' (HK1.out.trans (HK2.out.trans hk (fun _ _ h => h)) (fun _ _ h => h)))
        cases y0
        rotate_left
        · by_cases hP : P = 0
          · by_cases hJ : S = c.jn
            · by_cases hS : S = 0
              · as_aux_lemma =>
                  have e1 : y1 = false := by have := HJI.out; simpa using this
                  have e2 : y2 = true := by rw [HHP.out rfl]; exact decide_eq_true hP
                  have e3 : y3 = true := by rw [HTS.out rfl]; exact decide_eq_true hJ
                  subst e1 e2 e3
                  have g0 : le1 x0 ((k : Int) + 1) = A + 1 := by rw [HS0.out, if_pos (of_decide_eq_true HFH.out.symm)]
                  have g1 : le1 x1 ((k : Int) + 1) = T + 1 := by rw [HS1.out, if_pos (of_decide_eq_true HFT.out.symm)]
                  have g2 : ((cntN c.ns ((k : Int) + 1) : Nat) : Int) = (I : Int) + 1 := by rw [HS2.out, if_pos (of_decide_eq_true HII.out.symm)]; omega
                  have HG := Lib.hid (And.intro g0 (And.intro g1 g2))
                  clear g0 g1 g2
                  subst hP
                  have hjs : (S == c.jn) = true := by simpa using hJ
                  have hsb : (S == 0) = true := by simpa using hS
                  have hsn : (S != 0) = false := by simpa using hS
                  clear hS hJ
                  go_wp2
                  have hkk : ((k + 1 : Nat) : Int) = (k : Int) + 1 := by omega
                  exact ⟨⟨k + 1, by omega, by rw [hkk], by rw [hkk, HG.out.1], by rw [hkk, HG.out.2.1], by rw [hkk, HG.out.2.2], HK2.out.trans (Kept.refl NoB W) (fun _ _ h => h)⟩, by simp [intOf]; omega⟩
              · as_aux_lemma =>
                  have e1 : y1 = false := by have := HJI.out; simpa using this
                  have e2 : y2 = true := by rw [HHP.out rfl]; exact decide_eq_true hP
                  have e3 : y3 = true := by rw [HTS.out rfl]; exact decide_eq_true hJ
                  subst e1 e2 e3
                  have g0 : le1 x0 ((k : Int) + 1) = A + 1 := by rw [HS0.out, if_pos (of_decide_eq_true HFH.out.symm)]
                  have g1 : le1 x1 ((k : Int) + 1) = T + 1 := by rw [HS1.out, if_pos (of_decide_eq_true HFT.out.symm)]
                  have g2 : ((cntN c.ns ((k : Int) + 1) : Nat) : Int) = (I : Int) + 1 := by rw [HS2.out, if_pos (of_decide_eq_true HII.out.symm)]; omega
                  have HG := Lib.hid (And.intro g0 (And.intro g1 g2))
                  clear g0 g1 g2
                  subst hP
                  have hjs : (S == c.jn) = true := by simpa using hJ
                  have hsb : (S == 0) = false := beq_eq_false_iff_ne.2 hS
                  have hsn : (S != 0) = true := by simpa using hS
                  have HSQ := Lib.hid (HSB.out hS)
                  have HOS := Lib.hid (HOW.out S)
                  obtain ⟨⟨r0, r1, r2, r3, r4, r5, r6, r7⟩, hr⟩ : ∃ R, R = rlOf c S := ⟨_, rfl⟩
                  rw [← hr] at HSQ HOS
                  have hq : r6 = (k : Int) + 1 := HSQ.out
                  subst hq
                  unfold RlE rlV at HOS
                  simp only at HOS
                  clear hr HSQ HSB
                  have hf6 := fld19_6 r0 r1 r2 r3 r4 r5 ((k : Int) + 1) r7
                  clear hS hJ
                  go_wp2_with fail
                  refine (HOS.out _ (Kept.refl NoB W)).mono ?_
                  rintro e w4 ⟨rfl, hk4⟩
                  have HK4 := Lib.hid ((Kept.refl NoB W).trans hk4 (fun _ _ h => h))
                  clear c0 c1 c2 c3 c4 s0 s1 s2 s3 s4 s5 s6 s7
                  obtain ⟨s0, s1, s2, s3, s6, s7, c0, c1, c2, c3, c4⟩ := HCL.out _ HK4.out
                  clear hk4
                  go_wp2
                  have hkk : ((k + 1 : Nat) : Int) = (k : Int) + 1 := by omega
                  exact ⟨⟨k + 1, by omega, by rw [hkk], by rw [hkk, HG.out.1], by rw [hkk, HG.out.2.1], by rw [hkk, HG.out.2.2], HK2.out.trans HK4.out (fun _ _ h => h)⟩, by simp [intOf]; omega⟩
            · by_cases hS : S = 0
              · as_aux_lemma =>
                  have e1 : y1 = false := by have := HJI.out; simpa using this
                  have e2 : y2 = true := by rw [HHP.out rfl]; exact decide_eq_true hP
                  have e3 : y3 = false := by rw [HTS.out rfl]; exact decide_eq_false hJ
                  subst e1 e2 e3
                  have g0 : le1 x0 ((k : Int) + 1) = A + 1 := by rw [HS0.out, if_pos (of_decide_eq_true HFH.out.symm)]
                  have g1 : le1 x1 ((k : Int) + 1) = T := by rw [HS1.out, if_neg (of_decide_eq_false HFT.out.symm)]; omega
                  have g2 : ((cntN c.ns ((k : Int) + 1) : Nat) : Int) = (I : Int) + 1 := by rw [HS2.out, if_pos (of_decide_eq_true HII.out.symm)]; omega
                  have HG := Lib.hid (And.intro g0 (And.intro g1 g2))
                  clear g0 g1 g2
                  subst hP
                  have hjs : (S == c.jn) = false := beq_eq_false_iff_ne.2 hJ
                  have hsb : (S == 0) = true := by simpa using hS
                  have hsn : (S != 0) = false := by simpa using hS
                  clear hS hJ
                  go_wp2
                  have hkk : ((k + 1 : Nat) : Int) = (k : Int) + 1 := by omega
                  exact ⟨⟨k + 1, by omega, by rw [hkk], by rw [hkk, HG.out.1], by rw [hkk, HG.out.2.1], by rw [hkk, HG.out.2.2], HK2.out.trans (Kept.refl NoB W) (fun _ _ h => h)⟩, by simp [intOf]; omega⟩
              · as_aux_lemma =>
                  have e1 : y1 = false := by have := HJI.out; simpa using this
                  have e2 : y2 = true := by rw [HHP.out rfl]; exact decide_eq_true hP
                  have e3 : y3 = false := by rw [HTS.out rfl]; exact decide_eq_false hJ
                  subst e1 e2 e3
                  have g0 : le1 x0 ((k : Int) + 1) = A + 1 := by rw [HS0.out, if_pos (of_decide_eq_true HFH.out.symm)]
                  have g1 : le1 x1 ((k : Int) + 1) = T := by rw [HS1.out, if_neg (of_decide_eq_false HFT.out.symm)]; omega
                  have g2 : ((cntN c.ns ((k : Int) + 1) : Nat) : Int) = (I : Int) + 1 := by rw [HS2.out, if_pos (of_decide_eq_true HII.out.symm)]; omega
                  have HG := Lib.hid (And.intro g0 (And.intro g1 g2))
                  clear g0 g1 g2
                  subst hP
                  have hjs : (S == c.jn) = false := beq_eq_false_iff_ne.2 hJ
                  have hsb : (S == 0) = false := beq_eq_false_iff_ne.2 hS
                  have hsn : (S != 0) = true := by simpa using hS
                  have HSQ := Lib.hid (HSB.out hS)
                  have HOS := Lib.hid (HOW.out S)
                  obtain ⟨⟨r0, r1, r2, r3, r4, r5, r6, r7⟩, hr⟩ : ∃ R, R = rlOf c S := ⟨_, rfl⟩
                  rw [← hr] at HSQ HOS
                  have hq : r6 = (k : Int) + 1 := HSQ.out
                  subst hq
                  unfold RlE rlV at HOS
                  simp only at HOS
                  clear hr HSQ HSB
                  have hf6 := fld19_6 r0 r1 r2 r3 r4 r5 ((k : Int) + 1) r7
                  clear hS hJ
                  go_wp2_with fail
                  refine (HOS.out _ (Kept.refl NoB W)).mono ?_
                  rintro e w4 ⟨rfl, hk4⟩
                  have HK4 := Lib.hid ((Kept.refl NoB W).trans hk4 (fun _ _ h => h))
                  clear c0 c1 c2 c3 c4 s0 s1 s2 s3 s4 s5 s6 s7
                  obtain ⟨s0, s1, s2, s3, s6, s7, c0, c1, c2, c3, c4⟩ := HCL.out _ HK4.out
                  clear hk4
                  go_wp2
                  have hkk : ((k + 1 : Nat) : Int) = (k : Int) + 1 := by omega
                  exact ⟨⟨k + 1, by omega, by rw [hkk], by rw [hkk, HG.out.1], by rw [hkk, HG.out.2.1], by rw [hkk, HG.out.2.2], HK2.out.trans HK4.out (fun _ _ h => h)⟩, by simp [intOf]; omega⟩
          · by_cases hJ : S = c.jn
            · by_cases hS : S = 0
              · as_aux_lemma =>
                  have e1 : y1 = false := by have := HJI.out; simpa using this
                  have e2 : y2 = false := by rw [HHP.out rfl]; exact decide_eq_false hP
                  have e3 : y3 = true := by rw [HTS.out rfl]; exact decide_eq_true hJ
                  subst e1 e2 e3
                  have g0 : le1 x0 ((k : Int) + 1) = A := by rw [HS0.out, if_neg (of_decide_eq_false HFH.out.symm)]; omega
                  have g1 : le1 x1 ((k : Int) + 1) = T + 1 := by rw [HS1.out, if_pos (of_decide_eq_true HFT.out.symm)]
                  have g2 : ((cntN c.ns ((k : Int) + 1) : Nat) : Int) = (I : Int) + 1 := by rw [HS2.out, if_pos (of_decide_eq_true HII.out.symm)]; omega
                  have HG := Lib.hid (And.intro g0 (And.intro g1 g2))
                  clear g0 g1 g2
                  have hpb : (P == 0) = false := beq_eq_false_iff_ne.2 hP
                  have hpn : (P != 0) = true := by simpa using hP
                  have HPQ := Lib.hid (HPB.out hP)
                  have HOP := Lib.hid (HOW.out P)
                  clear hP
                  obtain ⟨⟨p0, p1, p2, p3, p4, p5, p6, p7⟩, hp⟩ : ∃ R, R = rlOf c P := ⟨_, rfl⟩
                  rw [← hp] at HPQ HOP
                  have hq : p7 = (k : Int) + 1 := HPQ.out
                  subst hq
                  unfold RlE rlV at HOP
                  simp only at HOP
                  clear hp HPQ HPB
                  have hf7 := fld19_7 p0 p1 p2 p3 p4 p5 p6 ((k : Int) + 1)
                  have hjs : (S == c.jn) = true := by simpa using hJ
                  have hsb : (S == 0) = true := by simpa using hS
                  have hsn : (S != 0) = false := by simpa using hS
                  clear hS hJ
                  go_wp2_with fail
                  refine (HOP.out _ (Kept.refl NoB W)).mono ?_
                  rintro e w3 ⟨rfl, hk3⟩
                  have HK3 := Lib.hid hk3
                  clear c0 c1 c2 c3 c4 s0 s1 s2 s3 s4 s5 s6 s7
                  obtain ⟨s0, s1, s2, s3, s6, s7, c0, c1, c2, c3, c4⟩ := HCL.out _ hk3
                  clear hk3
                  go_wp2
                  have hkk : ((k + 1 : Nat) : Int) = (k : Int) + 1 := by omega
                  exact ⟨⟨k + 1, by omega, by rw [hkk], by rw [hkk, HG.out.1], by rw [hkk, HG.out.2.1], by rw [hkk, HG.out.2.2], HK2.out.trans HK3.out (fun _ _ h => h)⟩, by simp [intOf]; omega⟩
              · as_aux_lemma =>
                  have e1 : y1 = false := by have := HJI.out; simpa using this
                  have e2 : y2 = false := by rw [HHP.out rfl]; exact decide_eq_false hP
                  have e3 : y3 = true := by rw [HTS.out rfl]; exact decide_eq_true hJ
                  subst e1 e2 e3
                  have g0 : le1 x0 ((k : Int) + 1) = A := by rw [HS0.out, if_neg (of_decide_eq_false HFH.out.symm)]; omega
                  have g1 : le1 x1 ((k : Int) + 1) = T + 1 := by rw [HS1.out, if_pos (of_decide_eq_true HFT.out.symm)]
                  have g2 : ((cntN c.ns ((k : Int) + 1) : Nat) : Int) = (I : Int) + 1 := by rw [HS2.out, if_pos (of_decide_eq_true HII.out.symm)]; omega
                  have HG := Lib.hid (And.intro g0 (And.intro g1 g2))
                  clear g0 g1 g2
                  have hpb : (P == 0) = false := beq_eq_false_iff_ne.2 hP
                  have hpn : (P != 0) = true := by simpa using hP
                  have HPQ := Lib.hid (HPB.out hP)
                  have HOP := Lib.hid (HOW.out P)
                  clear hP
                  obtain ⟨⟨p0, p1, p2, p3, p4, p5, p6, p7⟩, hp⟩ : ∃ R, R = rlOf c P := ⟨_, rfl⟩
                  rw [← hp] at HPQ HOP
                  have hq : p7 = (k : Int) + 1 := HPQ.out
                  subst hq
                  unfold RlE rlV at HOP
                  simp only at HOP
                  clear hp HPQ HPB
                  have hf7 := fld19_7 p0 p1 p2 p3 p4 p5 p6 ((k : Int) + 1)
                  have hjs : (S == c.jn) = true := by simpa using hJ
                  have hsb : (S == 0) = false := beq_eq_false_iff_ne.2 hS
                  have hsn : (S != 0) = true := by simpa using hS
                  have HSQ := Lib.hid (HSB.out hS)
                  have HOS := Lib.hid (HOW.out S)
                  obtain ⟨⟨r0, r1, r2, r3, r4, r5, r6, r7⟩, hr⟩ : ∃ R, R = rlOf c S := ⟨_, rfl⟩
                  rw [← hr] at HSQ HOS
                  have hq : r6 = (k : Int) + 1 := HSQ.out
                  subst hq
                  unfold RlE rlV at HOS
                  simp only at HOS
                  clear hr HSQ HSB
                  have hf6 := fld19_6 r0 r1 r2 r3 r4 r5 ((k : Int) + 1) r7
                  clear hS hJ
                  go_wp2_with fail
                  refine (HOP.out _ (Kept.refl NoB W)).mono ?_
                  rintro e w3 ⟨rfl, hk3⟩
                  have HK3 := Lib.hid hk3
                  clear c0 c1 c2 c3 c4 s0 s1 s2 s3 s4 s5 s6 s7
                  obtain ⟨s0, s1, s2, s3, s6, s7, c0, c1, c2, c3, c4⟩ := HCL.out _ hk3
                  clear hk3
                  go_wp2_with fail
                  refine (HOS.out _ HK3.out).mono ?_
                  rintro e w4 ⟨rfl, hk4⟩
                  have HK4 := Lib.hid (HK3.out.trans hk4 (fun _ _ h => h))
                  clear c0 c1 c2 c3 c4 s0 s1 s2 s3 s6 s7
                  obtain ⟨s0, s1, s2, s3, s6, s7, c0, c1, c2, c3, c4⟩ := HCL.out _ HK4.out
                  clear hk4
                  go_wp2
                  have hkk : ((k + 1 : Nat) : Int) = (k : Int) + 1 := by omega
                  exact ⟨⟨k + 1, by omega, by rw [hkk], by rw [hkk, HG.out.1], by rw [hkk, HG.out.2.1], by rw [hkk, HG.out.2.2], HK2.out.trans HK4.out (fun _ _ h => h)⟩, by simp [intOf]; omega⟩
            · by_cases hS : S = 0
              · as_aux_lemma =>
                  have e1 : y1 = false := by have := HJI.out; simpa using this
                  have e2 : y2 = false := by rw [HHP.out rfl]; exact decide_eq_false hP
                  have e3 : y3 = false := by rw [HTS.out rfl]; exact decide_eq_false hJ
                  subst e1 e2 e3
                  have g0 : le1 x0 ((k : Int) + 1) = A := by rw [HS0.out, if_neg (of_decide_eq_false HFH.out.symm)]; omega
                  have g1 : le1 x1 ((k : Int) + 1) = T := by rw [HS1.out, if_neg (of_decide_eq_false HFT.out.symm)]; omega
                  have g2 : ((cntN c.ns ((k : Int) + 1) : Nat) : Int) = (I : Int) + 1 := by rw [HS2.out, if_pos (of_decide_eq_true HII.out.symm)]; omega
                  have HG := Lib.hid (And.intro g0 (And.intro g1 g2))
                  clear g0 g1 g2
                  have hpb : (P == 0) = false := beq_eq_false_iff_ne.2 hP
                  have hpn : (P != 0) = true := by simpa using hP
                  have HPQ := Lib.hid (HPB.out hP)
                  have HOP := Lib.hid (HOW.out P)
                  clear hP
                  obtain ⟨⟨p0, p1, p2, p3, p4, p5, p6, p7⟩, hp⟩ : ∃ R, R = rlOf c P := ⟨_, rfl⟩
                  rw [← hp] at HPQ HOP
                  have hq : p7 = (k : Int) + 1 := HPQ.out
                  subst hq
                  unfold RlE rlV at HOP
                  simp only at HOP
                  clear hp HPQ HPB
                  have hf7 := fld19_7 p0 p1 p2 p3 p4 p5 p6 ((k : Int) + 1)
                  have hjs : (S == c.jn) = false := beq_eq_false_iff_ne.2 hJ
                  have hsb : (S == 0) = true := by simpa using hS
                  have hsn : (S != 0) = false := by simpa using hS
                  clear hS hJ
                  go_wp2_with fail
                  refine (HOP.out _ (Kept.refl NoB W)).mono ?_
                  rintro e w3 ⟨rfl, hk3⟩
                  have HK3 := Lib.hid hk3
                  clear c0 c1 c2 c3 c4 s0 s1 s2 s3 s4 s5 s6 s7
                  obtain ⟨s0, s1, s2, s3, s6, s7, c0, c1, c2, c3, c4⟩ := HCL.out _ hk3
                  clear hk3
                  go_wp2
                  have hkk : ((k + 1 : Nat) : Int) = (k : Int) + 1 := by omega
                  exact ⟨⟨k + 1, by omega, by rw [hkk], by rw [hkk, HG.out.1], by rw [hkk, HG.out.2.1], by rw [hkk, HG.out.2.2], HK2.out.trans HK3.out (fun _ _ h => h)⟩, by simp [intOf]; omega⟩
              · as_aux_lemma =>
                  have e1 : y1 = false := by have := HJI.out; simpa using this
                  have e2 : y2 = false := by rw [HHP.out rfl]; exact decide_eq_false hP
                  have e3 : y3 = false := by rw [HTS.out rfl]; exact decide_eq_false hJ
                  subst e1 e2 e3
                  have g0 : le1 x0 ((k : Int) + 1) = A := by rw [HS0.out, if_neg (of_decide_eq_false HFH.out.symm)]; omega
                  have g1 : le1 x1 ((k : Int) + 1) = T := by rw [HS1.out, if_neg (of_decide_eq_false HFT.out.symm)]; omega
                  have g2 : ((cntN c.ns ((k : Int) + 1) : Nat) : Int) = (I : Int) + 1 := by rw [HS2.out, if_pos (of_decide_eq_true HII.out.symm)]; omega
                  have HG := Lib.hid (And.intro g0 (And.intro g1 g2))
                  clear g0 g1 g2
                  have hpb : (P == 0) = false := beq_eq_false_iff_ne.2 hP
                  have hpn : (P != 0) = true := by simpa using hP
                  have HPQ := Lib.hid (HPB.out hP)
                  have HOP := Lib.hid (HOW.out P)
                  clear hP
                  obtain ⟨⟨p0, p1, p2, p3, p4, p5, p6, p7⟩, hp⟩ : ∃ R, R = rlOf c P := ⟨_, rfl⟩
                  rw [← hp] at HPQ HOP
                  have hq : p7 = (k : Int) + 1 := HPQ.out
                  subst hq
                  unfold RlE rlV at HOP
                  simp only at HOP
                  clear hp HPQ HPB
                  have hf7 := fld19_7 p0 p1 p2 p3 p4 p5 p6 ((k : Int) + 1)
                  have hjs : (S == c.jn) = false := beq_eq_false_iff_ne.2 hJ
                  have hsb : (S == 0) = false := beq_eq_false_iff_ne.2 hS
                  have hsn : (S != 0) = true := by simpa using hS
                  have HSQ := Lib.hid (HSB.out hS)
                  have HOS := Lib.hid (HOW.out S)
                  obtain ⟨⟨r0, r1, r2, r3, r4, r5, r6, r7⟩, hr⟩ : ∃ R, R = rlOf c S := ⟨_, rfl⟩
                  rw [← hr] at HSQ HOS
                  have hq : r6 = (k : Int) + 1 := HSQ.out
                  subst hq
                  unfold RlE rlV at HOS
                  simp only at HOS
                  clear hr HSQ HSB
                  have hf6 := fld19_6 r0 r1 r2 r3 r4 r5 ((k : Int) + 1) r7
                  clear hS hJ
                  go_wp2_with fail
                  refine (HOP.out _ (Kept.refl NoB W)).mono ?_
                  rintro e w3 ⟨rfl, hk3⟩
                  have HK3 := Lib.hid hk3
                  clear c0 c1 c2 c3 c4 s0 s1 s2 s3 s4 s5 s6 s7
                  obtain ⟨s0, s1, s2, s3, s6, s7, c0, c1, c2, c3, c4⟩ := HCL.out _ hk3
                  clear hk3
                  go_wp2_with fail
                  refine (HOS.out _ HK3.out).mono ?_
                  rintro e w4 ⟨rfl, hk4⟩
                  have HK4 := Lib.hid (HK3.out.trans hk4 (fun _ _ h => h))
                  clear c0 c1 c2 c3 c4 s0 s1 s2 s3 s6 s7
                  obtain ⟨s0, s1, s2, s3, s6, s7, c0, c1, c2, c3, c4⟩ := HCL.out _ HK4.out
                  clear hk4
                  go_wp2
                  have hkk : ((k + 1 : Nat) : Int) = (k : Int) + 1 := by omega
                  exact ⟨⟨k + 1, by omega, by rw [hkk], by rw [hkk, HG.out.1], by rw [hkk, HG.out.2.1], by rw [hkk, HG.out.2.2], HK2.out.trans HK4.out (fun _ _ h => h)⟩, by simp [intOf]; omega⟩
        · by_cases hP : P = 0
          · by_cases hJ : S = c.jn
            · by_cases hS : S = 0
              · cases y1
                · as_aux_lemma =>
                    obtain ⟨e2, e3⟩ := HHN2.out rfl
                    subst e2 e3
                    have g0 : le1 x0 ((k : Int) + 1) = A := by rw [HS0.out, if_neg (of_decide_eq_false HFH.out.symm)]; omega
                    have g1 : le1 x1 ((k : Int) + 1) = T := by rw [HS1.out, if_neg (of_decide_eq_false HFT.out.symm)]; omega
                    have g2 : ((cntN c.ns ((k : Int) + 1) : Nat) : Int) = (I : Int) := by rw [HS2.out, if_neg (of_decide_eq_false HII.out.symm)]; omega
                    have HG := Lib.hid (And.intro g0 (And.intro g1 g2))
                    clear g0 g1 g2
                    subst hP
                    have hjs : (S == c.jn) = true := by simpa using hJ
                    have hsb : (S == 0) = true := by simpa using hS
                    have hsn : (S != 0) = false := by simpa using hS
                    clear hS hJ
                    go_wp2
                    have hkk : ((k + 1 : Nat) : Int) = (k : Int) + 1 := by omega
                    exact ⟨⟨k + 1, by omega, by rw [hkk], by rw [hkk, HG.out.1], by rw [hkk, HG.out.2.1], by rw [hkk, HG.out.2.2], HK2.out.trans (Kept.refl NoB W) (fun _ _ h => h)⟩, by simp [intOf]; omega⟩
                · as_aux_lemma =>
                    obtain ⟨e2, e3⟩ := HHN2.out rfl
                    subst e2 e3
                    have g0 : le1 x0 ((k : Int) + 1) = A := by rw [HS0.out, if_neg (of_decide_eq_false HFH.out.symm)]; omega
                    have g1 : le1 x1 ((k : Int) + 1) = T := by rw [HS1.out, if_neg (of_decide_eq_false HFT.out.symm)]; omega
                    have g2 : ((cntN c.ns ((k : Int) + 1) : Nat) : Int) = (I : Int) := by rw [HS2.out, if_neg (of_decide_eq_false HII.out.symm)]; omega
                    have HG := Lib.hid (And.intro g0 (And.intro g1 g2))
                    clear g0 g1 g2
                    subst hP
                    have hjs : (S == c.jn) = true := by simpa using hJ
                    have hsb : (S == 0) = true := by simpa using hS
                    have hsn : (S != 0) = false := by simpa using hS
                    clear hS hJ
                    go_wp2
                    have hkk : ((k + 1 : Nat) : Int) = (k : Int) + 1 := by omega
                    exact ⟨⟨k + 1, by omega, by rw [hkk], by rw [hkk, HG.out.1], by rw [hkk, HG.out.2.1], by rw [hkk, HG.out.2.2], HK2.out.trans (Kept.refl NoB W) (fun _ _ h => h)⟩, by simp [intOf]; omega⟩
              · cases y1
                · as_aux_lemma =>
                    obtain ⟨e2, e3⟩ := HHN2.out rfl
                    subst e2 e3
                    have g0 : le1 x0 ((k : Int) + 1) = A := by rw [HS0.out, if_neg (of_decide_eq_false HFH.out.symm)]; omega
                    have g1 : le1 x1 ((k : Int) + 1) = T := by rw [HS1.out, if_neg (of_decide_eq_false HFT.out.symm)]; omega
                    have g2 : ((cntN c.ns ((k : Int) + 1) : Nat) : Int) = (I : Int) := by rw [HS2.out, if_neg (of_decide_eq_false HII.out.symm)]; omega
                    have HG := Lib.hid (And.intro g0 (And.intro g1 g2))
                    clear g0 g1 g2
                    subst hP
                    have hjs : (S == c.jn) = true := by simpa using hJ
                    have hsb : (S == 0) = false := beq_eq_false_iff_ne.2 hS
                    have hsn : (S != 0) = true := by simpa using hS
                    have HSQ := Lib.hid (HSB.out hS)
                    have HOS := Lib.hid (HOW.out S)
                    obtain ⟨⟨r0, r1, r2, r3, r4, r5, r6, r7⟩, hr⟩ : ∃ R, R = rlOf c S := ⟨_, rfl⟩
                    rw [← hr] at HSQ HOS
                    have hq : r6 = (k : Int) + 1 := HSQ.out
                    subst hq
                    unfold RlE rlV at HOS
                    simp only at HOS
                    clear hr HSQ HSB
                    have hf6 := fld19_6 r0 r1 r2 r3 r4 r5 ((k : Int) + 1) r7
                    clear hS hJ
                    go_wp2_with fail
                    refine (HOS.out _ (Kept.refl NoB W)).mono ?_
                    rintro e w4 ⟨rfl, hk4⟩
                    have HK4 := Lib.hid ((Kept.refl NoB W).trans hk4 (fun _ _ h => h))
                    clear c0 c1 c2 c3 c4 s0 s1 s2 s3 s4 s5 s6 s7
                    obtain ⟨s0, s1, s2, s3, s6, s7, c0, c1, c2, c3, c4⟩ := HCL.out _ HK4.out
                    clear hk4
                    go_wp2
                    have hkk : ((k + 1 : Nat) : Int) = (k : Int) + 1 := by omega
                    exact ⟨⟨k + 1, by omega, by rw [hkk], by rw [hkk, HG.out.1], by rw [hkk, HG.out.2.1], by rw [hkk, HG.out.2.2], HK2.out.trans HK4.out (fun _ _ h => h)⟩, by simp [intOf]; omega⟩
                · as_aux_lemma =>
                    obtain ⟨e2, e3⟩ := HHN2.out rfl
                    subst e2 e3
                    have g0 : le1 x0 ((k : Int) + 1) = A := by rw [HS0.out, if_neg (of_decide_eq_false HFH.out.symm)]; omega
                    have g1 : le1 x1 ((k : Int) + 1) = T := by rw [HS1.out, if_neg (of_decide_eq_false HFT.out.symm)]; omega
                    have g2 : ((cntN c.ns ((k : Int) + 1) : Nat) : Int) = (I : Int) := by rw [HS2.out, if_neg (of_decide_eq_false HII.out.symm)]; omega
                    have HG := Lib.hid (And.intro g0 (And.intro g1 g2))
                    clear g0 g1 g2
                    subst hP
                    have hjs : (S == c.jn) = true := by simpa using hJ
                    have hsb : (S == 0) = false := beq_eq_false_iff_ne.2 hS
                    have hsn : (S != 0) = true := by simpa using hS
                    have HSQ := Lib.hid (HSB.out hS)
                    have HOS := Lib.hid (HOW.out S)
                    obtain ⟨⟨r0, r1, r2, r3, r4, r5, r6, r7⟩, hr⟩ : ∃ R, R = rlOf c S := ⟨_, rfl⟩
                    rw [← hr] at HSQ HOS
                    have hq : r6 = (k : Int) + 1 := HSQ.out
                    subst hq
                    unfold RlE rlV at HOS
                    simp only at HOS
                    clear hr HSQ HSB
                    have hf6 := fld19_6 r0 r1 r2 r3 r4 r5 ((k : Int) + 1) r7
                    clear hS hJ
                    go_wp2_with fail
                    refine (HOS.out _ (Kept.refl NoB W)).mono ?_
                    rintro e w4 ⟨rfl, hk4⟩
                    have HK4 := Lib.hid ((Kept.refl NoB W).trans hk4 (fun _ _ h => h))
                    clear c0 c1 c2 c3 c4 s0 s1 s2 s3 s4 s5 s6 s7
                    obtain ⟨s0, s1, s2, s3, s6, s7, c0, c1, c2, c3, c4⟩ := HCL.out _ HK4.out
                    clear hk4
                    go_wp2
                    have hkk : ((k + 1 : Nat) : Int) = (k : Int) + 1 := by omega
                    exact ⟨⟨k + 1, by omega, by rw [hkk], by rw [hkk, HG.out.1], by rw [hkk, HG.out.2.1], by rw [hkk, HG.out.2.2], HK2.out.trans HK4.out (fun _ _ h => h)⟩, by simp [intOf]; omega⟩
            · by_cases hS : S = 0
              · cases y1
                · as_aux_lemma =>
                    obtain ⟨e2, e3⟩ := HHN2.out rfl
                    subst e2 e3
                    have g0 : le1 x0 ((k : Int) + 1) = A := by rw [HS0.out, if_neg (of_decide_eq_false HFH.out.symm)]; omega
                    have g1 : le1 x1 ((k : Int) + 1) = T := by rw [HS1.out, if_neg (of_decide_eq_false HFT.out.symm)]; omega
                    have g2 : ((cntN c.ns ((k : Int) + 1) : Nat) : Int) = (I : Int) := by rw [HS2.out, if_neg (of_decide_eq_false HII.out.symm)]; omega
                    have HG := Lib.hid (And.intro g0 (And.intro g1 g2))
                    clear g0 g1 g2
                    subst hP
                    have hjs : (S == c.jn) = false := beq_eq_false_iff_ne.2 hJ
                    have hsb : (S == 0) = true := by simpa using hS
                    have hsn : (S != 0) = false := by simpa using hS
                    clear hS hJ
                    go_wp2
                    have hkk : ((k + 1 : Nat) : Int) = (k : Int) + 1 := by omega
                    exact ⟨⟨k + 1, by omega, by rw [hkk], by rw [hkk, HG.out.1], by rw [hkk, HG.out.2.1], by rw [hkk, HG.out.2.2], HK2.out.trans (Kept.refl NoB W) (fun _ _ h => h)⟩, by simp [intOf]; omega⟩
                · as_aux_lemma =>
                    obtain ⟨e2, e3⟩ := HHN2.out rfl
                    subst e2 e3
                    have g0 : le1 x0 ((k : Int) + 1) = A := by rw [HS0.out, if_neg (of_decide_eq_false HFH.out.symm)]; omega
                    have g1 : le1 x1 ((k : Int) + 1) = T := by rw [HS1.out, if_neg (of_decide_eq_false HFT.out.symm)]; omega
                    have g2 : ((cntN c.ns ((k : Int) + 1) : Nat) : Int) = (I : Int) := by rw [HS2.out, if_neg (of_decide_eq_false HII.out.symm)]; omega
                    have HG := Lib.hid (And.intro g0 (And.intro g1 g2))
                    clear g0 g1 g2
                    subst hP
                    have hjs : (S == c.jn) = false := beq_eq_false_iff_ne.2 hJ
                    have hsb : (S == 0) = true := by simpa using hS
                    have hsn : (S != 0) = false := by simpa using hS
                    clear hS hJ
                    go_wp2
                    have hkk : ((k + 1 : Nat) : Int) = (k : Int) + 1 := by omega
                    exact ⟨⟨k + 1, by omega, by rw [hkk], by rw [hkk, HG.out.1], by rw [hkk, HG.out.2.1], by rw [hkk, HG.out.2.2], HK2.out.trans (Kept.refl NoB W) (fun _ _ h => h)⟩, by simp [intOf]; omega⟩
              · cases y1
                · as_aux_lemma =>
                    obtain ⟨e2, e3⟩ := HHN2.out rfl
                    subst e2 e3
                    have g0 : le1 x0 ((k : Int) + 1) = A := by rw [HS0.out, if_neg (of_decide_eq_false HFH.out.symm)]; omega
                    have g1 : le1 x1 ((k : Int) + 1) = T := by rw [HS1.out, if_neg (of_decide_eq_false HFT.out.symm)]; omega
                    have g2 : ((cntN c.ns ((k : Int) + 1) : Nat) : Int) = (I : Int) := by rw [HS2.out, if_neg (of_decide_eq_false HII.out.symm)]; omega
                    have HG := Lib.hid (And.intro g0 (And.intro g1 g2))
                    clear g0 g1 g2
                    subst hP
                    have hjs : (S == c.jn) = false := beq_eq_false_iff_ne.2 hJ
                    have hsb : (S == 0) = false := beq_eq_false_iff_ne.2 hS
                    have hsn : (S != 0) = true := by simpa using hS
                    have HSQ := Lib.hid (HSB.out hS)
                    have HOS := Lib.hid (HOW.out S)
                    obtain ⟨⟨r0, r1, r2, r3, r4, r5, r6, r7⟩, hr⟩ : ∃ R, R = rlOf c S := ⟨_, rfl⟩
                    rw [← hr] at HSQ HOS
                    have hq : r6 = (k : Int) + 1 := HSQ.out
                    subst hq
                    unfold RlE rlV at HOS
                    simp only at HOS
                    clear hr HSQ HSB
                    have hf6 := fld19_6 r0 r1 r2 r3 r4 r5 ((k : Int) + 1) r7
                    clear hS hJ
                    go_wp2_with fail
                    refine (HOS.out _ (Kept.refl NoB W)).mono ?_
                    rintro e w4 ⟨rfl, hk4⟩
                    have HK4 := Lib.hid ((Kept.refl NoB W).trans hk4 (fun _ _ h => h))
                    clear c0 c1 c2 c3 c4 s0 s1 s2 s3 s4 s5 s6 s7
                    obtain ⟨s0, s1, s2, s3, s6, s7, c0, c1, c2, c3, c4⟩ := HCL.out _ HK4.out
                    clear hk4
                    go_wp2
                    have hkk : ((k + 1 : Nat) : Int) = (k : Int) + 1 := by omega
                    exact ⟨⟨k + 1, by omega, by rw [hkk], by rw [hkk, HG.out.1], by rw [hkk, HG.out.2.1], by rw [hkk, HG.out.2.2], HK2.out.trans HK4.out (fun _ _ h => h)⟩, by simp [intOf]; omega⟩
                · as_aux_lemma =>
                    obtain ⟨e2, e3⟩ := HHN2.out rfl
                    subst e2 e3
                    have g0 : le1 x0 ((k : Int) + 1) = A := by rw [HS0.out, if_neg (of_decide_eq_false HFH.out.symm)]; omega
                    have g1 : le1 x1 ((k : Int) + 1) = T := by rw [HS1.out, if_neg (of_decide_eq_false HFT.out.symm)]; omega
                    have g2 : ((cntN c.ns ((k : Int) + 1) : Nat) : Int) = (I : Int) := by rw [HS2.out, if_neg (of_decide_eq_false HII.out.symm)]; omega
                    have HG := Lib.hid (And.intro g0 (And.intro g1 g2))
                    clear g0 g1 g2
                    subst hP
                    have hjs : (S == c.jn) = false := beq_eq_false_iff_ne.2 hJ
                    have hsb : (S == 0) = false := beq_eq_false_iff_ne.2 hS
                    have hsn : (S != 0) = true := by simpa using hS
                    have HSQ := Lib.hid (HSB.out hS)
                    have HOS := Lib.hid (HOW.out S)
                    obtain ⟨⟨r0, r1, r2, r3, r4, r5, r6, r7⟩, hr⟩ : ∃ R, R = rlOf c S := ⟨_, rfl⟩
                    rw [← hr] at HSQ HOS
                    have hq : r6 = (k : Int) + 1 := HSQ.out
                    subst hq
                    unfold RlE rlV at HOS
                    simp only at HOS
                    clear hr HSQ HSB
                    have hf6 := fld19_6 r0 r1 r2 r3 r4 r5 ((k : Int) + 1) r7
                    clear hS hJ
                    go_wp2_with fail
                    refine (HOS.out _ (Kept.refl NoB W)).mono ?_
                    rintro e w4 ⟨rfl, hk4⟩
                    have HK4 := Lib.hid ((Kept.refl NoB W).trans hk4 (fun _ _ h => h))
                    clear c0 c1 c2 c3 c4 s0 s1 s2 s3 s4 s5 s6 s7
                    obtain ⟨s0, s1, s2, s3, s6, s7, c0, c1, c2, c3, c4⟩ := HCL.out _ HK4.out
                    clear hk4
                    go_wp2
                    have hkk : ((k + 1 : Nat) : Int) = (k : Int) + 1 := by omega
                    exact ⟨⟨k + 1, by omega, by rw [hkk], by rw [hkk, HG.out.1], by rw [hkk, HG.out.2.1], by rw [hkk, HG.out.2.2], HK2.out.trans HK4.out (fun _ _ h => h)⟩, by simp [intOf]; omega⟩
          · by_cases hJ : S = c.jn
            · by_cases hS : S = 0
              · cases y1
                · as_aux_lemma =>
                    obtain ⟨e2, e3⟩ := HHN2.out rfl
                    subst e2 e3
                    have g0 : le1 x0 ((k : Int) + 1) = A := by rw [HS0.out, if_neg (of_decide_eq_false HFH.out.symm)]; omega
                    have g1 : le1 x1 ((k : Int) + 1) = T := by rw [HS1.out, if_neg (of_decide_eq_false HFT.out.symm)]; omega
                    have g2 : ((cntN c.ns ((k : Int) + 1) : Nat) : Int) = (I : Int) := by rw [HS2.out, if_neg (of_decide_eq_false HII.out.symm)]; omega
                    have HG := Lib.hid (And.intro g0 (And.intro g1 g2))
                    clear g0 g1 g2
                    have hpb : (P == 0) = false := beq_eq_false_iff_ne.2 hP
                    have hpn : (P != 0) = true := by simpa using hP
                    have HPQ := Lib.hid (HPB.out hP)
                    have HOP := Lib.hid (HOW.out P)
                    clear hP
                    obtain ⟨⟨p0, p1, p2, p3, p4, p5, p6, p7⟩, hp⟩ : ∃ R, R = rlOf c P := ⟨_, rfl⟩
                    rw [← hp] at HPQ HOP
                    have hq : p7 = (k : Int) + 1 := HPQ.out
                    subst hq
                    unfold RlE rlV at HOP
                    simp only at HOP
                    clear hp HPQ HPB
                    have hf7 := fld19_7 p0 p1 p2 p3 p4 p5 p6 ((k : Int) + 1)
                    have hjs : (S == c.jn) = true := by simpa using hJ
                    have hsb : (S == 0) = true := by simpa using hS
                    have hsn : (S != 0) = false := by simpa using hS
                    clear hS hJ
                    go_wp2_with fail
                    refine (HOP.out _ (Kept.refl NoB W)).mono ?_
                    rintro e w3 ⟨rfl, hk3⟩
                    have HK3 := Lib.hid hk3
                    clear c0 c1 c2 c3 c4 s0 s1 s2 s3 s4 s5 s6 s7
                    obtain ⟨s0, s1, s2, s3, s6, s7, c0, c1, c2, c3, c4⟩ := HCL.out _ hk3
                    clear hk3
                    go_wp2
                    have hkk : ((k + 1 : Nat) : Int) = (k : Int) + 1 := by omega
                    exact ⟨⟨k + 1, by omega, by rw [hkk], by rw [hkk, HG.out.1], by rw [hkk, HG.out.2.1], by rw [hkk, HG.out.2.2], HK2.out.trans HK3.out (fun _ _ h => h)⟩, by simp [intOf]; omega⟩
                · as_aux_lemma =>
                    obtain ⟨e2, e3⟩ := HHN2.out rfl
                    subst e2 e3
                    have g0 : le1 x0 ((k : Int) + 1) = A := by rw [HS0.out, if_neg (of_decide_eq_false HFH.out.symm)]; omega
                    have g1 : le1 x1 ((k : Int) + 1) = T := by rw [HS1.out, if_neg (of_decide_eq_false HFT.out.symm)]; omega
                    have g2 : ((cntN c.ns ((k : Int) + 1) : Nat) : Int) = (I : Int) := by rw [HS2.out, if_neg (of_decide_eq_false HII.out.symm)]; omega
                    have HG := Lib.hid (And.intro g0 (And.intro g1 g2))
                    clear g0 g1 g2
                    have hpb : (P == 0) = false := beq_eq_false_iff_ne.2 hP
                    have hpn : (P != 0) = true := by simpa using hP
                    have HPQ := Lib.hid (HPB.out hP)
                    have HOP := Lib.hid (HOW.out P)
                    clear hP
                    obtain ⟨⟨p0, p1, p2, p3, p4, p5, p6, p7⟩, hp⟩ : ∃ R, R = rlOf c P := ⟨_, rfl⟩
                    rw [← hp] at HPQ HOP
                    have hq : p7 = (k : Int) + 1 := HPQ.out
                    subst hq
                    unfold RlE rlV at HOP
                    simp only at HOP
                    clear hp HPQ HPB
                    have hf7 := fld19_7 p0 p1 p2 p3 p4 p5 p6 ((k : Int) + 1)
                    have hjs : (S == c.jn) = true := by simpa using hJ
                    have hsb : (S == 0) = true := by simpa using hS
                    have hsn : (S != 0) = false := by simpa using hS
                    clear hS hJ
                    go_wp2_with fail
                    refine (HOP.out _ (Kept.refl NoB W)).mono ?_
                    rintro e w3 ⟨rfl, hk3⟩
                    have HK3 := Lib.hid hk3
                    clear c0 c1 c2 c3 c4 s0 s1 s2 s3 s4 s5 s6 s7
                    obtain ⟨s0, s1, s2, s3, s6, s7, c0, c1, c2, c3, c4⟩ := HCL.out _ hk3
                    clear hk3
                    go_wp2
                    have hkk : ((k + 1 : Nat) : Int) = (k : Int) + 1 := by omega
                    exact ⟨⟨k + 1, by omega, by rw [hkk], by rw [hkk, HG.out.1], by rw [hkk, HG.out.2.1], by rw [hkk, HG.out.2.2], HK2.out.trans HK3.out (fun _ _ h => h)⟩, by simp [intOf]; omega⟩
              · cases y1
                · as_aux_lemma =>
                    obtain ⟨e2, e3⟩ := HHN2.out rfl
                    subst e2 e3
                    have g0 : le1 x0 ((k : Int) + 1) = A := by rw [HS0.out, if_neg (of_decide_eq_false HFH.out.symm)]; omega
                    have g1 : le1 x1 ((k : Int) + 1) = T := by rw [HS1.out, if_neg (of_decide_eq_false HFT.out.symm)]; omega
                    have g2 : ((cntN c.ns ((k : Int) + 1) : Nat) : Int) = (I : Int) := by rw [HS2.out, if_neg (of_decide_eq_false HII.out.symm)]; omega
                    have HG := Lib.hid (And.intro g0 (And.intro g1 g2))
                    clear g0 g1 g2
                    have hpb : (P == 0) = false := beq_eq_false_iff_ne.2 hP
                    have hpn : (P != 0) = true := by simpa using hP
                    have HPQ := Lib.hid (HPB.out hP)
                    have HOP := Lib.hid (HOW.out P)
                    clear hP
                    obtain ⟨⟨p0, p1, p2, p3, p4, p5, p6, p7⟩, hp⟩ : ∃ R, R = rlOf c P := ⟨_, rfl⟩
                    rw [← hp] at HPQ HOP
                    have hq : p7 = (k : Int) + 1 := HPQ.out
                    subst hq
                    unfold RlE rlV at HOP
                    simp only at HOP
                    clear hp HPQ HPB
                    have hf7 := fld19_7 p0 p1 p2 p3 p4 p5 p6 ((k : Int) + 1)
                    have hjs : (S == c.jn) = true := by simpa using hJ
                    have hsb : (S == 0) = false := beq_eq_false_iff_ne.2 hS
                    have hsn : (S != 0) = true := by simpa using hS
                    have HSQ := Lib.hid (HSB.out hS)
                    have HOS := Lib.hid (HOW.out S)
                    obtain ⟨⟨r0, r1, r2, r3, r4, r5, r6, r7⟩, hr⟩ : ∃ R, R = rlOf c S := ⟨_, rfl⟩
                    rw [← hr] at HSQ HOS
                    have hq : r6 = (k : Int) + 1 := HSQ.out
                    subst hq
                    unfold RlE rlV at HOS
                    simp only at HOS
                    clear hr HSQ HSB
                    have hf6 := fld19_6 r0 r1 r2 r3 r4 r5 ((k : Int) + 1) r7
                    clear hS hJ
                    go_wp2_with fail
                    refine (HOP.out _ (Kept.refl NoB W)).mono ?_
                    rintro e w3 ⟨rfl, hk3⟩
                    have HK3 := Lib.hid hk3
                    clear c0 c1 c2 c3 c4 s0 s1 s2 s3 s4 s5 s6 s7
                    obtain ⟨s0, s1, s2, s3, s6, s7, c0, c1, c2, c3, c4⟩ := HCL.out _ hk3
                    clear hk3
                    go_wp2_with fail
                    refine (HOS.out _ HK3.out).mono ?_
                    rintro e w4 ⟨rfl, hk4⟩
                    have HK4 := Lib.hid (HK3.out.trans hk4 (fun _ _ h => h))
                    clear c0 c1 c2 c3 c4 s0 s1 s2 s3 s6 s7
                    obtain ⟨s0, s1, s2, s3, s6, s7, c0, c1, c2, c3, c4⟩ := HCL.out _ HK4.out
                    clear hk4
                    go_wp2
                    have hkk : ((k + 1 : Nat) : Int) = (k : Int) + 1 := by omega
                    exact ⟨⟨k + 1, by omega, by rw [hkk], by rw [hkk, HG.out.1], by rw [hkk, HG.out.2.1], by rw [hkk, HG.out.2.2], HK2.out.trans HK4.out (fun _ _ h => h)⟩, by simp [intOf]; omega⟩
                · as_aux_lemma =>
                    obtain ⟨e2, e3⟩ := HHN2.out rfl
                    subst e2 e3
                    have g0 : le1 x0 ((k : Int) + 1) = A := by rw [HS0.out, if_neg (of_decide_eq_false HFH.out.symm)]; omega
                    have g1 : le1 x1 ((k : Int) + 1) = T := by rw [HS1.out, if_neg (of_decide_eq_false HFT.out.symm)]; omega
                    have g2 : ((cntN c.ns ((k : Int) + 1) : Nat) : Int) = (I : Int) := by rw [HS2.out, if_neg (of_decide_eq_false HII.out.symm)]; omega
                    have HG := Lib.hid (And.intro g0 (And.intro g1 g2))
                    clear g0 g1 g2
                    have hpb : (P == 0) = false := beq_eq_false_iff_ne.2 hP
                    have hpn : (P != 0) = true := by simpa using hP
                    have HPQ := Lib.hid (HPB.out hP)
                    have HOP := Lib.hid (HOW.out P)
                    clear hP
                    obtain ⟨⟨p0, p1, p2, p3, p4, p5, p6, p7⟩, hp⟩ : ∃ R, R = rlOf c P := ⟨_, rfl⟩
                    rw [← hp] at HPQ HOP
                    have hq : p7 = (k : Int) + 1 := HPQ.out
                    subst hq
                    unfold RlE rlV at HOP
                    simp only at HOP
                    clear hp HPQ HPB
                    have hf7 := fld19_7 p0 p1 p2 p3 p4 p5 p6 ((k : Int) + 1)
                    have hjs : (S == c.jn) = true := by simpa using hJ
                    have hsb : (S == 0) = false := beq_eq_false_iff_ne.2 hS
                    have hsn : (S != 0) = true := by simpa using hS
                    have HSQ := Lib.hid (HSB.out hS)
                    have HOS := Lib.hid (HOW.out S)
                    obtain ⟨⟨r0, r1, r2, r3, r4, r5, r6, r7⟩, hr⟩ : ∃ R, R = rlOf c S := ⟨_, rfl⟩
                    rw [← hr] at HSQ HOS
                    have hq : r6 = (k : Int) + 1 := HSQ.out
                    subst hq
                    unfold RlE rlV at HOS
                    simp only at HOS
                    clear hr HSQ HSB
                    have hf6 := fld19_6 r0 r1 r2 r3 r4 r5 ((k : Int) + 1) r7
                    clear hS hJ
                    go_wp2_with fail
                    refine (HOP.out _ (Kept.refl NoB W)).mono ?_
                    rintro e w3 ⟨rfl, hk3⟩
                    have HK3 := Lib.hid hk3
                    clear c0 c1 c2 c3 c4 s0 s1 s2 s3 s4 s5 s6 s7
                    obtain ⟨s0, s1, s2, s3, s6, s7, c0, c1, c2, c3, c4⟩ := HCL.out _ hk3
                    clear hk3
                    go_wp2_with fail
                    refine (HOS.out _ HK3.out).mono ?_
                    rintro e w4 ⟨rfl, hk4⟩
                    have HK4 := Lib.hid (HK3.out.trans hk4 (fun _ _ h => h))
                    clear c0 c1 c2 c3 c4 s0 s1 s2 s3 s6 s7
                    obtain ⟨s0, s1, s2, s3, s6, s7, c0, c1, c2, c3, c4⟩ := HCL.out _ HK4.out
                    clear hk4
                    go_wp2
                    have hkk : ((k + 1 : Nat) : Int) = (k : Int) + 1 := by omega
                    exact ⟨⟨k + 1, by omega, by rw [hkk], by rw [hkk, HG.out.1], by rw [hkk, HG.out.2.1], by rw [hkk, HG.out.2.2], HK2.out.trans HK4.out (fun _ _ h => h)⟩, by simp [intOf]; omega⟩
            · by_cases hS : S = 0
              · cases y1
                · as_aux_lemma =>
                    obtain ⟨e2, e3⟩ := HHN2.out rfl
                    subst e2 e3
                    have g0 : le1 x0 ((k : Int) + 1) = A := by rw [HS0.out, if_neg (of_decide_eq_false HFH.out.symm)]; omega
                    have g1 : le1 x1 ((k : Int) + 1) = T := by rw [HS1.out, if_neg (of_decide_eq_false HFT.out.symm)]; omega
                    have g2 : ((cntN c.ns ((k : Int) + 1) : Nat) : Int) = (I : Int) := by rw [HS2.out, if_neg (of_decide_eq_false HII.out.symm)]; omega
                    have HG := Lib.hid (And.intro g0 (And.intro g1 g2))
                    clear g0 g1 g2
                    have hpb : (P == 0) = false := beq_eq_false_iff_ne.2 hP
                    have hpn : (P != 0) = true := by simpa using hP
                    have HPQ := Lib.hid (HPB.out hP)
                    have HOP := Lib.hid (HOW.out P)
                    clear hP
                    obtain ⟨⟨p0, p1, p2, p3, p4, p5, p6, p7⟩, hp⟩ : ∃ R, R = rlOf c P := ⟨_, rfl⟩
                    rw [← hp] at HPQ HOP
                    have hq : p7 = (k : Int) + 1 := HPQ.out
                    subst hq
                    unfold RlE rlV at HOP
                    simp only at HOP
                    clear hp HPQ HPB
                    have hf7 := fld19_7 p0 p1 p2 p3 p4 p5 p6 ((k : Int) + 1)
                    have hjs : (S == c.jn) = false := beq_eq_false_iff_ne.2 hJ
                    have hsb : (S == 0) = true := by simpa using hS
                    have hsn : (S != 0) = false := by simpa using hS
                    clear hS hJ
                    go_wp2_with fail
                    refine (HOP.out _ (Kept.refl NoB W)).mono ?_
                    rintro e w3 ⟨rfl, hk3⟩
                    have HK3 := Lib.hid hk3
                    clear c0 c1 c2 c3 c4 s0 s1 s2 s3 s4 s5 s6 s7
                    obtain ⟨s0, s1, s2, s3, s6, s7, c0, c1, c2, c3, c4⟩ := HCL.out _ hk3
                    clear hk3
                    go_wp2
                    have hkk : ((k + 1 : Nat) : Int) = (k : Int) + 1 := by omega
                    exact ⟨⟨k + 1, by omega, by rw [hkk], by rw [hkk, HG.out.1], by rw [hkk, HG.out.2.1], by rw [hkk, HG.out.2.2], HK2.out.trans HK3.out (fun _ _ h => h)⟩, by simp [intOf]; omega⟩
                · as_aux_lemma =>
                    obtain ⟨e2, e3⟩ := HHN2.out rfl
                    subst e2 e3
                    have g0 : le1 x0 ((k : Int) + 1) = A := by rw [HS0.out, if_neg (of_decide_eq_false HFH.out.symm)]; omega
                    have g1 : le1 x1 ((k : Int) + 1) = T := by rw [HS1.out, if_neg (of_decide_eq_false HFT.out.symm)]; omega
                    have g2 : ((cntN c.ns ((k : Int) + 1) : Nat) : Int) = (I : Int) := by rw [HS2.out, if_neg (of_decide_eq_false HII.out.symm)]; omega
                    have HG := Lib.hid (And.intro g0 (And.intro g1 g2))
                    clear g0 g1 g2
                    have hpb : (P == 0) = false := beq_eq_false_iff_ne.2 hP
                    have hpn : (P != 0) = true := by simpa using hP
                    have HPQ := Lib.hid (HPB.out hP)
                    have HOP := Lib.hid (HOW.out P)
                    clear hP
                    obtain ⟨⟨p0, p1, p2, p3, p4, p5, p6, p7⟩, hp⟩ : ∃ R, R = rlOf c P := ⟨_, rfl⟩
                    rw [← hp] at HPQ HOP
                    have hq : p7 = (k : Int) + 1 := HPQ.out
                    subst hq
                    unfold RlE rlV at HOP
                    simp only at HOP
                    clear hp HPQ HPB
                    have hf7 := fld19_7 p0 p1 p2 p3 p4 p5 p6 ((k : Int) + 1)
                    have hjs : (S == c.jn) = false := beq_eq_false_iff_ne.2 hJ
                    have hsb : (S == 0) = true := by simpa using hS
                    have hsn : (S != 0) = false := by simpa using hS
                    clear hS hJ
                    go_wp2_with fail
                    refine (HOP.out _ (Kept.refl NoB W)).mono ?_
                    rintro e w3 ⟨rfl, hk3⟩
                    have HK3 := Lib.hid hk3
                    clear c0 c1 c2 c3 c4 s0 s1 s2 s3 s4 s5 s6 s7
                    obtain ⟨s0, s1, s2, s3, s6, s7, c0, c1, c2, c3, c4⟩ := HCL.out _ hk3
                    clear hk3
                    go_wp2
                    have hkk : ((k + 1 : Nat) : Int) = (k : Int) + 1 := by omega
                    exact ⟨⟨k + 1, by omega, by rw [hkk], by rw [hkk, HG.out.1], by rw [hkk, HG.out.2.1], by rw [hkk, HG.out.2.2], HK2.out.trans HK3.out (fun _ _ h => h)⟩, by simp [intOf]; omega⟩
              · cases y1
                · as_aux_lemma =>
                    obtain ⟨e2, e3⟩ := HHN2.out rfl
                    subst e2 e3
                    have g0 : le1 x0 ((k : Int) + 1) = A := by rw [HS0.out, if_neg (of_decide_eq_false HFH.out.symm)]; omega
                    have g1 : le1 x1 ((k : Int) + 1) = T := by rw [HS1.out, if_neg (of_decide_eq_false HFT.out.symm)]; omega
                    have g2 : ((cntN c.ns ((k : Int) + 1) : Nat) : Int) = (I : Int) := by rw [HS2.out, if_neg (of_decide_eq_false HII.out.symm)]; omega
                    have HG := Lib.hid (And.intro g0 (And.intro g1 g2))
                    clear g0 g1 g2
                    have hpb : (P == 0) = false := beq_eq_false_iff_ne.2 hP
                    have hpn : (P != 0) = true := by simpa using hP
                    have HPQ := Lib.hid (HPB.out hP)
                    have HOP := Lib.hid (HOW.out P)
                    clear hP
                    obtain ⟨⟨p0, p1, p2, p3, p4, p5, p6, p7⟩, hp⟩ : ∃ R, R = rlOf c P := ⟨_, rfl⟩
                    rw [← hp] at HPQ HOP
                    have hq : p7 = (k : Int) + 1 := HPQ.out
                    subst hq
                    unfold RlE rlV at HOP
                    simp only at HOP
                    clear hp HPQ HPB
                    have hf7 := fld19_7 p0 p1 p2 p3 p4 p5 p6 ((k : Int) + 1)
                    have hjs : (S == c.jn) = false := beq_eq_false_iff_ne.2 hJ
                    have hsb : (S == 0) = false := beq_eq_false_iff_ne.2 hS
                    have hsn : (S != 0) = true := by simpa using hS
                    have HSQ := Lib.hid (HSB.out hS)
                    have HOS := Lib.hid (HOW.out S)
                    obtain ⟨⟨r0, r1, r2, r3, r4, r5, r6, r7⟩, hr⟩ : ∃ R, R = rlOf c S := ⟨_, rfl⟩
                    rw [← hr] at HSQ HOS
                    have hq : r6 = (k : Int) + 1 := HSQ.out
                    subst hq
                    unfold RlE rlV at HOS
                    simp only at HOS
                    clear hr HSQ HSB
                    have hf6 := fld19_6 r0 r1 r2 r3 r4 r5 ((k : Int) + 1) r7
                    clear hS hJ
                    go_wp2_with fail
                    refine (HOP.out _ (Kept.refl NoB W)).mono ?_
                    rintro e w3 ⟨rfl, hk3⟩
                    have HK3 := Lib.hid hk3
                    clear c0 c1 c2 c3 c4 s0 s1 s2 s3 s4 s5 s6 s7
                    obtain ⟨s0, s1, s2, s3, s6, s7, c0, c1, c2, c3, c4⟩ := HCL.out _ hk3
                    clear hk3
                    go_wp2_with fail
                    refine (HOS.out _ HK3.out).mono ?_
                    rintro e w4 ⟨rfl, hk4⟩
                    have HK4 := Lib.hid (HK3.out.trans hk4 (fun _ _ h => h))
                    clear c0 c1 c2 c3 c4 s0 s1 s2 s3 s6 s7
                    obtain ⟨s0, s1, s2, s3, s6, s7, c0, c1, c2, c3, c4⟩ := HCL.out _ HK4.out
                    clear hk4
                    go_wp2
                    have hkk : ((k + 1 : Nat) : Int) = (k : Int) + 1 := by omega
                    exact ⟨⟨k + 1, by omega, by rw [hkk], by rw [hkk, HG.out.1], by rw [hkk, HG.out.2.1], by rw [hkk, HG.out.2.2], HK2.out.trans HK4.out (fun _ _ h => h)⟩, by simp [intOf]; omega⟩
                · as_aux_lemma =>
                    obtain ⟨e2, e3⟩ := HHN2.out rfl
                    subst e2 e3
                    have g0 : le1 x0 ((k : Int) + 1) = A := by rw [HS0.out, if_neg (of_decide_eq_false HFH.out.symm)]; omega
                    have g1 : le1 x1 ((k : Int) + 1) = T := by rw [HS1.out, if_neg (of_decide_eq_false HFT.out.symm)]; omega
                    have g2 : ((cntN c.ns ((k : Int) + 1) : Nat) : Int) = (I : Int) := by rw [HS2.out, if_neg (of_decide_eq_false HII.out.symm)]; omega
                    have HG := Lib.hid (And.intro g0 (And.intro g1 g2))
                    clear g0 g1 g2
                    have hpb : (P == 0) = false := beq_eq_false_iff_ne.2 hP
                    have hpn : (P != 0) = true := by simpa using hP
                    have HPQ := Lib.hid (HPB.out hP)
                    have HOP := Lib.hid (HOW.out P)
                    clear hP
                    obtain ⟨⟨p0, p1, p2, p3, p4, p5, p6, p7⟩, hp⟩ : ∃ R, R = rlOf c P := ⟨_, rfl⟩
                    rw [← hp] at HPQ HOP
                    have hq : p7 = (k : Int) + 1 := HPQ.out
                    subst hq
                    unfold RlE rlV at HOP
                    simp only at HOP
                    clear hp HPQ HPB
                    have hf7 := fld19_7 p0 p1 p2 p3 p4 p5 p6 ((k : Int) + 1)
                    have hjs : (S == c.jn) = false := beq_eq_false_iff_ne.2 hJ
                    have hsb : (S == 0) = false := beq_eq_false_iff_ne.2 hS
                    have hsn : (S != 0) = true := by simpa using hS
                    have HSQ := Lib.hid (HSB.out hS)
                    have HOS := Lib.hid (HOW.out S)
                    obtain ⟨⟨r0, r1, r2, r3, r4, r5, r6, r7⟩, hr⟩ : ∃ R, R = rlOf c S := ⟨_, rfl⟩
                    rw [← hr] at HSQ HOS
                    have hq : r6 = (k : Int) + 1 := HSQ.out
                    subst hq
                    unfold RlE rlV at HOS
                    simp only at HOS
                    clear hr HSQ HSB
                    have hf6 := fld19_6 r0 r1 r2 r3 r4 r5 ((k : Int) + 1) r7
                    clear hS hJ
                    go_wp2_with fail
                    refine (HOP.out _ (Kept.refl NoB W)).mono ?_
                    rintro e w3 ⟨rfl, hk3⟩
                    have HK3 := Lib.hid hk3
                    clear c0 c1 c2 c3 c4 s0 s1 s2 s3 s4 s5 s6 s7
                    obtain ⟨s0, s1, s2, s3, s6, s7, c0, c1, c2, c3, c4⟩ := HCL.out _ hk3
                    clear hk3
                    go_wp2_with fail
                    refine (HOS.out _ HK3.out).mono ?_
                    rintro e w4 ⟨rfl, hk4⟩
                    have HK4 := Lib.hid (HK3.out.trans hk4 (fun _ _ h => h))
                    clear c0 c1 c2 c3 c4 s0 s1 s2 s3 s6 s7
                    obtain ⟨s0, s1, s2, s3, s6, s7, c0, c1, c2, c3, c4⟩ := HCL.out _ HK4.out
                    clear hk4
                    go_wp2
                    have hkk : ((k + 1 : Nat) : Int) = (k : Int) + 1 := by omega
                    exact ⟨⟨k + 1, by omega, by rw [hkk], by rw [hkk, HG.out.1], by rw [hkk, HG.out.2.1], by rw [hkk, HG.out.2.2], HK2.out.trans HK4.out (fun _ _ h => h)⟩, by simp [intOf]; omega⟩
      · obtain rfl : k = 24 := by omega
        have G0 : Hid (le1 (c.ns.getD 0 0) ((24 : Nat) : Int) = 1) := Lib.hid (by unfold le1; rw [if_pos]; have := ns_pos HRT.out (show 0 < c.ns.length by have := len_pos HRT.out; omega); omega)
        have G1 : Hid (le1 (c.ns.getD (c.ns.length - 1) 0) ((24 : Nat) : Int) = 1) := Lib.hid (by unfold le1; rw [if_pos]; have := ns_pos HRT.out (show c.ns.length - 1 < c.ns.length by have := len_pos HRT.out; omega); omega)
        have G2 : Hid (cntN c.ns ((24 : Nat) : Int) = c.ns.length) := Lib.hid (cnt_all (fun x hx => ((nsq_of HRT.out).1 x hx).2))
        rw [G0.out, G1.out, G2.out]
        have HLP := Lib.hid (len_pos HRT.out)
        have HHW := Lib.hid (HH.out wr (HK1.out.trans HKR.out (fun _ _ h => h)))
        have HIN : Hid (∀ i, i < c.ns.length → rlOf c (c.ns.getD i 0) = insR c i) := Lib.hid (fun i hi => rl_in HRT.out hi)
        have hl5 : (c.ns.length : Int) ≤ 5 := by have := HLP.out; omega
        have hl1 : (1 : Int) ≤ (c.ns.length : Int) := by have := HLP.out; omega
        clear hlt hk
        go_wp2_with fail
        refine HHW.out.mono ?_
        rintro e w2 ⟨rfl, hk2⟩
        have HK2 := Lib.hid (HKR.out.trans hk2 (fun _ _ h => h))
        clear c0 c1 c2 c3 c4 hk2
        obtain ⟨c0, c1, c2, c3, c4⟩ := cells5 (HK2.out.heap (fun h => h) HB1.out)
        go_wp2_with fail
        go_loopw [8, 9] (fun av iv wr => ∃ i : Nat, i ≤ c.ns.length ∧ iv = .int .i64 i ∧ av = .int .i64 (if i = c.ns.length then c.jn else c.ns.getD i 0) ∧ Kept NoB w2 wr) (fun _ i _ => c.ns.length - (intOf i).toNat)
        case atStart => exact ⟨0, by omega, rfl, congrArg (Value.int .i64) (if_neg (fun h => by have := HLP.out; omega)).symm, Kept.refl _ _⟩
        case round =>
          obtain ⟨i, hi, rfl, rfl, hKi⟩ := hrel
          have HKI := Lib.hid (HK2.out.trans hKi (fun _ _ h => h))
          have HKI0 := Lib.hid hKi
          clear c0 c1 c2 c3 c4 hKi
          obtain ⟨c0, c1, c2, c3, c4⟩ := cells5 (HKI.out.heap (fun h => h) HB1.out)
          by_cases hlt : i < c.ns.length
          · have hi1 : (i : Int) < (c.ns.length : Int) := by omega
            have hi0 : (0 : Int) ≤ (i : Int) := by omega
            rw [if_neg (show ¬ i = c.ns.length by omega)]
            obtain ⟨b, o, e, _, _, hc⟩ := (HN.out wr (HK1.out.trans HKI.out (fun _ _ h => h))).at_ (j := i) hlt
            subst e
            have HO1 := Lib.hid (fun w' (hk : Kept NoB wr w') => HO.out (c.ns.getD i 0) w' (HK1.out.trans (HKI.out.trans hk (fun _ _ h => h)) (fun _ _ h => h)))
            rw [HIN.out i hlt] at HO1
            have HS : Hid (succN c i = if i + 1 = c.ns.length then c.jn else c.ns.getD (i + 1) 0) := Lib.hid rfl
            obtain ⟨⟨y0, y1, y2, y3, y4, y5, P, S⟩, hR⟩ : ∃ R, R = insR c i := ⟨_, rfl⟩
            have h5 : y5 = (i : Int) := congrArg Rl.place hR
            have h7 : S = succN c i := congrArg Rl.succ hR
            rw [← hR] at HO1
            rw [← h7] at HS
            subst h5
            unfold RlE rlV at HO1
            simp only at HO1
            obtain ⟨q, hq⟩ : ∃ q, q = c.ns.getD i 0 := ⟨_, rfl⟩
            rw [← hq] at HO1 hc ⊢
            have f5 := fld19_5 y0 y1 y2 y3 y4 (i : Int) P S
            have f7 := fld19_7 y0 y1 y2 y3 y4 (i : Int) P S
            clear hR h7 hq hlt hi
            go_wp2_with fail
            refine (HO1.out _ (Kept.refl NoB _)).mono ?_
            rintro e w3 ⟨rfl, hk3⟩
            have HK3 := Lib.hid hk3
            clear c0 c1 c2 c3 c4 hc hk3
            obtain ⟨c0, c1, c2, c3, c4⟩ := cells5 ((HKI.out.trans HK3.out (fun _ _ h => h)).heap (fun h => h) HB1.out)
            go_wp2_with fail
            refine (HO1.out _ HK3.out).mono ?_
            rintro e w4 ⟨rfl, hk4⟩
            have HK4 := Lib.hid (HK3.out.trans hk4 (fun _ _ h => h))
            clear hk4
            go_wp2
            refine ⟨⟨i + 1, by omega, by go_num, by rw [HS.out], ?_⟩, by simp [intOf]; omega⟩
            exact HKI0.out.trans HK4.out (fun _ _ h => h)
          · obtain rfl : i = c.ns.length := by omega
            rw [if_pos rfl]
            have HA := Lib.hid (H9.out _ (HK1.out.trans HKI.out (fun _ _ h => h)))
            clear hlt hi
            go_wp2_with fail
            refine HA.out.mono ?_
            rintro e w3 ⟨rfl, hk3⟩
            have HK3 := Lib.hid ((HK1.out.trans HKI.out (fun _ _ h => h)).trans hk3 (fun _ _ h => h))
            clear hk3
            go_wp2
            go_ret
            exact ⟨rfl, HK3.out⟩
end Go.Proofs.Ytajneoaljpljpaa
