/-
  LeadChooses: the walk.
-/
import Derived.Test.YtidhaofojcdbaaaLedM
import Derived.Test.YtidhaofojcdbaaaChoAA
namespace Go.Proofs.Ytidhaofojcdbaaa
open Go.RowKit
set_option linter.unusedVariables false

/-- The first j masters promised. -/
def pws : Nat → List Vt
  | 0 => []
  | 1 => [wv 1]
  | 2 => [wv 1, wv 2]
  | _ => [wv 1, wv 2, wv 3]
/-- The last t masters accepted. -/
def accs (n : Nat) : Nat → Nat
  | 0 => 0
  | t + 1 => accN (accs n t) ((n : Int) - (t : Int))
theorem pws_enough : ∀ n : Fin 6, ∀ j : Fin 3, 1 ≤ n.val → j.val + 1 ≤ n.val / 2 + 1 → enough (clr (ors 0 ((pws (j.val + 1)).map fun v => v.s))) (n.val : Int) = decide (j.val + 1 = n.val / 2 + 1) := by decide +kernel
theorem accs_enough : ∀ n : Fin 6, ∀ t : Fin 3, 1 ≤ n.val → t.val + 1 ≤ n.val / 2 + 1 → enough (accs n.val (t.val + 1)) (n.val : Int) = decide (t.val + 1 = n.val / 2 + 1) := by decide +kernel
theorem accs_lt (n t : Nat) : accs n t < 18446744073709551616 := by
  induction t with
  | zero => show (0 : Nat) < 18446744073709551616; omega
  | succ t ih =>
    show clr (ors (accs n t) _) < _
    have := ors_lt [(n : Int) - (t : Int)] (accs n t) ih
    unfold clr
    omega
theorem pws_put {j : Nat} (h : j < 3) : putV (pws j) (wv ((j : Int) + 1)) = pws (j + 1) ∧ atV (pws j) ((j : Int) + 1) = none ∧ (pws j).length ≤ 5 ∧ WhoOk (j : Int) (pws j) := by
  match j, h with
  | 0, _ => exact ⟨rfl, rfl, by decide, fun v hv => by cases hv⟩
  | 1, _ => exact ⟨rfl, rfl, by decide, fun v hv => by
      have hv : v ∈ [wv 1] := hv
      rw [List.mem_singleton] at hv
      subst hv
      exact ⟨by decide, by decide⟩⟩
  | 2, _ => exact ⟨rfl, rfl, by decide, fun v hv => by
      have hv : v ∈ [wv 1, wv 2] := hv
      simp only [List.mem_cons, List.not_mem_nil, or_false] at hv
      rcases hv with rfl | rfl
      · exact ⟨by decide, by decide⟩
      · exact ⟨by decide, by decide⟩⟩
def RgtM (me ms : Int) : Prop := 1 ≤ ms ∧ ms ≤ 5 ∧ 1 ≤ me ∧ me ≤ ms
theorem right_yes (me ms : Int) (w : World) (h : RgtM me ms) : Calls Try.prog 18 #[.int .i64 me, .int .i64 ms] w fun e w' => e = .returned (.bool true) ∧ w = w' := by
  unfold RgtM at h
  obtain ⟨h1, h2, h3, h4⟩ := h
  go_enter Try.func18, Try.ntmps18
  go_wp2
  go_ret
  exact ⟨rfl, rfl⟩
theorem right_no (me ms : Int) (w : World) (h : ¬ RgtM me ms) : Calls Try.prog 18 #[.int .i64 me, .int .i64 ms] w fun e w' => e = .returned (.bool false) ∧ w = w' := by
  unfold RgtM at h
  by_cases h1 : 1 ≤ ms
  · by_cases h2 : ms ≤ 5
    · by_cases h3 : 1 ≤ me
      · have h4 : decide (me ≤ ms) = false := decide_eq_false (by omega)
        clear h
        go_enter Try.func18, Try.ntmps18
        go_wp2
        go_ret
        exact ⟨rfl, rfl⟩
      · have h3' : decide (1 ≤ me) = false := decide_eq_false h3
        clear h h3
        go_enter Try.func18, Try.ntmps18
        go_wp2
        go_ret
        exact ⟨rfl, rfl⟩
    · have h2' : decide (ms ≤ 5) = false := decide_eq_false h2
      clear h h2
      go_enter Try.func18, Try.ntmps18
      go_wp2
      go_ret
      exact ⟨rfl, rfl⟩
  · have h1' : decide (1 ≤ ms) = false := decide_eq_false h1
    clear h h1
    go_enter Try.func18, Try.ntmps18
    go_wp2
    go_ret
    exact ⟨rfl, rfl⟩
/-- While promises come: i masters are next. -/
def L1Rel (w : World) (g n : Nat) (me : Int) (iv : Value) (wr : World) : Prop :=
  ∃ (j bp bq : Nat) (I : Int), iv = .int .i64 I ∧ I = (j : Int) + 1 ∧ j ≤ n / 2 + 1 ∧ LdAt wr g bp bq me n (if j = n / 2 + 1 then 2 else 1) (8 + me) 0 0 (if j = n / 2 + 1 then [] else pws j) [] ∧ w.heap.size ≤ g ∧ w.heap.size ≤ bp ∧ w.heap.size ≤ bq ∧ Kept NoB w wr
def L2Rel (w : World) (g bp bq n N : Nat) (me : Int) (iv : Value) (wr : World) : Prop :=
  ∃ (j : Nat) (nx : Int), iv = .int .i64 j ∧ j ≤ N ∧ 0 ≤ nx ∧ nx ≤ 512 ∧ LdAt wr g bp bq me n 2 (8 + me) 0 nx [] [] ∧ Kept NoB w wr
def L3Rel (w : World) (g bp bq n b17 : Nat) (me nx k ch ep nd : Int) (kv : Value) (wr : World) : Prop :=
  ∃ (t : Nat) (K : Int), kv = .int .i64 K ∧ K = (n : Int) - (t : Int) ∧ t ≤ n / 2 + 1 ∧ LdAt wr g bp bq me n 2 (8 + me) 0 (nx + 1) [] (if t = n / 2 + 1 then [] else [⟨nx, accs n t, k, ch, ep, nd⟩]) ∧
    wr.heap[b17]? = some (.cells #[.int .i64 nx, .int .u64 (8 + me), .int .i64 k, .int .i64 ch, .int .u64 ep, .int .i64 nd] 48 (0, 0)) ∧ Kept NoB w wr
theorem propX_ok {e0 nx : Int} (h : propX e0 nx = 0) : nx ≠ 512 := by
  intro hn
  unfold propX at h
  by_cases he : e0 = 0
  · simp [he, hn] at h
  · rw [if_pos he] at h
    exact he h
set_option maxRecDepth 100000 in
set_option maxHeartbeats 8000000 in
theorem LeadChooses_any (w : World) (me ms : Int) (u : Value) (N : Nat) (it : Nat → Vt) (hv : Cm2 w u N it) :
    Calls Try.prog 4 #[.int .i64 me, .int .i64 ms, u] w (BoolD true w) := by
  obtain ⟨ua, uc, rfl, hN63, hcells⟩ := hv
  have HCS := Lib.hid hcells
  have hNN : (N : Int) ≤ 9223372036854775807 := by omega
  have hN0 : (0 : Int) ≤ (N : Int) := by omega
  clear hcells
  by_cases hR : RgtM me ms
  · have HRT := Lib.hid (fun w => right_yes me ms w hR)
    obtain ⟨h1, h2, h3, h4⟩ := id hR
    obtain ⟨n, rfl⟩ := Int.eq_ofNat_of_zero_le (show 0 ≤ ms by omega)
    have hn1 : 1 ≤ n := by omega
    have hn5 : n ≤ 5 := by omega
    clear hR
    by_cases h60 : 60 < N
    · have hd : decide (60 < (N : Int)) = true := decide_eq_true (by omega)
      go_enter Try.func4, Try.ntmps4
      go_wp2_with fail
      refine (HRT.out _).mono ?_
      rintro e w1 ⟨rfl, rfl⟩
      go_wp2_with fail
      refine (awake13 _).mono ?_
      rintro e w5 ⟨rfl, hk5⟩
      have HK5 := Lib.hid hk5
      clear hk5
      go_wp2
      go_ret
      exact ⟨rfl, HK5.out⟩
    · have hd : decide (60 < (N : Int)) = false := decide_eq_false (by omega)
      clear h60
      go_enter Try.func4, Try.ntmps4
      go_wp2_with fail
      refine (HRT.out _).mono ?_
      rintro e w1 ⟨rfl, rfl⟩
      go_wp2_with fail
      refine (DNew_any w me n (by omega) (by omega) (by omega) (by omega)).mono ?_
      rintro e w1 ⟨g, bp, bq, rfl, hl1, hg, hp, hq, hk1⟩
      have HL1 := Lib.hid hl1
      have HK1 := Lib.hid hk1
      have HGB : Hid (w.heap.size ≤ g ∧ w.heap.size ≤ bp ∧ w.heap.size ≤ bq) := Lib.hid ⟨hg, hp, hq⟩
      clear hl1 hg hp hq hk1
      go_wp2_with fail
      refine (DStart_ok w1 g bp bq me n 0 0 0 [] [] HL1.out (by omega) (by omega)).mono ?_
      rintro e w2 ⟨bp2, bq2, rfl, hl2, hp2, hq2, hk2⟩
      have HL2 := Lib.hid hl2
      have HK2 : Hid (Kept NoB w w2) := Lib.hid (HK1.out.trans hk2 (fun i hi e => by have := HGB.out; have e : i = g := e; omega))
      have HGB2 : Hid (w.heap.size ≤ g ∧ w.heap.size ≤ bp2 ∧ w.heap.size ≤ bq2) := Lib.hid (by have := HGB.out; have := HK1.out.size; omega)
      clear hl2 hp2 hq2 hk2
      have hdiv : (n : Int).tdiv 2 = ((n / 2 : Nat) : Int) := by rw [Int.tdiv_eq_ediv_of_nonneg (by omega)]; omega
      have hw2 : IntKind.i64.wrap ((n / 2 : Nat) : Int) = ((n / 2 : Nat) : Int) := IntWalk.i64_in _ (by omega)
      have hw3 : IntKind.i64.wrap (((n / 2 : Nat) : Int) + 1) = ((n / 2 : Nat) : Int) + 1 := IntWalk.i64_in _ (by omega)
      have hM4 : ((n / 2 : Nat) : Int) ≤ 2 := by omega
      obtain ⟨m, hm⟩ : ∃ m, m = n / 2 := ⟨_, rfl⟩
      have HM := Lib.hid hm
      rw [← hm] at hdiv hw2 hw3 hM4
      have hm2 : m ≤ 2 := by omega
      clear hm
      go_wp2_with fail
      obtain ⟨M, hM⟩ : ∃ M : Int, M = (m : Int) + 1 := ⟨_, rfl⟩
      have HMM := Lib.hid hM
      rw [← hM]
      clear hM hdiv hw2 hw3
      go_loopw [12] (L1Rel w g n me) (fun i _ => (M + 1 - RowKit.intOf i).toNat)
      case atStart =>
        have hb := HGB2.out
        exact ⟨0, bp2, bq2, 1, rfl, by simp, by omega, by rw [if_neg (by omega), if_neg (by omega)]; exact HL2.out, hb.1, hb.2.1, hb.2.2, HK2.out⟩
      case round =>
        obtain ⟨j, bp3, bq3, I, rfl, hI, hj, hl, hb1, hb2, hb3, hkk⟩ := hrel
        have HI := Lib.hid hI
        have hj : j ≤ m + 1 := by have := HM.out; omega
        have HGB3 : Hid (w.heap.size ≤ g ∧ w.heap.size ≤ bp3 ∧ w.heap.size ≤ bq3) := Lib.hid ⟨hb1, hb2, hb3⟩
        have HKR := Lib.hid hkk
        rw [← HM.out] at hl
        clear hb1 hb2 hb3 hkk HL1 HK1 HGB HL2 HK2 HGB2
        by_cases hjm : j = m + 1
        · rw [if_pos hjm, if_pos hjm] at hl
          have HL := Lib.hid hl
          have hle : decide (I ≤ M) = false := decide_eq_false (by have := HMM.out; omega)
          clear hl hjm hI
          go_wp2_with fail
          go_loopw [15] (L2Rel w g bp3 bq3 n N me) (fun i _ => ((N : Int) - RowKit.intOf i).toNat)
          case atStart => exact ⟨0, 0, by simp, by omega, by omega, by omega, HL.out, HKR.out⟩
          case round =>
            obtain ⟨i, nx, rfl, hi, hn0, hn9, hl2, hk2⟩ := hrel
            have HL2 := Lib.hid hl2
            have HK2 := Lib.hid hk2
            have hi0 : (0 : Int) ≤ (i : Int) := by omega
            clear hl2 hk2 HL HKR
            by_cases hiN : i < N
            · have hi1 : (i : Int) < (N : Int) := by omega
              obtain ⟨b, o, rfl, hbw, hc⟩ := HCS.out (by omega)
              obtain ⟨hcc, hep, hep2⟩ := hc i hiN
              clear hc
              obtain ⟨y, hy⟩ : ∃ y, y = it i := ⟨_, rfl⟩
              rw [← hy] at hcc hep hep2
              clear hy
              obtain ⟨_, _, ck, cch, cep, cnd⟩ := y
              simp only at hcc hep hep2
              have HCC := Lib.hid (hcc.no HK2.out)
              have HCW := Lib.hid hcc
              have HNX := Lib.hid (DNext_any wr g bp3 bq3 me n 2 (8 + me) 0 nx [] [] HL2.out)
              have HPP := Lib.hid (Propose_any wr g bp3 bq3 me n (8 + me) 0 nx (chk ck cch cep cnd) ck cch cep cnd [] HL2.out hn0 hn9 (chk_is _ _ _ _) hep)
              unfold PropE at HPP
              obtain ⟨X, hX⟩ : ∃ X, X = propX (chk ck cch cep cnd) nx := ⟨_, rfl⟩
              rw [← hX] at HPP
              have HX := Lib.hid hX
              obtain ⟨d0, d1, d2, d3⟩ := id HCC.out
              clear hX hcc
              go_wp2_with fail
              refine HNX.out.mono ?_
              rintro e w1 ⟨rfl, rfl⟩
              go_wp2_with fail
              refine HPP.out.mono ?_
              rintro e w3 hpe
              clear d0 d1 d2 d3 HPP HNX
              rcases hpe with ⟨hX0, rfl, hl3, hk3⟩ | ⟨hX0, rfl, hl3, hk3⟩
              · have hXb : (X != 0) = true := by simpa using hX0
                have HFIN : Hid (L2Rel w g bp3 bq3 n N me (.int .i64 ((i : Int) + 1)) (w3.alloc (.cells #[.int .i64 0, .int .u64 0, .int .i64 0, .int .i64 0, .int .u64 0, .int .i64 0] 48))) := Lib.hid ⟨i + 1, nx, by simp, by omega, hn0, hn9, hl3.no ((Kept.refl NoB w3).alloc _), (HK2.out.trans hk3 (fun _ _ h => h)).alloc _⟩
                clear hl3 hk3 hX0
                go_wp2
                exact ⟨HFIN.out, by simp only [RowKit.intOf]; omega⟩
              · have hXb : (X != 0) = false := by rw [hX0]; rfl
                have HN9 : Hid (nx + 1 ≤ 512) := Lib.hid (by have h1 := HX.out; rw [hX0] at h1; have := propX_ok h1.symm; omega)
                have HL3 := Lib.hid (hl3.no ((Kept.refl NoB w3).alloc (.cells #[.int .i64 nx, .int .u64 (8 + me), .int .i64 ck, .int .i64 cch, .int .u64 cep, .int .i64 cnd] 48)))
                have HK3 : Hid (Kept NoB w (w3.alloc (.cells #[.int .i64 nx, .int .u64 (8 + me), .int .i64 ck, .int .i64 cch, .int .u64 cep, .int .i64 cnd] 48))) := Lib.hid ((HK2.out.trans hk3 (fun i hi e => by have hb := HGB3.out; rcases e with e | e | e <;> omega)).alloc _)
                have HV3 := Lib.hid (heap_alloc_new w3 (.cells #[.int .i64 nx, .int .u64 (8 + me), .int .i64 ck, .int .i64 cch, .int .u64 cep, .int .i64 cnd] 48))
                have HBL : Hid (g < w3.heap.size ∧ bp3 < w3.heap.size ∧ bq3 < w3.heap.size) := Lib.hid (by have := hl3.lt; omega)
                have HC0 : Hid (CmC w b (o + i * 4) ck cch cep cnd) := Lib.hid HCW.out
                clear hl3 hk3 hX0 HL2 HK2 HX HCC
                go_wp2_with fail
                obtain ⟨b17, hb17⟩ : ∃ x, x = w3.heap.size := ⟨_, rfl⟩
                obtain ⟨W4, hW4⟩ : ∃ x, x = w3.alloc (.cells #[.int .i64 nx, .int .u64 (8 + me), .int .i64 ck, .int .i64 cch, .int .u64 cep, .int .i64 cnd] 48) := ⟨_, rfl⟩
                rw [← hb17] at HV3 HBL ⊢
                rw [← hW4] at HV3 HL3 HK3 ⊢
                clear hb17 hW4
                obtain ⟨D, hD⟩ : ∃ D, D = (n : Int) - M := ⟨_, rfl⟩
                have hs1 : IntKind.i64.wrap ((n : Int) - M) = D := by rw [hD]; exact IntWalk.i64_in _ (by have := HMM.out; omega)
                obtain ⟨D1, hD1⟩ : ∃ D1, D1 = D + 1 := ⟨_, rfl⟩
                have hs2 : IntKind.i64.wrap (D + 1) = D1 := by rw [hD1]; exact IntWalk.i64_in _ (by have := HMM.out; omega)
                have HDD : Hid (D = (n : Int) - M ∧ D1 = D + 1 ∧ M = (m : Int) + 1 ∧ m = n / 2) := Lib.hid ⟨hD, hD1, HMM.out, HM.out⟩
                clear hD hD1
                go_loopw [19] (L3Rel w g bp3 bq3 n b17 me nx ck cch cep cnd) (fun i _ => (RowKit.intOf i + 5).toNat)
                case atStart => exact ⟨0, n, rfl, by simp, by omega, by rw [if_neg (by omega)]; exact HL3.out, HV3.out, HK3.out⟩
                case round =>
                  obtain ⟨t, K, rfl, hK, ht, hl, hv, hk⟩ := hrel
                  have ht : t ≤ m + 1 := by have := HDD.out; omega
                  rw [← HM.out] at hl
                  have HVR := Lib.hid hv
                  have HKW := Lib.hid hk
                  clear hv hk HL3 HV3 HK3
                  by_cases htm : t = m + 1
                  · rw [if_pos htm] at hl
                    have hgt : decide (D < K) = false := decide_eq_false (by have := HDD.out; omega)
                    have HFIN : Hid (L2Rel w g bp3 bq3 n N me (.int .i64 ((i : Int) + 1)) wr) := Lib.hid ⟨i + 1, nx + 1, by simp, by omega, by omega, HN9.out, hl, HKW.out⟩
                    clear hl htm hK
                    go_wp2
                    exact ⟨HFIN.out, by simp only [RowKit.intOf]; omega⟩
                  · rw [if_neg htm] at hl
                    have HLR := Lib.hid hl
                    have hgt : decide (D < K) = true := decide_eq_true (by have := HDD.out; omega)
                    have hs3 : IntKind.i64.wrap (K - 1) = K - 1 := IntWalk.i64_in _ (by omega)
                    have hac : accN (accs n t) K = accs n (t + 1) := by rw [hK]; rfl
                    have HAC : Hid (∀ en, decide (t + 1 = n / 2 + 1) = en → Calls Try.prog 21 #[.pointer (some ⟨g, 0, none⟩), .int .u64 (8 + me), .int .i64 nx, .int .i64 K] wr (AccdE g bp3 bq3 me n (8 + me) 0 (nx + 1) nx ck cch cep cnd (accs n (t + 1)) en [] wr)) := Lib.hid (fun en hen => by
                      have hh := Accepted_any wr g bp3 bq3 n (accs n t) me (8 + me) 0 (nx + 1) nx ck cch cep cnd K [] HLR.out (by omega) (by have := HDD.out; omega) (by omega) hn0 hn9 (accs_lt n t) en (by rw [hac]; exact (accs_enough ⟨n, by omega⟩ ⟨t, by omega⟩ hn1 (by have := HDD.out; show t + 1 ≤ n / 2 + 1; omega)).trans hen)
                      rw [hac] at hh
                      exact hh)
                    have HCR : Hid (CmC wr b (o + i * 4) ck cch cep cnd) := Lib.hid (HC0.out.no HKW.out)
                    clear hl hac
                    by_cases hlast : t = m
                    · have HA := HAC.out true (decide_eq_true (by have := HDD.out; omega))
                      unfold AccdE at HA
                      simp only [if_true] at HA
                      have HA := Lib.hid HA
                      have HJT : Hid (t = m ∧ K = (n : Int) - (t : Int)) := Lib.hid ⟨hlast, hK⟩
                      have heq : (K == D1) = true := by rw [beq_iff_eq]; have := HDD.out; omega
                      obtain ⟨x0, x1, x2, x3, x4, x5⟩ := cells6v HVR.out
                      clear HAC htm hlast hK
                      go_wp2_with fail
                      refine HA.out.mono ?_
                      rintro e w5 ⟨rfl, hl5, hk5⟩
                      have HA6 := Lib.hid ((Kept.refl NoB w5).alloc (.cells #[.int .i64 nx, .int .u64 (8 + me), .int .i64 ck, .int .i64 cch, .int .u64 cep, .int .i64 cnd] 48))
                      have HY6 := Lib.hid (heap_alloc_new w5 (.cells #[.int .i64 nx, .int .u64 (8 + me), .int .i64 ck, .int .i64 cch, .int .u64 cep, .int .i64 cnd] 48))
                      have HL6 := Lib.hid (hl5.no HA6.out)
                      have HV6 := Lib.hid (HA6.out.heap (fun h => h) (hk5.heap (fun e => by have := HBL.out; rcases e with e | e | e <;> omega) HVR.out))
                      have HC6 := Lib.hid ((HCR.out.kept hk5 (fun e => by have hb := HGB3.out; rcases e with e | e | e <;> omega)).no HA6.out)
                      have HK6 := Lib.hid ((HKW.out.trans hk5 (fun i hi e => by have hb := HGB3.out; rcases e with e | e | e <;> omega)).trans HA6.out (fun _ _ h => h))
                      clear hl5 hk5 x0 x1 x2 x3 x4 x5 HA
                      go_upto_region 22 with fail
                      obtain ⟨b20, hb20⟩ : ∃ x, x = w5.heap.size := ⟨_, rfl⟩
                      obtain ⟨W6, hW6⟩ : ∃ x, x = w5.alloc (.cells #[.int .i64 nx, .int .u64 (8 + me), .int .i64 ck, .int .i64 cch, .int .u64 cep, .int .i64 cnd] 48) := ⟨_, rfl⟩
                      rw [← hb20] at HY6 ⊢
                      rw [← hW6] at HY6 HL6 HV6 HC6 HK6 ⊢
                      clear hb20 hW6 HA6
                      have HFIN : Hid (∀ a, L3Rel w g bp3 bq3 n b17 me nx ck cch cep cnd (.int .i64 (K - 1)) (W6.drewN a)) := Lib.hid (fun a => by
                        have hdr := (Kept.refl NoB W6).drewN a
                        refine ⟨t + 1, K - 1, rfl, by have := HJT.out; omega, by have := HJT.out; have := HDD.out; omega, ?_, hdr.heap (fun h => h) HV6.out, HK6.out.trans hdr (fun _ _ h => h)⟩
                        rw [if_pos (by have := HJT.out; have := HDD.out; omega)]
                        exact HL6.out.no hdr)
                      obtain ⟨x0, x1, x2, x3, x4, x5⟩ := cells6v HV6.out
                      obtain ⟨y0, y1, y2, y3, y4, y5⟩ := cells6v HY6.out
                      obtain ⟨d0, d1, d2, d3⟩ := id HC6.out
                      go_quiet (fail)
                      clear x0 x1 x2 x3 x4 x5 y0 y1 y2 y3 y4 y5 d0 d1 d2 d3
                      go_wp2
                      exact ⟨HFIN.out _, by simp only [RowKit.intOf]; have := HJT.out; omega⟩
                    · have HA := HAC.out false (decide_eq_false (by have := HDD.out; omega))
                      unfold AccdE at HA
                      simp only [Bool.false_eq_true, if_false] at HA
                      have HA := Lib.hid HA
                      have HJT : Hid (t < m ∧ K = (n : Int) - (t : Int)) := Lib.hid ⟨by omega, hK⟩
                      have heq : (K == D1) = false := by rw [beq_eq_false_iff_ne]; have := HDD.out; omega
                      obtain ⟨x0, x1, x2, x3, x4, x5⟩ := cells6v HVR.out
                      clear HAC htm hlast hK
                      go_wp2_with fail
                      refine HA.out.mono ?_
                      rintro e w5 ⟨rfl, hl5, hk5⟩
                      have HA6 := Lib.hid ((Kept.refl NoB w5).alloc (.cells #[.int .i64 0, .int .u64 0, .int .i64 0, .int .i64 0, .int .u64 0, .int .i64 0] 48))
                      have HL6 := Lib.hid (hl5.no HA6.out)
                      have HV6 := Lib.hid (HA6.out.heap (fun h => h) (hk5.heap (fun e => by have := HBL.out; rcases e with e | e | e <;> omega) HVR.out))
                      have HK6 := Lib.hid ((HKW.out.trans hk5 (fun i hi e => by have hb := HGB3.out; rcases e with e | e | e <;> omega)).trans HA6.out (fun _ _ h => h))
                      clear hl5 hk5 x0 x1 x2 x3 x4 x5 HA
                      go_upto_region 22 with fail
                      obtain ⟨b20, hb20⟩ : ∃ x, x = w5.heap.size := ⟨_, rfl⟩
                      obtain ⟨W6, hW6⟩ : ∃ x, x = w5.alloc (.cells #[.int .i64 0, .int .u64 0, .int .i64 0, .int .i64 0, .int .u64 0, .int .i64 0] 48) := ⟨_, rfl⟩
                      rw [← hb20]
                      rw [← hW6] at HL6 HV6 HK6 ⊢
                      clear hb20 hW6 HA6
                      have HFIN : Hid (∀ a, L3Rel w g bp3 bq3 n b17 me nx ck cch cep cnd (.int .i64 (K - 1)) (W6.drewN a)) := Lib.hid (fun a => by
                        have hdr := (Kept.refl NoB W6).drewN a
                        refine ⟨t + 1, K - 1, rfl, by have := HJT.out; omega, by have := HJT.out; have := HDD.out; omega, ?_, hdr.heap (fun h => h) HV6.out, HK6.out.trans hdr (fun _ _ h => h)⟩
                        rw [if_neg (by have := HJT.out; have := HDD.out; omega)]
                        exact HL6.out.no hdr)
                      go_quiet (fail)
                      go_wp2
                      exact ⟨HFIN.out _, by simp only [RowKit.intOf]; have := HJT.out; have := HDD.out; omega⟩
            · have hi1 : decide ((i : Int) < (N : Int)) = false := decide_eq_false (by omega)
              have hi2 : ¬ (i : Int) < (N : Int) := by omega
              have HOP := Lib.hid (Open_none wr g bp3 bq3 me n 2 (8 + me) 0 nx [] HL2.out)
              go_wp2_with fail
              refine HOP.out.mono ?_
              rintro e w5 ⟨rfl, hk5⟩
              have HK5 := Lib.hid (HK2.out.trans hk5 (fun _ _ h => h))
              clear hk5
              go_wp2_with fail
              refine (awake13 _).mono ?_
              rintro e w6 ⟨rfl, hk6⟩
              have HK6 := Lib.hid (HK5.out.trans hk6 (fun _ _ h => h))
              clear hk6
              go_wp2
              go_ret
              exact ⟨rfl, HK6.out⟩
        · rw [if_neg hjm, if_neg hjm] at hl
          have HL := Lib.hid hl
          have hle : decide (I ≤ M) = true := decide_eq_true (by have := HMM.out; omega)
          have hw4 : IntKind.i64.wrap (I + 1) = I + 1 := IntWalk.i64_in _ (by omega)
          have HPR := Lib.hid (fun (en : Bool) (hen : decide (j + 1 = n / 2 + 1) = en) => Promise_none wr g bp3 bq3 n me (8 + me) 0 0 I (pws j) [] HL.out (by omega) (fun v hv => ⟨((pws_put (j := j) (by omega)).2.2.2 v hv).1, by have := ((pws_put (j := j) (by omega)).2.2.2 v hv).2; have := HM.out; omega⟩) (by omega) (by have := HM.out; omega) (by rw [hI]; exact (pws_put (by omega)).2.1) (pws_put (by omega)).2.2.1 en (setIs_of (by rw [hI]; rw [(pws_put (by omega)).1]; rw [pws_enough ⟨n, by omega⟩ ⟨j, by omega⟩ hn1 (by have := HM.out; show j + 1 ≤ n / 2 + 1; omega)]; exact hen)))
          clear hl
          by_cases hlast : j = m
          · have HP := Lib.hid (HPR.out true (decide_eq_true (by have := HM.out; omega)))
            have heq : (I == M) = true := by rw [beq_iff_eq]; have := HMM.out; omega
            have HJM := Lib.hid hlast
            clear HPR hjm hlast hI
            go_wp2_with fail
            refine HP.out.mono ?_
            rintro e w3 ⟨rfl, ⟨bp4, bq4, hl3, hp3, hq3⟩, hk3⟩
            have HFIN : Hid (L1Rel w g n me (.int .i64 (I + 1)) w3) := Lib.hid (by
              have hb := HGB3.out
              have hs := HKR.out.size
              refine ⟨j + 1, bp4, bq4, I + 1, rfl, by rw [HI.out]; simp, by have := HM.out; have := HJM.out; omega, ?_, hb.1, by omega, by omega, HKR.out.trans hk3 (fun i hi e => by rcases e with e | e | e <;> omega)⟩
              rw [← HM.out, if_pos (by have := HJM.out; omega), if_pos (by have := HJM.out; omega)]
              exact hl3)
            clear hl3 hp3 hq3 hk3 HP
            go_wp2
            exact ⟨HFIN.out, by simp only [RowKit.intOf]; have := HMM.out; have := HJM.out; have := HI.out; omega⟩
          · have HP := Lib.hid (HPR.out false (decide_eq_false (by have := HM.out; omega)))
            have heq : (I == M) = false := by rw [beq_eq_false_iff_ne]; have := HMM.out; omega
            have HJM : Hid (j < m) := Lib.hid (by omega)
            clear HPR hjm hlast hI
            go_wp2_with fail
            refine HP.out.mono ?_
            rintro e w3 ⟨rfl, ⟨bp4, bq4, hl3, hp3, hq3⟩, hk3⟩
            have HFIN : Hid (L1Rel w g n me (.int .i64 (I + 1)) w3) := Lib.hid (by
              have hb := HGB3.out
              have hs := HKR.out.size
              refine ⟨j + 1, bp4, bq4, I + 1, rfl, by rw [HI.out]; simp, by have := HM.out; have := HJM.out; omega, ?_, hb.1, by omega, by omega, HKR.out.trans hk3 (fun i hi e => by rcases e with e | e | e <;> omega)⟩
              rw [← HM.out, if_neg (by have := HJM.out; omega), if_neg (by have := HJM.out; omega), ← (pws_put (j := j) (by have := HJM.out; omega)).1, ← HI.out]
              exact hl3)
            clear hl3 hp3 hq3 hk3 HP
            go_wp2
            exact ⟨HFIN.out, by simp only [RowKit.intOf]; have := HMM.out; have := HJM.out; have := HI.out; omega⟩
  · have HRF := Lib.hid (fun w => right_no me ms w hR)
    clear hR
    go_enter Try.func4, Try.ntmps4
    go_wp2_with fail
    refine (HRF.out _).mono ?_
    rintro e w1 ⟨rfl, rfl⟩
    go_wp2_with fail
    refine (awake13 _).mono ?_
    rintro e w5 ⟨rfl, hk5⟩
    have HK5 := Lib.hid hk5
    clear hk5
    go_wp2
    go_ret
    exact ⟨rfl, HK5.out⟩
end Go.Proofs.Ytidhaofojcdbaaa
