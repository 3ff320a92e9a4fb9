/-
  The chapter's inodes: Check.
-/
import Derived.Test.YtbacnkndllifaaaInoH
namespace Go.Proofs.Ytbacnkndllifaaa
open Go.RowKit
set_option linter.unusedVariables false

theorem okB_c {l : List Xt} {s : Int} (h5 : s ≤ 512) : okB l s = true ↔ cOk l s := by
  unfold okB
  rw [decide_eq_true_iff]
  exact ⟨pOk_cOk h5, cOk_pOk h5⟩
theorem chk_bad {m s : Int} {l : List Xt} (h1 : ¬ (m < 0 ∨ 2 < m)) (h2 : s ≤ 512) (h : ¬ cOk l s) : chk28 m s l = 4 := by
  unfold chk28
  rw [if_neg h1, if_neg (by omega), if_pos]
  refine .inr (.inr ?_)
  cases hb : okB l s
  · rfl
  · exact absurd ((okB_c h2).1 hb) h
theorem chk_ok {m s : Int} {l : List Xt} (h1 : ¬ (m < 0 ∨ 2 < m)) (h0 : 0 ≤ s) (h2 : s ≤ 512) (h3 : ¬ (m = 0 ∧ 0 < s)) (h : cOk l s) : chk28 m s l = 0 := by
  unfold chk28
  rw [if_neg h1, if_neg (by omega), if_neg]
  rintro (hx | hx | hx)
  · omega
  · exact h3 hx
  · rw [(okB_c h2).2 h] at hx; cases hx
theorem cOk_zero {l : List Xt} (h : 0 < l.length) : ¬ cOk l 0 := fun ⟨h1, _, _, h4⟩ => by
  have := blk_ge h1
  have h0 : need28 0 = 0 := by unfold need28; simp
  rw [h0] at h4; omega
/-- The first j extents are valid, none begins where the one ahead ends. -/
def Fine28 (l : List Xt) (j : Nat) : Prop := (∀ i, i < j → vE (xth l i)) ∧ ∀ i, i + 1 < j → (xth l i).1 + (xth l i).2 ≠ (xth l (i + 1)).1
theorem Fine28.bad1 {l : List Xt} {s : Int} {j : Nat} (hj : j < l.length) (h : ¬ vE (xth l j)) : ¬ cOk l s := fun ⟨h1, _⟩ => h (h1 _ (xth_mem hj))
theorem Fine28.bad2 {l : List Xt} {s : Int} {j : Nat} (hj : j < l.length) (h0 : 0 < j) (h : (xth l (j - 1)).1 + (xth l (j - 1)).2 = (xth l j).1) : ¬ cOk l s := fun ⟨_, h1, _⟩ => by
  have := h1 (j - 1) (by omega)
  rw [show j - 1 + 1 = j by omega] at this
  exact this h
theorem Fine28.succ {l : List Xt} {j : Nat} (h : Fine28 l j) (hv : vE (xth l j)) (ha : 0 < j → (xth l (j - 1)).1 + (xth l (j - 1)).2 ≠ (xth l j).1) : Fine28 l (j + 1) := by
  refine ⟨fun i hi => ?_, fun i hi => ?_⟩
  · by_cases e : i = j
    · rw [e]; exact hv
    · exact h.1 i (by omega)
  · by_cases e : i + 1 = j
    · have := ha (by omega)
      rw [show j - 1 = i by omega] at this
      rw [e]; exact this
    · exact h.2 i (by omega)
theorem Fine28.all {l : List Xt} (h : Fine28 l l.length) : (∀ e ∈ l, vE e) ∧ adjN l := by
  refine ⟨fun e he => ?_, fun i hi => h.2 i hi⟩
  obtain ⟨i, hi, rfl⟩ := List.getElem_of_mem he
  have := h.1 i hi
  rwa [xth_eq hi] at this
def Dis28 (bs : List Int) (j : Nat) : Prop := ∀ i, i < j → ¬ bs.getD i 0 ∈ bs.take i
theorem Dis28.succ {bs : List Int} {j : Nat} (h : Dis28 bs j) (h2 : ¬ bs.getD j 0 ∈ bs.take j) : Dis28 bs (j + 1) := fun i hi => by
  by_cases e : i = j
  · rw [e]; exact h2
  · exact h i (by omega)
set_option maxRecDepth 100000 in
theorem rCheck_head (m s : Int) (u : Value) (l : List Xt) (F : Nat → Prop) (w : World) (h : XSl w F u l) (hbad : (m < 0 ∨ 2 < m) ∨ 512 < s ∨ s < 0 ∨ (m = 0 ∧ (s ≠ 0 ∨ 0 < l.length))) :
    Calls Try.prog 34 #[iv28 m s u] w (IntE (chk28 m s l) w) := by
  obtain ⟨a, cap, rfl, hca, hcm, _⟩ := id h
  have hk0 := (Kept.refl NoB w).alloc (.cells #[.int .i64 m, .int .i64 s, .slice a l.length cap] 43)
  have HK0 := Lib.hid hk0
  have hb := heap_alloc_new w (.cells #[.int .i64 m, .int .i64 s, .slice a l.length cap] 43)
  obtain ⟨c0, c1, c2⟩ := cells3 hb
  unfold maxLen at hcm
  clear h hk0 hb
  by_cases hm : m < 0 ∨ 2 < m
  · have hr : chk28 m s l = 1 := by unfold chk28; rw [if_pos hm]
    rw [hr]
    by_cases hm0 : m < 0
    · have d1 : decide (m < 0) = true := decide_eq_true hm0
      clear hm hr hbad
      go_enter Try.func34, Try.ntmps34
      go_wp2
      go_ret
      exact ⟨rfl, HK0.out⟩
    · have d1 : decide (m < 0) = false := decide_eq_false hm0
      have d2 : decide (2 < m) = true := decide_eq_true (by omega)
      clear hm hr hm0 hbad
      go_enter Try.func34, Try.ntmps34
      go_wp2
      go_ret
      exact ⟨rfl, HK0.out⟩
  · have d1 : decide (m < 0) = false := decide_eq_false (by omega)
    have d2 : decide (2 < m) = false := decide_eq_false (by omega)
    by_cases hs : 512 < s
    · have hr : chk28 m s l = 17 := by unfold chk28; rw [if_neg hm, if_pos hs]
      rw [hr]
      have d3 : decide (512 < s) = true := decide_eq_true hs
      clear hm hr hs hbad
      go_enter Try.func34, Try.ntmps34
      go_wp2
      go_ret
      exact ⟨rfl, HK0.out⟩
    · have d3 : decide (512 < s) = false := decide_eq_false hs
      by_cases hs0 : s < 0
      · have hr : chk28 m s l = 4 := by unfold chk28; rw [if_neg hm, if_neg hs, if_pos (.inl hs0)]
        rw [hr]
        have d4 : decide (s < 0) = true := decide_eq_true hs0
        clear hm hr hs hs0 hbad
        go_enter Try.func34, Try.ntmps34
        go_wp2
        go_ret
        exact ⟨rfl, HK0.out⟩
      · have d4 : decide (s < 0) = false := decide_eq_false hs0
        obtain ⟨hm0, hsl⟩ : m = 0 ∧ (s ≠ 0 ∨ 0 < l.length) := by
          rcases hbad with h | h | h | h
          · exact absurd h hm
          · exact absurd h hs
          · exact absurd h hs0
          · exact h
        have d5 : (m == 0) = true := by rw [hm0]; rfl
        have hr : chk28 m s l = 4 := by
          by_cases h0 : s = 0
          · refine chk_bad hm (by omega) ?_
            rw [h0]; exact cOk_zero (by omega)
          · unfold chk28; rw [if_neg hm, if_neg hs, if_pos (.inr (.inl ⟨hm0, by omega⟩))]
        rw [hr]
        by_cases h0 : s = 0
        · have d6 : (s != 0) = false := by rw [h0]; rfl
          have d7 : decide ((0 : Int) < (l.length : Int)) = true := decide_eq_true (by omega)
          have d8 : decide (0 < l.length) = true := decide_eq_true (by omega)
          clear hm hr hs hs0 hm0 h0 hsl hbad
          go_enter Try.func34, Try.ntmps34
          go_wp2
          go_ret
          exact ⟨rfl, HK0.out⟩
        · have d6 : (s != 0) = true := by simpa using h0
          clear hm hr hs hs0 hm0 h0 hsl hbad
          go_enter Try.func34, Try.ntmps34
          go_wp2
          go_ret
          exact ⟨rfl, HK0.out⟩
set_option maxRecDepth 100000 in
set_option maxHeartbeats 20000000 in
theorem rCheck_body (m s : Int) (u : Value) (l : List Xt) (F : Nat → Prop) (w : World) (h : XSl w F u l) (hl : l.length ≤ 1000) (hm : ¬ (m < 0 ∨ 2 < m)) (hs0 : 0 ≤ s) (hs : s ≤ 512) (hms : ¬ (m = 0 ∧ (s ≠ 0 ∨ 0 < l.length))) :
    Calls Try.prog 34 #[iv28 m s u] w (IntE (chk28 m s l) w) := by
  obtain ⟨a, cap, rfl, hca, hcm, _⟩ := id h
  have hk0 := (Kept.refl NoB w).alloc (.cells #[.int .i64 m, .int .i64 s, .slice a l.length cap] 43)
  have HK0 := Lib.hid hk0
  have HX := Lib.hid (h.no hk0)
  have hb := heap_alloc_new w (.cells #[.int .i64 m, .int .i64 s, .slice a l.length cap] 43)
  have HB := Lib.hid hb
  obtain ⟨c0, c1, c2⟩ := cells3 hb
  have HBAD := Lib.hid (fun h => chk_bad (l := l) hm hs h)
  have HOK := Lib.hid (fun h => chk_ok (l := l) hm hs0 hs (fun hx => hms ⟨hx.1, .inl (by omega)⟩) h)
  have HBL := Lib.hid (fun W (hk : Kept NoB w W) => rBlocks_any m s _ l _ W (h.no hk) hl)
  have hbl := blk_len l
  obtain ⟨t, ht⟩ : ∃ t, t = chk28 m s l := ⟨_, rfl⟩
  rw [← ht] at HBAD HOK ⊢
  have hca2 : (cap : Int) ≤ 9223372036854775807 := by unfold maxLen at hcm; omega
  have hll : (l.length : Int) ≤ (cap : Int) := by omega
  have d1 : decide (m < 0) = false := decide_eq_false (by omega)
  have d2 : decide (2 < m) = false := decide_eq_false (by omega)
  have d3 : decide (512 < s) = false := decide_eq_false (by omega)
  have d4 : decide (s < 0) = false := decide_eq_false (by omega)
  obtain ⟨w0, hw⟩ : ∃ w0, w0 = w.alloc (.cells #[.int .i64 m, .int .i64 s, .slice a l.length cap] 43) := ⟨_, rfl⟩
  have hss : (m == 0) = false ∨ (m == 0) = true ∧ (s != 0) = false ∧ decide ((0 : Int) < (l.length : Int)) = false ∧ decide (0 < l.length) = false := by
    by_cases e : m = 0
    · right
      refine ⟨by rw [e]; rfl, ?_, decide_eq_false (fun h => hms ⟨e, .inr (by omega)⟩), decide_eq_false (fun h => hms ⟨e, .inr h⟩)⟩
      have : s = 0 := by
        by_cases h0 : s = 0
        · exact h0
        · exact absurd ⟨e, .inl h0⟩ hms
      rw [this]; rfl
    · left; simpa using e
  have key : Calls Try.prog 34 #[iv28 m s (.slice a l.length cap)] w (IntE t w) := by
    clear h hk0 hb ht hm hms
    rcases hss with d5 | ⟨d5, d6, d7, d8⟩
    all_goals
      go_enter Try.func34, Try.ntmps34
      go_wp2
      rw [← hw] at HX HK0 HB c0 c1 c2 ⊢
      clear hw c0 c1 c2
      go_loopw [3] (fun i wr => ∃ j : Nat, j ≤ l.length ∧ i = .int .i64 j ∧ Fine28 l j ∧ Kept NoB w0 wr) (fun i _ => l.length - (intOf i).toNat)
      case atStart => exact ⟨0, by omega, rfl, ⟨fun i hi => absurd hi (by omega), fun i hi => absurd hi (by omega)⟩, Kept.refl _ _⟩
      case round =>
        obtain ⟨j, hj, rfl, hfi, hkk⟩ := hrel
        have HFI := Lib.hid hfi
        have HKR := Lib.hid hkk
        obtain ⟨c0, c1, c2⟩ := cells3 (hkk.heap (fun h => h) HB.out)
        clear hfi hkk
        by_cases hlt : j < l.length
        · obtain ⟨b, o, rfl, _, _, e0, e1⟩ := (HX.out.no HKR.out).at_ hlt
          obtain ⟨x, hx⟩ : ∃ x, x = xth l j := ⟨_, rfl⟩
          rw [← hx] at e0 e1
          have HXE := Lib.hid hx
          obtain ⟨xs, xn⟩ := x
          simp only at e0 e1
          have hj0 : (0 : Int) ≤ (j : Int) := by omega
          have hj1 : (j : Int) < (l.length : Int) := by omega
          have HKA := Lib.hid (HK0.out.trans (HKR.out.alloc (.cells #[.int .i64 xs, .int .i64 xn] 80)) (fun _ _ h => h))
          have HKB := Lib.hid (HKR.out.alloc (.cells #[.int .i64 xs, .int .i64 xn] 80))
          clear hx
          by_cases hv : vE (xs, xn)
          · have HV := Lib.hid hv
            obtain ⟨v1, v2, v3, v4, v5⟩ := hv
            simp only at v1 v2 v3 v4 v5
            have q0 : decide (xn < 1) = false := decide_eq_false (by omega)
            have q1 : decide (8 < xn) = false := decide_eq_false (by omega)
            have q2 : decide (xs < 0) = false := decide_eq_false (by omega)
            have q3 : decide (4095 < xs) = false := decide_eq_false (by omega)
            have q4 : decide (4096 < xs + xn) = false := decide_eq_false (by omega)
            by_cases hj2 : 0 < j
            · obtain ⟨b', o', he', _, _, p0, p1⟩ := (HX.out.no HKR.out).at_ (show j - 1 < l.length by omega)
              injection he' with he'
              injection he' with e1' e2'
              subst e1' e2'
              obtain ⟨y, hy⟩ : ∃ y, y = xth l (j - 1) := ⟨_, rfl⟩
              rw [← hy] at p0 p1
              have HYE := Lib.hid hy
              have hvy := HFI.out.1 (j - 1) (by omega)
              rw [← hy] at hvy
              obtain ⟨ys, yn⟩ := y
              obtain ⟨w1, w2, w3, w4, w5⟩ := hvy
              simp only at p0 p1 w1 w2 w3 w4 w5
              have r1 : decide ((0 : Int) < (j : Int)) = true := decide_eq_true (by omega)
              have r2 : decide (0 < j) = true := decide_eq_true hj2
              have s1 : (0 : Int) ≤ (j : Int) - 1 := by omega
              have s2 : (j : Int) - 1 < (l.length : Int) := by omega
              have s3 : ((j : Int) - 1).toNat = j - 1 := by omega
              have s4 : IntKind.i64.wrap ((j : Int) - 1) = (j : Int) - 1 := IntWalk.i64_in _ (by omega)
              obtain ⟨z, hz⟩ : ∃ z, z = ys + yn := ⟨_, rfl⟩
              have HZ := Lib.hid hz
              have s5 : IntKind.i64.wrap (ys + yn) = z := by rw [hz]; exact IntWalk.i64_in _ (by omega)
              have s6 : ys + yn = z := hz.symm
              have p0 := cell_alloc p0 (.cells #[.int .i64 xs, .int .i64 xn] 80)
              have p1 := cell_alloc p1 (.cells #[.int .i64 xs, .int .i64 xn] 80)
              have c2a := cell_alloc c2 (.cells #[.int .i64 xs, .int .i64 xn] 80)
              have xb := cell_of_row _ _ 0 _ _ _ (heap_alloc_new wr (.cells #[.int .i64 xs, .int .i64 xn] 80))
              clear hy hz
              by_cases hz2 : z = xs
              · have HF : Hid (4 = t) := Lib.hid (HBAD.out (Fine28.bad2 hlt hj2 (by rw [← HXE.out, ← HYE.out]; show ys + yn = xs; rw [← HZ.out]; exact hz2))).symm
                have z1 : (z == xs) = true := by simpa using hz2
                clear hz2 hj2
                go_wp2
                go_quiet (fail)
                go_wp2
                go_ret
                exact ⟨ret_i HF.out, HKA.out.drewN _⟩
              · have HFN : Hid (Fine28 l (j + 1)) := Lib.hid (HFI.out.succ (by rw [← HXE.out]; exact HV.out) (fun _ => by rw [← HXE.out, ← HYE.out]; show ys + yn ≠ xs; rw [← HZ.out]; exact hz2))
                have z1 : (z == xs) = false := by simpa using hz2
                clear hz2 hj2
                go_wp2
                go_quiet (fail)
                go_wp2
                go_roundw
                case rel => exact ⟨j + 1, by omega, by go_num, HFN.out, HKB.out.drewN _⟩
                case measure => simp [intOf]; omega
            · have HFN : Hid (Fine28 l (j + 1)) := Lib.hid (HFI.out.succ (by rw [← HXE.out]; exact HV.out) (fun h => absurd h hj2))
              have r1 : decide ((0 : Int) < (j : Int)) = false := decide_eq_false (by omega)
              have r2 : decide (0 < j) = false := decide_eq_false hj2
              clear hj2
              go_wp2
              go_quiet (fail)
              go_wp2
              go_roundw
              case rel => exact ⟨j + 1, by omega, by go_num, HFN.out, HKB.out.drewN _⟩
              case measure => simp [intOf]; omega
          · skip
            by_cases g0 : xn < 1
            · have q0 : decide (xn < 1) = true := decide_eq_true g0
              clear g0
              have HF : Hid (4 = t) := Lib.hid (HBAD.out (Fine28.bad1 hlt (by rw [← HXE.out]; exact hv))).symm
              clear hv
              go_wp2
              go_ret
              exact ⟨ret_i HF.out, HKA.out⟩
            · have q0 : decide (xn < 1) = false := decide_eq_false g0
              by_cases g1 : 8 < xn
              · have q1 : decide (8 < xn) = true := decide_eq_true g1
                clear g1
                have HF : Hid (4 = t) := Lib.hid (HBAD.out (Fine28.bad1 hlt (by rw [← HXE.out]; exact hv))).symm
                clear hv
                go_wp2
                go_ret
                exact ⟨ret_i HF.out, HKA.out⟩
              · have q1 : decide (8 < xn) = false := decide_eq_false g1
                by_cases g2 : xs < 0
                · have q2 : decide (xs < 0) = true := decide_eq_true g2
                  clear g2
                  have HF : Hid (4 = t) := Lib.hid (HBAD.out (Fine28.bad1 hlt (by rw [← HXE.out]; exact hv))).symm
                  clear hv
                  go_wp2
                  go_ret
                  exact ⟨ret_i HF.out, HKA.out⟩
                · have q2 : decide (xs < 0) = false := decide_eq_false g2
                  by_cases g3 : 4095 < xs
                  · have q3 : decide (4095 < xs) = true := decide_eq_true g3
                    clear g3
                    have HF : Hid (4 = t) := Lib.hid (HBAD.out (Fine28.bad1 hlt (by rw [← HXE.out]; exact hv))).symm
                    clear hv
                    go_wp2
                    go_ret
                    exact ⟨ret_i HF.out, HKA.out⟩
                  · have q3 : decide (4095 < xs) = false := decide_eq_false g3
                    have q4 : decide (4096 < xs + xn) = true := decide_eq_true (by unfold vE at hv; simp only at hv; omega)
                    have HF : Hid (4 = t) := Lib.hid (HBAD.out (Fine28.bad1 hlt (by rw [← HXE.out]; exact hv))).symm
                    clear hv
                    go_wp2
                    go_ret
                    exact ⟨ret_i HF.out, HKA.out⟩
        · obtain rfl : j = l.length := by omega
          have HV := Lib.hid HFI.out.all
          obtain ⟨wa, hwa⟩ : ∃ wa, wa = wr := ⟨_, rfl⟩
          rw [← hwa] at HKR c0 c1 c2 ⊢
          have HKW := Lib.hid (HK0.out.trans HKR.out (fun _ _ h => h))
          have HB2 := Lib.hid (HKR.out.heap (fun h => h) HB.out)
          clear hwa wr
          have HBW := Lib.hid (HBL.out wa HKW.out)
          obtain ⟨BS, hBS⟩ : ∃ BS, BS = blk l := ⟨_, rfl⟩
          have HBSE := Lib.hid hBS
          rw [← hBS] at HBW hbl
          clear hBS
          go_wp2_with (go_at_call 38; refine HBW.out.mono ?_; rintro e w1 ⟨a1, e1, rfl, ho, hk⟩; have HO := Lib.hid ho.nslB; have HK1 := Lib.hid (HKW.out.trans hk (fun _ _ h => h)); have HB3 := Lib.hid (hk.heap (fun h => h) HB2.out); clear ho hk)
          have hol := HO.out.len
          unfold maxLen at hol
          clear c0 c1 c2
          go_loopw [6] (fun i wr => ∃ j : Nat, j ≤ BS.length ∧ i = .int .i64 j ∧ Dis28 BS j ∧ Kept NoB w1 wr) (fun i _ => BS.length - (intOf i).toNat)
          case atStart => exact ⟨0, by omega, rfl, fun i hi => absurd hi (by omega), Kept.refl _ _⟩
          case round =>
            obtain ⟨j, hj3, rfl, hno, hkq⟩ := hrel
            have HNO := Lib.hid hno
            have HKQ := Lib.hid hkq
            have HK9 := Lib.hid (HK1.out.trans hkq (fun _ _ h => h))
            have HB4 := Lib.hid (hkq.heap (fun h => h) HB3.out)
            clear hno hkq
            by_cases hlt2 : j < BS.length
            · obtain ⟨b, o, rfl, _, _, hcell⟩ := (HO.out.kept HKQ.out (fun _ _ _ h => h)).at_ hlt2
              obtain ⟨x, hx⟩ : ∃ x, x = BS.getD j 0 := ⟨_, rfl⟩
              rw [← hx] at hcell
              have HXE := Lib.hid hx
              have hj0 : (0 : Int) ≤ (j : Int) := by omega
              have hj1 : (j : Int) < (BS.length : Int) := by omega
              have hje : (j : Int) ≤ (e1 : Int) := by omega
              have HC : Hid (∀ W : World, Kept NoB w1 W → Calls Try.prog 62 #[.slice (some ⟨b, o, none⟩) j e1, .int .i64 x] W fun e w' => e = .returned (.bool (decide (x ∈ BS.take j))) ∧ W = w') := Lib.hid (fun W hk => Has4_any _ _ x _ W (nsl_take (HO.out.kept hk (fun _ _ _ h => h)) (k := j) (by omega)))
              clear hx
              cases hm : decide (x ∈ BS.take j) with
              | true =>
                have HF : Hid (4 = t) := Lib.hid (HBAD.out (fun ⟨_, _, h3, _⟩ => by
                  rw [← HBSE.out] at h3
                  exact h3 j hlt2 (by rw [← HXE.out]; exact of_decide_eq_true hm))).symm
                have HC2 : Hid (∀ W : World, Kept NoB w1 W → Calls Try.prog 62 #[.slice (some ⟨b, o, none⟩) j e1, .int .i64 x] W fun e w' => e = .returned (.bool true) ∧ w' = W) := Lib.hid (fun W hW => (HC.out W hW).mono (by rw [hm]; rintro e w6 ⟨rfl, rfl⟩; exact ⟨rfl, rfl⟩))
                clear hm
                go_wp2
                go_quiet ((go_at_call 62; refine Calls.quiet_of_same (HC2.out _ ?_); exact HKQ.out.drewN _))
                go_wp2
                go_ret
                exact ⟨ret_i HF.out, HK9.out.drewN _⟩
              | false =>
                have HN2 := Lib.hid (HNO.out.succ (by rw [← HXE.out]; exact of_decide_eq_false hm))
                have HC2 : Hid (∀ W : World, Kept NoB w1 W → Calls Try.prog 62 #[.slice (some ⟨b, o, none⟩) j e1, .int .i64 x] W fun e w' => e = .returned (.bool false) ∧ w' = W) := Lib.hid (fun W hW => (HC.out W hW).mono (by rw [hm]; rintro e w6 ⟨rfl, rfl⟩; exact ⟨rfl, rfl⟩))
                clear hm
                go_wp2
                go_quiet ((go_at_call 62; refine Calls.quiet_of_same (HC2.out _ ?_); exact HKQ.out.drewN _))
                go_wp2
                go_roundw
                case rel => exact ⟨j + 1, by omega, by go_num, HN2.out, HKQ.out.drewN _⟩
                case measure => simp [intOf]; omega
            · obtain rfl : j = BS.length := by omega
              obtain ⟨c0, c1, c2⟩ := cells3 HB4.out
              have HNE := Lib.hid (fun W => rNeed_any s W (by omega) (by omega))
              by_cases hn : (BS.length : Int) = need28 s
              · have HF : Hid (0 = t) := Lib.hid (HOK.out ⟨HV.out.1, HV.out.2, by rw [← HBSE.out]; exact HNO.out, by rw [← HBSE.out]; exact hn⟩).symm
                have q3 : ((BS.length : Int) != need28 s) = false := by rw [hn]; simp
                clear hn
                go_wp2_with (go_at_call 47; refine (HNE.out _).mono ?_; rintro e w6 ⟨rfl, rfl⟩)
                go_ret
                exact ⟨ret_i HF.out, HK9.out⟩
              · have HF : Hid (4 = t) := Lib.hid (HBAD.out (fun ⟨_, _, _, h4⟩ => hn (by rw [HBSE.out]; exact h4))).symm
                have q3 : ((BS.length : Int) != need28 s) = true := by rw [bne_iff_ne]; exact hn
                clear hn
                go_wp2_with (go_at_call 47; refine (HNE.out _).mono ?_; rintro e w6 ⟨rfl, rfl⟩)
                go_ret
                exact ⟨ret_i HF.out, HK9.out⟩
  exact key
theorem rCheck_any (m s : Int) (u : Value) (l : List Xt) (F : Nat → Prop) (w : World) (h : XSl w F u l) (hl : l.length ≤ 1000) :
    Calls Try.prog 34 #[iv28 m s u] w (IntE (chk28 m s l) w) := by
  by_cases hb : (m < 0 ∨ 2 < m) ∨ 512 < s ∨ s < 0 ∨ (m = 0 ∧ (s ≠ 0 ∨ 0 < l.length))
  · exact rCheck_head m s u l F w h hb
  · exact rCheck_body m s u l F w h hl (fun h => hb (.inl h)) (by by_cases h : s < 0; exact absurd (.inr (.inr (.inl h))) hb; omega) (by by_cases h : 512 < s; exact absurd (.inr (.inl h)) hb; omega) (fun h => hb (.inr (.inr (.inr h))))
end Go.Proofs.Ytbacnkndllifaaa
