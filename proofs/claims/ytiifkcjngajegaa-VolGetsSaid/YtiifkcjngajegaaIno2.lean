/-
  The chapter's inodes: Check. Package inode: Of. The chapter's inodes: Of. Package inode: Put. Layer 28: the page's example; Put as one contract. Layer 28: an inode of the chapter's as the program's (ours). Layer 28: like, of what is alike. Layer 28: InodeMakes.
-/
import Derived.Test.YtiifkcjngajegaaIno1
import Derived.BigRegion
import Derived.Deep.RegionLaw
import Derived.Test.YtiifkcjngajegaaOutB
import Derived.Laws.BytesArg
namespace Go.Proofs.Ytiifkcjngajegaa
open Go.RowKit
set_option linter.unusedVariables false

theorem okB_c {l : List Xt} {s : Int} (h5 : s ≤ 512) : okB l s = true ↔ cOk l s := by
  unfold okB
  rw [decide_eq_true_iff]
  exact ⟨pOk_cOk h5, cOk_pOk h5⟩
theorem chk_bad {m s : Int} {l : List Xt} (h1 : ¬ (m < 0 ∨ 2 < m)) (h2 : s ≤ 512) (h : ¬ cOk l s) : chk28 m s l = 4 := by
  unfold chk28
  rw [if_neg h1, if_neg (by omega), if_pos]
  refine .inr (.inr ?_)
  cases hb : okB l s
  · rfl
  · exact absurd ((okB_c h2).1 hb) h
theorem chk_ok {m s : Int} {l : List Xt} (h1 : ¬ (m < 0 ∨ 2 < m)) (h0 : 0 ≤ s) (h2 : s ≤ 512) (h3 : ¬ (m = 0 ∧ 0 < s)) (h : cOk l s) : chk28 m s l = 0 := by
  unfold chk28
  rw [if_neg h1, if_neg (by omega), if_neg]
  rintro (hx | hx | hx)
  · omega
  · exact h3 hx
  · rw [(okB_c h2).2 h] at hx; cases hx
theorem cOk_zero {l : List Xt} (h : 0 < l.length) : ¬ cOk l 0 := fun ⟨h1, _, _, h4⟩ => by
  have := blk_ge h1
  have h0 : need28 0 = 0 := by unfold need28; simp
  rw [h0] at h4; omega
/-- The first j extents are valid, none begins where the one ahead ends. -/
def Fine28 (l : List Xt) (j : Nat) : Prop := (∀ i, i < j → vE (xth l i)) ∧ ∀ i, i + 1 < j → (xth l i).1 + (xth l i).2 ≠ (xth l (i + 1)).1
theorem Fine28.bad1 {l : List Xt} {s : Int} {j : Nat} (hj : j < l.length) (h : ¬ vE (xth l j)) : ¬ cOk l s := fun ⟨h1, _⟩ => h (h1 _ (xth_mem hj))
theorem Fine28.bad2 {l : List Xt} {s : Int} {j : Nat} (hj : j < l.length) (h0 : 0 < j) (h : (xth l (j - 1)).1 + (xth l (j - 1)).2 = (xth l j).1) : ¬ cOk l s := fun ⟨_, h1, _⟩ => by
  have := h1 (j - 1) (by omega)
  rw [show j - 1 + 1 = j by omega] at this
  exact this h
theorem Fine28.succ {l : List Xt} {j : Nat} (h : Fine28 l j) (hv : vE (xth l j)) (ha : 0 < j → (xth l (j - 1)).1 + (xth l (j - 1)).2 ≠ (xth l j).1) : Fine28 l (j + 1) := by
  refine ⟨fun i hi => ?_, fun i hi => ?_⟩
  · by_cases e : i = j
    · rw [e]; exact hv
    · exact h.1 i (by omega)
  · by_cases e : i + 1 = j
    · have := ha (by omega)
      rw [show j - 1 = i by omega] at this
      rw [e]; exact this
    · exact h.2 i (by omega)
theorem Fine28.all {l : List Xt} (h : Fine28 l l.length) : (∀ e ∈ l, vE e) ∧ adjN l := by
  refine ⟨fun e he => ?_, fun i hi => h.2 i hi⟩
  obtain ⟨i, hi, rfl⟩ := List.getElem_of_mem he
  have := h.1 i hi
  rwa [xth_eq hi] at this
def Dis28 (bs : List Int) (j : Nat) : Prop := ∀ i, i < j → ¬ bs.getD i 0 ∈ bs.take i
theorem Dis28.succ {bs : List Int} {j : Nat} (h : Dis28 bs j) (h2 : ¬ bs.getD j 0 ∈ bs.take j) : Dis28 bs (j + 1) := fun i hi => by
  by_cases e : i = j
  · rw [e]; exact h2
  · exact h i (by omega)
set_option maxRecDepth 100000 in
theorem rCheck_head (m s : Int) (u : Value) (l : List Xt) (F : Nat → Prop) (w : World) (h : XSl w F u l) (hbad : (m < 0 ∨ 2 < m) ∨ 512 < s ∨ s < 0 ∨ (m = 0 ∧ (s ≠ 0 ∨ 0 < l.length))) :
    Calls Try.prog 47 #[iv28 m s u] w (IntE (chk28 m s l) w) := by
  obtain ⟨a, cap, rfl, hca, hcm, _⟩ := id h
  have hk0 := (Kept.refl NoB w).alloc (.cells #[.int .i64 m, .int .i64 s, .slice a l.length cap] 32)
  have HK0 := Lib.hid hk0
  have hb := heap_alloc_new w (.cells #[.int .i64 m, .int .i64 s, .slice a l.length cap] 32)
  obtain ⟨c0, c1, c2⟩ := cells3 hb
  unfold maxLen at hcm
  clear h hk0 hb
  by_cases hm : m < 0 ∨ 2 < m
  · have hr : chk28 m s l = 1 := by unfold chk28; rw [if_pos hm]
    rw [hr]
    by_cases hm0 : m < 0
    · have d1 : decide (m < 0) = true := decide_eq_true hm0
      clear hm hr hbad
      go_enter Try.func47, Try.ntmps47
      go_wp2
      go_ret
      exact ⟨rfl, HK0.out⟩
    · have d1 : decide (m < 0) = false := decide_eq_false hm0
      have d2 : decide (2 < m) = true := decide_eq_true (by omega)
      clear hm hr hm0 hbad
      go_enter Try.func47, Try.ntmps47
      go_wp2
      go_ret
      exact ⟨rfl, HK0.out⟩
  · have d1 : decide (m < 0) = false := decide_eq_false (by omega)
    have d2 : decide (2 < m) = false := decide_eq_false (by omega)
    by_cases hs : 512 < s
    · have hr : chk28 m s l = 17 := by unfold chk28; rw [if_neg hm, if_pos hs]
      rw [hr]
      have d3 : decide (512 < s) = true := decide_eq_true hs
      clear hm hr hs hbad
      go_enter Try.func47, Try.ntmps47
      go_wp2
      go_ret
      exact ⟨rfl, HK0.out⟩
    · have d3 : decide (512 < s) = false := decide_eq_false hs
      by_cases hs0 : s < 0
      · have hr : chk28 m s l = 4 := by unfold chk28; rw [if_neg hm, if_neg hs, if_pos (.inl hs0)]
        rw [hr]
        have d4 : decide (s < 0) = true := decide_eq_true hs0
        clear hm hr hs hs0 hbad
        go_enter Try.func47, Try.ntmps47
        go_wp2
        go_ret
        exact ⟨rfl, HK0.out⟩
      · have d4 : decide (s < 0) = false := decide_eq_false hs0
        obtain ⟨hm0, hsl⟩ : m = 0 ∧ (s ≠ 0 ∨ 0 < l.length) := by
          rcases hbad with h | h | h | h
          · exact absurd h hm
          · exact absurd h hs
          · exact absurd h hs0
          · exact h
        have d5 : (m == 0) = true := by rw [hm0]; rfl
        have hr : chk28 m s l = 4 := by
          by_cases h0 : s = 0
          · refine chk_bad hm (by omega) ?_
            rw [h0]; exact cOk_zero (by omega)
          · unfold chk28; rw [if_neg hm, if_neg hs, if_pos (.inr (.inl ⟨hm0, by omega⟩))]
        rw [hr]
        by_cases h0 : s = 0
        · have d6 : (s != 0) = false := by rw [h0]; rfl
          have d7 : decide ((0 : Int) < (l.length : Int)) = true := decide_eq_true (by omega)
          have d8 : decide (0 < l.length) = true := decide_eq_true (by omega)
          clear hm hr hs hs0 hm0 h0 hsl hbad
          go_enter Try.func47, Try.ntmps47
          go_wp2
          go_ret
          exact ⟨rfl, HK0.out⟩
        · have d6 : (s != 0) = true := by simpa using h0
          clear hm hr hs hs0 hm0 h0 hsl hbad
          go_enter Try.func47, Try.ntmps47
          go_wp2
          go_ret
          exact ⟨rfl, HK0.out⟩
set_option maxRecDepth 100000 in
set_option maxHeartbeats 20000000 in
theorem rCheck_body (m s : Int) (u : Value) (l : List Xt) (F : Nat → Prop) (w : World) (h : XSl w F u l) (hl : l.length ≤ 1000) (hm : ¬ (m < 0 ∨ 2 < m)) (hs0 : 0 ≤ s) (hs : s ≤ 512) (hms : ¬ (m = 0 ∧ (s ≠ 0 ∨ 0 < l.length))) :
    Calls Try.prog 47 #[iv28 m s u] w (IntE (chk28 m s l) w) := by
  obtain ⟨a, cap, rfl, hca, hcm, _⟩ := id h
  have hk0 := (Kept.refl NoB w).alloc (.cells #[.int .i64 m, .int .i64 s, .slice a l.length cap] 32)
  have HK0 := Lib.hid hk0
  have HX := Lib.hid (h.no hk0)
  have hb := heap_alloc_new w (.cells #[.int .i64 m, .int .i64 s, .slice a l.length cap] 32)
  have HB := Lib.hid hb
  obtain ⟨c0, c1, c2⟩ := cells3 hb
  have HBAD := Lib.hid (fun h => chk_bad (l := l) hm hs h)
  have HOK := Lib.hid (fun h => chk_ok (l := l) hm hs0 hs (fun hx => hms ⟨hx.1, .inl (by omega)⟩) h)
  have HBL := Lib.hid (fun W (hk : Kept NoB w W) => rBlocks_any m s _ l _ W (h.no hk) hl)
  have hbl := blk_len l
  obtain ⟨t, ht⟩ : ∃ t, t = chk28 m s l := ⟨_, rfl⟩
  rw [← ht] at HBAD HOK ⊢
  have hca2 : (cap : Int) ≤ 9223372036854775807 := by unfold maxLen at hcm; omega
  have hll : (l.length : Int) ≤ (cap : Int) := by omega
  have d1 : decide (m < 0) = false := decide_eq_false (by omega)
  have d2 : decide (2 < m) = false := decide_eq_false (by omega)
  have d3 : decide (512 < s) = false := decide_eq_false (by omega)
  have d4 : decide (s < 0) = false := decide_eq_false (by omega)
  obtain ⟨w0, hw⟩ : ∃ w0, w0 = w.alloc (.cells #[.int .i64 m, .int .i64 s, .slice a l.length cap] 32) := ⟨_, rfl⟩
  have hss : (m == 0) = false ∨ (m == 0) = true ∧ (s != 0) = false ∧ decide ((0 : Int) < (l.length : Int)) = false ∧ decide (0 < l.length) = false := by
    by_cases e : m = 0
    · right
      refine ⟨by rw [e]; rfl, ?_, decide_eq_false (fun h => hms ⟨e, .inr (by omega)⟩), decide_eq_false (fun h => hms ⟨e, .inr h⟩)⟩
      have : s = 0 := by
        by_cases h0 : s = 0
        · exact h0
        · exact absurd ⟨e, .inl h0⟩ hms
      rw [this]; rfl
    · left; simpa using e
  have key : Calls Try.prog 47 #[iv28 m s (.slice a l.length cap)] w (IntE t w) := by
    clear h hk0 hb ht hm hms
    rcases hss with d5 | ⟨d5, d6, d7, d8⟩
    all_goals
      go_enter Try.func47, Try.ntmps47
      go_wp2
      rw [← hw] at HX HK0 HB c0 c1 c2 ⊢
      clear hw c0 c1 c2
      go_loopw [3] (fun i wr => ∃ j : Nat, j ≤ l.length ∧ i = .int .i64 j ∧ Fine28 l j ∧ Kept NoB w0 wr) (fun i _ => l.length - (intOf i).toNat)
      case atStart => exact ⟨0, by omega, rfl, ⟨fun i hi => absurd hi (by omega), fun i hi => absurd hi (by omega)⟩, Kept.refl _ _⟩
      case round =>
        obtain ⟨j, hj, rfl, hfi, hkk⟩ := hrel
        have HFI := Lib.hid hfi
        have HKR := Lib.hid hkk
        obtain ⟨c0, c1, c2⟩ := cells3 (hkk.heap (fun h => h) HB.out)
        clear hfi hkk
        by_cases hlt : j < l.length
        · obtain ⟨b, o, rfl, _, _, e0, e1⟩ := (HX.out.no HKR.out).at_ hlt
          obtain ⟨x, hx⟩ : ∃ x, x = xth l j := ⟨_, rfl⟩
          rw [← hx] at e0 e1
          have HXE := Lib.hid hx
          obtain ⟨xs, xn⟩ := x
          simp only at e0 e1
          have hj0 : (0 : Int) ≤ (j : Int) := by omega
          have hj1 : (j : Int) < (l.length : Int) := by omega
          have HKA := Lib.hid (HK0.out.trans (HKR.out.alloc (.cells #[.int .i64 xs, .int .i64 xn] 73)) (fun _ _ h => h))
          have HKB := Lib.hid (HKR.out.alloc (.cells #[.int .i64 xs, .int .i64 xn] 73))
          clear hx
          by_cases hv : vE (xs, xn)
          · have HV := Lib.hid hv
            obtain ⟨v1, v2, v3, v4, v5⟩ := hv
            simp only at v1 v2 v3 v4 v5
            have q0 : decide (xn < 1) = false := decide_eq_false (by omega)
            have q1 : decide (8 < xn) = false := decide_eq_false (by omega)
            have q2 : decide (xs < 0) = false := decide_eq_false (by omega)
            have q3 : decide (4095 < xs) = false := decide_eq_false (by omega)
            have q4 : decide (4096 < xs + xn) = false := decide_eq_false (by omega)
            by_cases hj2 : 0 < j
            · obtain ⟨b', o', he', _, _, p0, p1⟩ := (HX.out.no HKR.out).at_ (show j - 1 < l.length by omega)
              injection he' with he'
              injection he' with e1' e2'
              subst e1' e2'
              obtain ⟨y, hy⟩ : ∃ y, y = xth l (j - 1) := ⟨_, rfl⟩
              rw [← hy] at p0 p1
              have HYE := Lib.hid hy
              have hvy := HFI.out.1 (j - 1) (by omega)
              rw [← hy] at hvy
              obtain ⟨ys, yn⟩ := y
              obtain ⟨w1, w2, w3, w4, w5⟩ := hvy
              simp only at p0 p1 w1 w2 w3 w4 w5
              have r1 : decide ((0 : Int) < (j : Int)) = true := decide_eq_true (by omega)
              have r2 : decide (0 < j) = true := decide_eq_true hj2
              have s1 : (0 : Int) ≤ (j : Int) - 1 := by omega
              have s2 : (j : Int) - 1 < (l.length : Int) := by omega
              have s3 : ((j : Int) - 1).toNat = j - 1 := by omega
              have s4 : IntKind.i64.wrap ((j : Int) - 1) = (j : Int) - 1 := IntWalk.i64_in _ (by omega)
              obtain ⟨z, hz⟩ : ∃ z, z = ys + yn := ⟨_, rfl⟩
              have HZ := Lib.hid hz
              have s5 : IntKind.i64.wrap (ys + yn) = z := by rw [hz]; exact IntWalk.i64_in _ (by omega)
              have s6 : ys + yn = z := hz.symm
              have p0 := cell_alloc p0 (.cells #[.int .i64 xs, .int .i64 xn] 73)
              have p1 := cell_alloc p1 (.cells #[.int .i64 xs, .int .i64 xn] 73)
              have c2a := cell_alloc c2 (.cells #[.int .i64 xs, .int .i64 xn] 73)
              have xb := cell_of_row _ _ 0 _ _ _ (heap_alloc_new wr (.cells #[.int .i64 xs, .int .i64 xn] 73))
              clear hy hz
              by_cases hz2 : z = xs
              · have HF : Hid (4 = t) := Lib.hid (HBAD.out (Fine28.bad2 hlt hj2 (by rw [← HXE.out, ← HYE.out]; show ys + yn = xs; rw [← HZ.out]; exact hz2))).symm
                have z1 : (z == xs) = true := by simpa using hz2
                clear hz2 hj2
                go_wp2
                go_quiet (fail)
                go_wp2
                go_ret
                exact ⟨ret_i HF.out, HKA.out.drewN _⟩
              · have HFN : Hid (Fine28 l (j + 1)) := Lib.hid (HFI.out.succ (by rw [← HXE.out]; exact HV.out) (fun _ => by rw [← HXE.out, ← HYE.out]; show ys + yn ≠ xs; rw [← HZ.out]; exact hz2))
                have z1 : (z == xs) = false := by simpa using hz2
                clear hz2 hj2
                go_wp2
                go_quiet (fail)
                go_wp2
                go_roundw
                case rel => exact ⟨j + 1, by omega, by go_num, HFN.out, HKB.out.drewN _⟩
                case measure => simp [intOf]; omega
            · have HFN : Hid (Fine28 l (j + 1)) := Lib.hid (HFI.out.succ (by rw [← HXE.out]; exact HV.out) (fun h => absurd h hj2))
              have r1 : decide ((0 : Int) < (j : Int)) = false := decide_eq_false (by omega)
              have r2 : decide (0 < j) = false := decide_eq_false hj2
              clear hj2
              go_wp2
              go_quiet (fail)
              go_wp2
              go_roundw
              case rel => exact ⟨j + 1, by omega, by go_num, HFN.out, HKB.out.drewN _⟩
              case measure => simp [intOf]; omega
          · skip
            by_cases g0 : xn < 1
            · have q0 : decide (xn < 1) = true := decide_eq_true g0
              clear g0
              have HF : Hid (4 = t) := Lib.hid (HBAD.out (Fine28.bad1 hlt (by rw [← HXE.out]; exact hv))).symm
              clear hv
              go_wp2
              go_ret
              exact ⟨ret_i HF.out, HKA.out⟩
            · have q0 : decide (xn < 1) = false := decide_eq_false g0
              by_cases g1 : 8 < xn
              · have q1 : decide (8 < xn) = true := decide_eq_true g1
                clear g1
                have HF : Hid (4 = t) := Lib.hid (HBAD.out (Fine28.bad1 hlt (by rw [← HXE.out]; exact hv))).symm
                clear hv
                go_wp2
                go_ret
                exact ⟨ret_i HF.out, HKA.out⟩
              · have q1 : decide (8 < xn) = false := decide_eq_false g1
                by_cases g2 : xs < 0
                · have q2 : decide (xs < 0) = true := decide_eq_true g2
                  clear g2
                  have HF : Hid (4 = t) := Lib.hid (HBAD.out (Fine28.bad1 hlt (by rw [← HXE.out]; exact hv))).symm
                  clear hv
                  go_wp2
                  go_ret
                  exact ⟨ret_i HF.out, HKA.out⟩
                · have q2 : decide (xs < 0) = false := decide_eq_false g2
                  by_cases g3 : 4095 < xs
                  · have q3 : decide (4095 < xs) = true := decide_eq_true g3
                    clear g3
                    have HF : Hid (4 = t) := Lib.hid (HBAD.out (Fine28.bad1 hlt (by rw [← HXE.out]; exact hv))).symm
                    clear hv
                    go_wp2
                    go_ret
                    exact ⟨ret_i HF.out, HKA.out⟩
                  · have q3 : decide (4095 < xs) = false := decide_eq_false g3
                    have q4 : decide (4096 < xs + xn) = true := decide_eq_true (by unfold vE at hv; simp only at hv; omega)
                    have HF : Hid (4 = t) := Lib.hid (HBAD.out (Fine28.bad1 hlt (by rw [← HXE.out]; exact hv))).symm
                    clear hv
                    go_wp2
                    go_ret
                    exact ⟨ret_i HF.out, HKA.out⟩
        · obtain rfl : j = l.length := by omega
          have HV := Lib.hid HFI.out.all
          obtain ⟨wa, hwa⟩ : ∃ wa, wa = wr := ⟨_, rfl⟩
          rw [← hwa] at HKR c0 c1 c2 ⊢
          have HKW := Lib.hid (HK0.out.trans HKR.out (fun _ _ h => h))
          have HB2 := Lib.hid (HKR.out.heap (fun h => h) HB.out)
          clear hwa wr
          have HBW := Lib.hid (HBL.out wa HKW.out)
          obtain ⟨BS, hBS⟩ : ∃ BS, BS = blk l := ⟨_, rfl⟩
          have HBSE := Lib.hid hBS
          rw [← hBS] at HBW hbl
          clear hBS
          go_wp2_with (go_at_call 73; refine HBW.out.mono ?_; rintro e w1 ⟨a1, e1, rfl, ho, hk⟩; have HO := Lib.hid ho.nslB; have HK1 := Lib.hid (HKW.out.trans hk (fun _ _ h => h)); have HB3 := Lib.hid (hk.heap (fun h => h) HB2.out); clear ho hk)
          have hol := HO.out.len
          unfold maxLen at hol
          clear c0 c1 c2
          go_loopw [6] (fun i wr => ∃ j : Nat, j ≤ BS.length ∧ i = .int .i64 j ∧ Dis28 BS j ∧ Kept NoB w1 wr) (fun i _ => BS.length - (intOf i).toNat)
          case atStart => exact ⟨0, by omega, rfl, fun i hi => absurd hi (by omega), Kept.refl _ _⟩
          case round =>
            obtain ⟨j, hj3, rfl, hno, hkq⟩ := hrel
            have HNO := Lib.hid hno
            have HKQ := Lib.hid hkq
            have HK9 := Lib.hid (HK1.out.trans hkq (fun _ _ h => h))
            have HB4 := Lib.hid (hkq.heap (fun h => h) HB3.out)
            clear hno hkq
            by_cases hlt2 : j < BS.length
            · obtain ⟨b, o, rfl, _, _, hcell⟩ := (HO.out.kept HKQ.out (fun _ _ _ h => h)).at_ hlt2
              obtain ⟨x, hx⟩ : ∃ x, x = BS.getD j 0 := ⟨_, rfl⟩
              rw [← hx] at hcell
              have HXE := Lib.hid hx
              have hj0 : (0 : Int) ≤ (j : Int) := by omega
              have hj1 : (j : Int) < (BS.length : Int) := by omega
              have hje : (j : Int) ≤ (e1 : Int) := by omega
              have HC : Hid (∀ W : World, Kept NoB w1 W → Calls Try.prog 74 #[.slice (some ⟨b, o, none⟩) j e1, .int .i64 x] W fun e w' => e = .returned (.bool (decide (x ∈ BS.take j))) ∧ W = w') := Lib.hid (fun W hk => Has4_any _ _ x _ W (nsl_take (HO.out.kept hk (fun _ _ _ h => h)) (k := j) (by omega)))
              clear hx
              cases hm : decide (x ∈ BS.take j) with
              | true =>
                have HF : Hid (4 = t) := Lib.hid (HBAD.out (fun ⟨_, _, h3, _⟩ => by
                  rw [← HBSE.out] at h3
                  exact h3 j hlt2 (by rw [← HXE.out]; exact of_decide_eq_true hm))).symm
                have HC2 : Hid (∀ W : World, Kept NoB w1 W → Calls Try.prog 74 #[.slice (some ⟨b, o, none⟩) j e1, .int .i64 x] W fun e w' => e = .returned (.bool true) ∧ w' = W) := Lib.hid (fun W hW => (HC.out W hW).mono (by rw [hm]; rintro e w6 ⟨rfl, rfl⟩; exact ⟨rfl, rfl⟩))
                clear hm
                go_wp2
                go_quiet ((go_at_call 74; refine Calls.quiet_of_same (HC2.out _ ?_); exact HKQ.out.drewN _))
                go_wp2
                go_ret
                exact ⟨ret_i HF.out, HK9.out.drewN _⟩
              | false =>
                have HN2 := Lib.hid (HNO.out.succ (by rw [← HXE.out]; exact of_decide_eq_false hm))
                have HC2 : Hid (∀ W : World, Kept NoB w1 W → Calls Try.prog 74 #[.slice (some ⟨b, o, none⟩) j e1, .int .i64 x] W fun e w' => e = .returned (.bool false) ∧ w' = W) := Lib.hid (fun W hW => (HC.out W hW).mono (by rw [hm]; rintro e w6 ⟨rfl, rfl⟩; exact ⟨rfl, rfl⟩))
                clear hm
                go_wp2
                go_quiet ((go_at_call 74; refine Calls.quiet_of_same (HC2.out _ ?_); exact HKQ.out.drewN _))
                go_wp2
                go_roundw
                case rel => exact ⟨j + 1, by omega, by go_num, HN2.out, HKQ.out.drewN _⟩
                case measure => simp [intOf]; omega
            · obtain rfl : j = BS.length := by omega
              obtain ⟨c0, c1, c2⟩ := cells3 HB4.out
              have HNE := Lib.hid (fun W => rNeed_any s W (by omega) (by omega))
              by_cases hn : (BS.length : Int) = need28 s
              · have HF : Hid (0 = t) := Lib.hid (HOK.out ⟨HV.out.1, HV.out.2, by rw [← HBSE.out]; exact HNO.out, by rw [← HBSE.out]; exact hn⟩).symm
                have q3 : ((BS.length : Int) != need28 s) = false := by rw [hn]; simp
                clear hn
                go_wp2_with (go_at_call 75; refine (HNE.out _).mono ?_; rintro e w6 ⟨rfl, rfl⟩)
                go_ret
                exact ⟨ret_i HF.out, HK9.out⟩
              · have HF : Hid (4 = t) := Lib.hid (HBAD.out (fun ⟨_, _, _, h4⟩ => hn (by rw [HBSE.out]; exact h4))).symm
                have q3 : ((BS.length : Int) != need28 s) = true := by rw [bne_iff_ne]; exact hn
                clear hn
                go_wp2_with (go_at_call 75; refine (HNE.out _).mono ?_; rintro e w6 ⟨rfl, rfl⟩)
                go_ret
                exact ⟨ret_i HF.out, HK9.out⟩
  exact key
theorem rCheck_any (m s : Int) (u : Value) (l : List Xt) (F : Nat → Prop) (w : World) (h : XSl w F u l) (hl : l.length ≤ 1000) :
    Calls Try.prog 47 #[iv28 m s u] w (IntE (chk28 m s l) w) := by
  by_cases hb : (m < 0 ∨ 2 < m) ∨ 512 < s ∨ s < 0 ∨ (m = 0 ∧ (s ≠ 0 ∨ 0 < l.length))
  · exact rCheck_head m s u l F w h hb
  · exact rCheck_body m s u l F w h hl (fun h => hb (.inl h)) (by by_cases h : s < 0; exact absurd (.inr (.inr (.inl h))) hb; omega) (by by_cases h : 512 < s; exact absurd (.inr (.inl h)) hb; omega) (fun h => hb (.inr (.inr (.inr h))))
end Go.Proofs.Ytiifkcjngajegaa
namespace Go.Proofs.Ytiifkcjngajegaa
open Go.RowKit
set_option linter.unusedVariables false

/-- An inode and an error. -/
def IRes (er m s : Int) (l : List Xt) (w : World) (e : Ending) (w' : World) : Prop := ∃ a c, e = .returned (.tuple #[iv28 m s (.slice a l.length c), .int .i64 er]) ∧ XSl w' (fun k => w.heap.size ≤ k) (.slice a l.length c) l ∧ Kept NoB w w'
/-- What Of tells. -/
def ofE (m s : Int) (bs : List Int) : Int := if m = 0 then 1 else chk28 m s (exts bs)
def ofR (m s : Int) (bs : List Int) : Int × Int × List Xt := if ofE m s bs = 0 then (m, s, exts bs) else (0, 0, [])
theorem box3k {w w' : World} {g : Nat} {x y z : Value} {t : TypeId} (h : w.heap[g]? = some (.cells #[x, y, z] t (0, 0))) (hk : Kept NoB w w') : w'.heap[g]? = some (.cells #[x, y, z] t (0, 0)) := hk.heap (fun h => h) h
theorem frz3 {w : World} {g : Nat} {cs : Array Value} {t : TypeId} (h : w.heap[g]? = some (.cells cs t (0, 0))) (o : Nat) : w.frozen? ⟨g, o, none⟩ = false := by simp [World.frozen?, h]
theorem set3_heap {w : World} {g : Nat} {x y z : Value} {t : TypeId} (h : w.heap[g]? = some (.cells #[x, y, z] t (0, 0))) (a b c : Value) :
    (((w.setCell ⟨g, 0, none⟩ a).setCell ⟨g, 1, none⟩ b).setCell ⟨g, 2, none⟩ c).heap[g]? = some (.cells #[a, b, c] t (0, 0)) := by
  have h1 := heap_setCell_same w g 0 _ _ a h
  have h2 := heap_setCell_same _ g 1 _ _ b h1
  have h3 := heap_setCell_same _ g 2 _ _ c h2
  exact h3
theorem set3_kept (w : World) (g : Nat) (a b c : Value) : Kept (fun k => k = g) w (((w.setCell ⟨g, 0, none⟩ a).setCell ⟨g, 1, none⟩ b).setCell ⟨g, 2, none⟩ c) :=
  (((Kept.refl (fun k => k = g) w).setCell (p := ⟨g, 0, none⟩) (.inl rfl) a).setCell (p := ⟨g, 1, none⟩) (.inl rfl) b).setCell (p := ⟨g, 2, none⟩) (.inl rfl) c
set_option maxRecDepth 100000 in
theorem iOf_any (m s : Int) (v : Value) (bs : List Int) (F : Nat → Prop) (w : World) (h : NSl w F v bs) (hl : bs.length ≤ 10000) (h0 : -9223372036854775808 ≤ s) (h1 : s ≤ 9223372036854775807) :
    Calls Try.prog 53 #[.int .i64 m, .int .i64 s, v] w (IRes (ofE m s bs) (ofR m s bs).1 (ofR m s bs).2.1 (ofR m s bs).2.2 w) := by
  have hk0 := (Kept.refl NoB w).alloc (.cells #[.int .i64 0, .int .i64 0, .slice none 0 0] 26)
  have HK0 := Lib.hid hk0
  have hb := heap_alloc_new w (.cells #[.int .i64 0, .int .i64 0, .slice none 0 0] 26)
  have HB := Lib.hid hb
  by_cases hm : m = 0
  · have he : ofE m s bs = 1 := by unfold ofE; rw [if_pos hm]
    rw [show ofR m s bs = (0, 0, []) by unfold ofR; rw [he]; rfl, he]
    have d1 : (m == 0) = true := by rw [hm]; rfl
    obtain ⟨c0, c1, c2⟩ := cells3 hb
    clear hm he h hk0 hb
    go_enter Try.func53, Try.ntmps53
    go_wp2
    exact bodyPost_ret (v := .tuple #[iv28 0 0 (.slice none 0 0), .int .i64 1]) (by simp [results, Try.results53, go_sem, c0, c1, c2]) rfl ⟨none, 0, rfl, XSl.nil _ _, HK0.out⟩
  · have d1 : (m == 0) = false := by simpa using hm
    have hx := Nat.le_trans (exts_len bs) hl
    have HE := Lib.hid (extents_any v bs _ _ (h.kept hk0 (fun _ _ _ h => h)) hl)
    have hr : ofR m s bs = if chk28 m s (exts bs) = 0 then (m, s, exts bs) else (0, 0, []) := by unfold ofR ofE; rw [if_neg hm]
    rw [show ofE m s bs = chk28 m s (exts bs) by unfold ofE; rw [if_neg hm], hr]
    obtain ⟨L, hL⟩ : ∃ L, L = exts bs := ⟨_, rfl⟩
    rw [← hL] at HE ⊢
    have HCK := Lib.hid (fun u W (hx : XSl W (fun _ => True) u L) => iCheck_any m s u L _ W hx h0 h1)
    obtain ⟨er, her⟩ : ∃ er, er = chk28 m s L := ⟨_, rfl⟩
    rw [← her] at HCK ⊢
    clear hm h hk0 hb hr hL her
    by_cases hz : er = 0
    · rw [if_pos hz, hz]
      rw [hz] at HCK
      clear hz
      go_enter Try.func53, Try.ntmps53
      go_wp2_with (first
        | (go_at_call 80; refine HE.out.mono ?_; rintro e w1 ⟨a1, q1, rfl, ho, hk⟩; (have hk1 := (Kept.refl NoB w1).alloc (.cells #[.int .i64 m, .int .i64 s, .slice a1 L.length q1] 26)); have HB1 := Lib.hid (box3k (box3k HB.out hk) hk1); have HXL := Lib.hid ((ho.sl.mono (G := fun k => w.heap.size + 1 ≤ k) (fun k _ hx => by simp at hx; omega)).no hk1); have HK1 := Lib.hid ((HK0.out.trans hk (fun _ _ h => h)).trans hk1 (fun _ _ h => h)); have HZ := Lib.hid (heap_alloc_new w1 (.cells #[.int .i64 m, .int .i64 s, .slice a1 L.length q1] 26)); clear ho hk hk1)
        | (go_at_call 43; refine (HCK.out _ _ HXL.out.any).mono ?_; rintro e w3 ⟨rfl, hk⟩; have HB3 := Lib.hid (box3k HB1.out hk); have hz3 := box3k HZ.out hk; obtain ⟨e0, e1, e2⟩ := cells3 hz3; obtain ⟨c0, c1, c2⟩ := cells3 HB3.out; have f0 := frz3 HB3.out 0; have f1 := frz3 HB3.out 1; have f2 := frz3 HB3.out 2; have HXL3 := Lib.hid (HXL.out.no hk); have HK3 := Lib.hid (HK1.out.trans hk (fun _ _ h => h)); clear hk hz3))
      obtain ⟨r0, r1, r2⟩ := cells3 (set3_heap HB3.out (.int .i64 m) (.int .i64 s) (.slice a1 L.length q1))
      exact bodyPost_ret (v := .tuple #[iv28 m s (.slice a1 L.length q1), .int .i64 0]) (by simp [results, Try.results53, go_sem, r0, r1, r2]) rfl ⟨a1, q1, rfl, (HXL3.out.kept (set3_kept _ _ _ _ _) (fun k _ hk he => by omega)).mono (fun k _ hx => by omega), (HK3.out.trans (set3_kept _ _ _ _ _) (fun i hi he => absurd hi (by omega)))⟩
    · rw [if_neg hz]
      have hne : (er != 0) = true := bne_iff_ne.2 hz
      clear hz
      go_enter Try.func53, Try.ntmps53
      go_wp2_with (first
        | (go_at_call 80; refine HE.out.mono ?_; rintro e w1 ⟨a1, q1, rfl, ho, hk⟩; (have hk1 := (Kept.refl NoB w1).alloc (.cells #[.int .i64 m, .int .i64 s, .slice a1 L.length q1] 26)); have HB1 := Lib.hid (box3k (box3k HB.out hk) hk1); have HXL := Lib.hid ((ho.sl.mono (G := fun k => w.heap.size + 1 ≤ k) (fun k _ hx => by simp at hx; omega)).no hk1); have HK1 := Lib.hid ((HK0.out.trans hk (fun _ _ h => h)).trans hk1 (fun _ _ h => h)); have HZ := Lib.hid (heap_alloc_new w1 (.cells #[.int .i64 m, .int .i64 s, .slice a1 L.length q1] 26)); clear ho hk hk1)
        | (go_at_call 43; refine (HCK.out _ _ HXL.out.any).mono ?_; rintro e w3 ⟨rfl, hk⟩; have HB3 := Lib.hid (box3k HB1.out hk); have hz3 := box3k HZ.out hk; obtain ⟨e0, e1, e2⟩ := cells3 hz3; obtain ⟨c0, c1, c2⟩ := cells3 HB3.out; have f0 := frz3 HB3.out 0; have f1 := frz3 HB3.out 1; have f2 := frz3 HB3.out 2; have HXL3 := Lib.hid (HXL.out.no hk); have HK3 := Lib.hid (HK1.out.trans hk (fun _ _ h => h)); clear hk hz3))
      obtain ⟨r0, r1, r2⟩ := cells3 (set3_heap HB3.out (.int .i64 0) (.int .i64 0) (.slice none 0 0))
      exact bodyPost_ret (v := .tuple #[iv28 0 0 (.slice none 0 0), .int .i64 er]) (by simp [results, Try.results53, go_sem, r0, r1, r2]) rfl ⟨none, 0, rfl, XSl.nil _ _, (HK3.out.trans (set3_kept _ _ _ _ _) (fun i hi he => absurd hi (by omega)))⟩
end Go.Proofs.Ytiifkcjngajegaa
namespace Go.Proofs.Ytiifkcjngajegaa
open Go.RowKit
set_option linter.unusedVariables false

theorem wrap_congr {a b : Int} (h : IntKind.i64.wrap a = IntKind.i64.wrap b) (k : Int) : IntKind.i64.wrap (a + k) = IntKind.i64.wrap (b + k) := by
  rw [IntKind.wrap_i64, IntKind.wrap_i64] at h ⊢
  omega
/-- The last extent ends where the block behind the last one is. -/
theorem exts_tail {bs : List Int} {j : Nat} (h0 : 0 < j) (hj : j ≤ bs.length) (hb : ∀ x ∈ bs, -9223372036854775808 ≤ x ∧ x ≤ 9223372036854775807) : ∃ m s n, exts (bs.take j) = m ++ [(s, n)] ∧ IntKind.i64.wrap (s + n) = IntKind.i64.wrap (bs.getD (j - 1) 0 + 1) := by
  obtain ⟨i, rfl⟩ : ∃ i, j = i + 1 := ⟨j - 1, by omega⟩
  have hx : bs.getD i 0 ∈ bs := getD_mem28 (by omega)
  rw [take_snoc (by omega), exts_snoc, show i + 1 - 1 = i by omega]
  obtain ⟨x, hxx⟩ : ∃ x, x = bs.getD i 0 := ⟨_, rfl⟩
  rw [← hxx] at hx ⊢
  obtain ⟨b0, b1⟩ := hb x hx
  obtain ⟨L, hL⟩ : ∃ L, L = exts (bs.take i) := ⟨_, rfl⟩
  rw [← hL]
  cases hf : fits28 L x with
  | false => rw [addB_new hf]; exact ⟨L, x, 1, rfl, rfl⟩
  | true =>
    have hli : L ≠ [] := by intro h; rw [h] at hf; cases hf
    obtain ⟨m, ⟨s, n⟩, rfl⟩ := snoc28 hli
    rw [fits_snoc] at hf
    simp only [Bool.and_eq_true, decide_eq_true_eq] at hf
    rw [addB_last m s n x hf.1 hf.2]
    refine ⟨m, s, n + 1, rfl, ?_⟩
    have := wrap_congr (a := s + n) (b := x) (by rw [hf.2, wr28 b0 b1]) 1
    rw [← this]; congr 1; omega
/-- An inode in a block of its own. -/
def IAt (t : TypeId) (w : World) (g : Nat) (m s : Int) (v : Value) : Prop := w.heap[g]? = some (.cells #[.int .i64 m, .int .i64 s, v] t (0, 0))
theorem IAt.set2 {t : TypeId} {w : World} {g : Nat} {m s : Int} {v : Value} (h : IAt t w g m s v) (u : Value) : IAt t (w.setCell ⟨g, 2, none⟩ u) g m s u := by
  unfold IAt at h ⊢
  rw [heap_setCell_same w g 2 _ _ _ h]; rfl
theorem IAt.kept {t : TypeId} {S : Nat → Prop} {w w' : World} {g : Nat} {m s : Int} {v : Value} (h : IAt t w g m s v) (hk : Kept S w w') (hs : ¬ S g) : IAt t w' g m s v := hk.heap hs h
theorem own_step {te t : TypeId} {w0 wr W w3 : World} {B g6 g8 : Nat} {v z : Value} {L : List Xt} {m s : Int} (HO : XOwn te B wr v L) (hB : w0.heap.size ≤ B) (hte : te ≠ t) (hK : Kept NoB w0 wr) (hkW : Kept NoB wr W) (hg : W.grownBy w3 v.ownBlock)
    (h8 : IAt t wr g8 m s v) (h6 : IAt t wr g6 0 0 z) : IAt t w3 g8 m s v ∧ IAt t w3 g6 0 0 z ∧ Kept NoB w0 w3 := by
  have n8 := own_ne HO h8 hte
  have n6 := own_ne HO h6 hte
  have hk : Kept (fun b => some b = v.ownBlock) wr w3 := (hkW.mono (fun _ _ h => h.elim)).grown hg (fun b hb => .inl hb.symm)
  exact ⟨h8.kept hk n8, h6.kept hk n6, hK.trans hk (fun i hi hx => absurd (World.ownsRow.lt HO i hx.symm).1 (by omega))⟩
theorem own_store {te t : TypeId} {w0 w3 : World} {B g6 g8 : Nat} {v u z : Value} {L : List Xt} {m s : Int} (HO : XOwn te B w3 u L) (hte : te ≠ t) (h8 : IAt t w3 g8 m s v) (h6 : IAt t w3 g6 0 0 z) (h68 : g6 ≠ g8) (hK : Kept NoB w0 w3) (h08 : w0.heap.size ≤ g8) :
    XOwn te B (w3.setCell ⟨g8, 2, none⟩ u) u L ∧ IAt t (w3.setCell ⟨g8, 2, none⟩ u) g8 m s u ∧ IAt t (w3.setCell ⟨g8, 2, none⟩ u) g6 0 0 z ∧ Kept NoB w0 (w3.setCell ⟨g8, 2, none⟩ u) := by
  have hset : Kept (fun i => i = g8) w3 (w3.setCell ⟨g8, 2, none⟩ u) := (Kept.refl (fun i => i = g8) w3).setCell (p := ⟨g8, 2, none⟩) (.inl rfl) _
  have n8 := own_ne HO h8 hte
  exact ⟨HO.kept hset (fun k hk he => n8 (by rw [hk, he])), h8.set2 u, h6.kept hset h68, hK.setCell (p := ⟨g8, 2, none⟩) (.inr h08) _⟩
end Go.Proofs.Ytiifkcjngajegaa
namespace Go.Proofs.Ytiifkcjngajegaa
open Go.RowKit
set_option linter.unusedVariables false

/-- A writer of at most 38 bytes that has these; its blocks are F's, or new, and none of P's. -/
def PuI (w : World) (F : Nat → Prop) (go : Nat) (P : Nat → Prop) (bs : List Int) (wr : World) : Prop :=
  ∃ Fo, OutAt wr Fo go ⟨bs, 38, 0⟩ ∧ (∀ i, Fo i → (F i ∨ w.heap.size ≤ i) ∧ i < wr.heap.size) ∧ (∀ k, P k → ¬ Fo k ∧ k < wr.heap.size) ∧ Kept F w wr
theorem PuI.no {w wr w' : World} {F P : Nat → Prop} {go : Nat} {bs : List Int} (h : PuI w F go P bs wr) (hk : Kept NoB wr w') : PuI w F go P bs w' := by
  obtain ⟨Fo, h1, h2, h3, h4⟩ := h
  exact ⟨Fo, h1.kept hk (fun _ _ h => h), fun i hi => ⟨(h2 i hi).1, Nat.lt_of_lt_of_le (h2 i hi).2 hk.size⟩, fun k hk' => ⟨(h3 k hk').1, Nat.lt_of_lt_of_le (h3 k hk').2 hk.size⟩, h4.trans hk (fun _ _ h => absurd h (fun h => h))⟩
theorem PuI.add {w wr w' : World} {F P : Nat → Prop} {go b : Nat} {bs : List Int} (h : PuI w F go P bs wr) (hk : Kept NoB wr w') (hb : wr.heap.size ≤ b) (hb' : b < w'.heap.size) : PuI w F go (fun k => P k ∨ k = b) bs w' := by
  obtain ⟨Fo, h1, h2, h3, h4⟩ := h
  refine ⟨Fo, h1.kept hk (fun _ _ h => h), fun i hi => ⟨(h2 i hi).1, Nat.lt_of_lt_of_le (h2 i hi).2 hk.size⟩, fun k hk' => ?_, h4.trans hk (fun _ _ h => absurd h (fun h => h))⟩
  rcases hk' with hk' | rfl
  · exact ⟨(h3 k hk').1, Nat.lt_of_lt_of_le (h3 k hk').2 hk.size⟩
  · exact ⟨fun hf => by have := (h2 _ hf).2; omega, hb'⟩
theorem PuI.less {w wr : World} {F P Q : Nat → Prop} {go : Nat} {bs : List Int} (h : PuI w F go P bs wr) (hq : ∀ k, Q k → P k) : PuI w F go Q bs wr := by
  obtain ⟨Fo, h1, h2, h3, h4⟩ := h
  exact ⟨Fo, h1, h2, fun k hk => h3 k (hq k hk), h4⟩
theorem put_fits28 (n : Int) (width : Nat) (h1 : 1 ≤ width) (h8 : width ≤ 8) (hn : n.toNat < 256 ^ width) : putErr n width = 0 := by
  unfold putErr
  rw [if_neg (by omega), Int.toNat_natCast, if_pos (Nat.div_eq_of_lt hn)]
theorem PuI.put {w wr : World} {F P : Nat → Prop} {go : Nat} {bs : List Int} (h : PuI w F go P bs wr) (n : Int) (width : Nat) (h0 : 0 ≤ n) (h1 : 1 ≤ width) (h8 : width ≤ 8) (hn : n.toNat < 256 ^ width) (hb : bs.length + width ≤ 38) :
    Calls Try.prog 49 #[.pointer (some ⟨go, 0, none⟩), .int .u64 n, .int .i64 width] wr fun r w' => r = .returned (.tuple #[]) ∧ PuI w F go P (bs ++ be n.toNat width) w' ∧ ∃ S, Kept S wr w' ∧ ∀ k, P k → ¬ S k := by
  obtain ⟨Fo, ho, h2, h3, h4⟩ := h
  refine (Put_any go ⟨bs, 38, 0⟩ n width Fo wr ho h0 (by show bs.length ≤ 1000000; omega)).mono ?_
  rintro r w' ⟨rfl, hO, hk⟩
  rw [put_fits28 n width h1 h8 hn, Int.toNat_natCast] at hO
  have he : (⟨bs, 38, 0⟩ : OSt).emit 0 (be n.toNat width) = ⟨bs ++ be n.toNat width, 38, 0⟩ := by
    unfold OSt.emit
    rw [if_pos rfl, if_pos rfl, if_pos (by rw [be_len]; show (width : Int) ≤ 38 - (bs.length : Int); omega)]
  rw [he] at hO
  have hs := hk.size
  have hs4 := h4.size
  refine ⟨rfl, ⟨fun k => (Fo k ∨ wr.heap.size ≤ k) ∧ k < w'.heap.size, hO.mono (fun k hk' hh => ⟨hh, hk'⟩), fun i hi => ⟨?_, hi.2⟩, fun k hp => ⟨fun hf => ?_, Nat.lt_of_lt_of_le (h3 k hp).2 hs⟩, h4.trans hk (fun i hi hf => ?_)⟩, Fo, hk, fun k hp => (h3 k hp).1⟩
  · rcases hi.1 with hi | hi
    · exact (h2 i hi).1
    · exact .inr (by omega)
  · rcases hf.1 with hf | hf
    · exact (h3 k hp).1 hf
    · have := (h3 k hp).2; omega
  · rcases (h2 i hf).1 with hh | hh
    · exact hh
    · omega

/-- The bytes of extents, of an inode. -/
def bytX (l : List Xt) : List Int := l.flatMap fun e => be e.1.toNat 2 ++ be e.2.toNat 2
theorem bytX_snoc (l : List Xt) (e : Xt) : bytX (l ++ [e]) = bytX l ++ be e.1.toNat 2 ++ be e.2.toNat 2 := by unfold bytX; rw [List.flatMap_append]; simp
theorem bytX_len (l : List Xt) : (bytX l).length = 4 * l.length := by
  induction l with
  | nil => rfl
  | cons e r ih => unfold bytX at ih ⊢; rw [List.flatMap_cons, List.length_append, ih, List.length_append, be_len, be_len]; simp; omega
def headI (m s : Int) (n : Nat) : List Int := be m.toNat 1 ++ be n 1 ++ be s.toNat 4
theorem headI_len (m s : Int) (n : Nat) : (headI m s n).length = 6 := by unfold headI; simp [be_len]
def bytI (m s : Int) (l : List Xt) : List Int := headI m s l.length ++ bytX l
/-- What Check finds of an inode that is valid. -/
theorem chk_zero {m s : Int} {l : List Xt} (h : chk28 m s l = 0) : 0 ≤ m ∧ m ≤ 2 ∧ 0 ≤ s ∧ s ≤ 512 ∧ cOk l s ∧ l.length ≤ 8 := by
  unfold chk28 at h
  by_cases h1 : m < 0 ∨ 2 < m
  · rw [if_pos h1] at h; cases h
  · rw [if_neg h1] at h
    by_cases h2 : 512 < s
    · rw [if_pos h2] at h; cases h
    · rw [if_neg h2] at h
      by_cases h3 : s < 0 ∨ (m = 0 ∧ 0 < s) ∨ okB l s = false
      · rw [if_pos h3] at h; cases h
      · have hs : ¬ s < 0 := fun h => h3 (.inl h)
        have ho : okB l s = true := by
          cases hb : okB l s
          · exact absurd (.inr (.inr hb)) h3
          · rfl
        have hp : pOk l s := of_decide_eq_true ho
        exact ⟨by omega, by omega, by omega, by omega, pOk_cOk (by omega) hp, hp.1⟩
set_option maxRecDepth 100000 in
theorem iPut_bad (m s : Int) (u : Value) (l : List Xt) (F : Nat → Prop) (w : World) (h : XSl w F u l) (h0 : -9223372036854775808 ≤ s) (h1 : s ≤ 9223372036854775807) (he : chk28 m s l ≠ 0) :
    Calls Try.prog 11 #[iv28 m s u] w (BErr (chk28 m s l) [] w) := by
  have hk0 := (Kept.refl NoB w).alloc (.cells #[.int .i64 m, .int .i64 s, u] 26)
  have HK0 := Lib.hid hk0
  obtain ⟨c0, c1, c2⟩ := cells3 (heap_alloc_new w (.cells #[.int .i64 m, .int .i64 s, u] 26))
  have HC := Lib.hid (iCheck_any m s u l _ _ (h.no hk0) h0 h1)
  obtain ⟨er, her⟩ : ∃ er, er = chk28 m s l := ⟨_, rfl⟩
  rw [← her] at HC he ⊢
  have hne : (er != 0) = true := bne_iff_ne.2 he
  clear h hk0 her he
  go_enter Try.func11, Try.ntmps11
  go_wp2_with (go_at_call 43; refine HC.out.mono ?_; rintro e w1 ⟨rfl, hk⟩; have HK1 := Lib.hid (HK0.out.trans hk (fun _ _ h => h)); clear hk)
  go_ret2
  exact BErr.mk (BSl.nil _ (fun _ => False)) (fun _ h => h.elim) HK1.out
theorem PuI.keeps {w wr : World} {F P : Nat → Prop} {go : Nat} {bs : List Int} (h : PuI w F go P bs wr) : Kept F w wr := by obtain ⟨_, _, _, _, h⟩ := h; exact h
theorem PuI.out_ {w wr : World} {F P : Nat → Prop} {go : Nat} {bs : List Int} (h : PuI w F go P bs wr) : ∃ Fo, OutAt wr Fo go ⟨bs, 38, 0⟩ := by obtain ⟨Fo, h, _⟩ := h; exact ⟨Fo, h⟩
def PutRel (w1 : World) (m s : Int) (l : List Xt) (iv : Value) (wr : World) : Prop :=
  ∃ k : Nat, k ≤ l.length ∧ iv = .int .i64 k ∧ PuI w1 NoB w1.heap.size (fun i => i < w1.heap.size) (headI m s l.length ++ bytX (l.take k)) wr
set_option maxRecDepth 100000 in
set_option maxHeartbeats 20000000 in
theorem iPut_ok (m s : Int) (u : Value) (l : List Xt) (F : Nat → Prop) (w : World) (h : XSl w F u l) (he : chk28 m s l = 0) :
    Calls Try.prog 11 #[iv28 m s u] w (BErr 0 (bytI m s l) w) := by
  obtain ⟨hm0, hm2, hs0, hs5, ⟨hv, _⟩, hl8⟩ := chk_zero he
  obtain ⟨a, cap, rfl, hca, hcm, _⟩ := id h
  have hk0 := (Kept.refl NoB w).alloc (.cells #[.int .i64 m, .int .i64 s, .slice a l.length cap] 26)
  have HK0 := Lib.hid hk0
  have hb := heap_alloc_new w (.cells #[.int .i64 m, .int .i64 s, .slice a l.length cap] 26)
  have HB := Lib.hid hb
  obtain ⟨c0, c1, c2⟩ := cells3 hb
  have HX := Lib.hid (h.no hk0)
  have HC := Lib.hid (iCheck_any m s _ l _ _ (h.no hk0) (by omega) (by omega))
  rw [he] at HC
  have HV := Lib.hid hv
  have wm : IntKind.u64.wrap m = m := IntWalk.u64_in _ (by omega)
  have wl : IntKind.u64.wrap (l.length : Int) = (l.length : Int) := IntWalk.u64_in _ (by omega)
  have ws : IntKind.u64.wrap s = s := IntWalk.u64_in _ (by omega)
  clear h hk0 hb he hv
  go_enter Try.func11, Try.ntmps11
  go_wp2_with (go_at_call 43; refine HC.out.mono ?_; rintro e w1 ⟨rfl, hk⟩; have HK1 := Lib.hid (HK0.out.trans hk (fun _ _ h => h)); have HB1 := Lib.hid (box3k HB.out hk); have HX1 := Lib.hid (HX.out.no hk); clear hk c0 c1 c2; obtain ⟨c0, c1, c2⟩ := cells3 HB1.out)
  refine (New_any 38 w1 (by omega)).mono ?_
  rintro e w2 ⟨rfl, ho, hk⟩
  rw [show max (38 : Int) 0 = 38 from rfl] at ho
  have HP0 : Hid (PuI w1 NoB w1.heap.size (fun i => i < w1.heap.size) [] w2) := Lib.hid ⟨fun i => w1.heap.size ≤ i ∧ i < w2.heap.size, ho.mono (fun k hk h => ⟨h, hk⟩), fun i hi => ⟨.inr hi.1, hi.2⟩, fun k hk' => ⟨fun h => by omega, by have := hk.size; omega⟩, hk⟩
  clear ho c0 c1 c2
  obtain ⟨c0, c1, c2⟩ := cells3 (box3k HB1.out hk)
  clear hk
  have hnn : (l.length : Int).toNat = l.length := by omega
  go_wp2_with fail
  refine (HP0.out.put m 1 hm0 (by decide) (by decide) (by show m.toNat < 256; omega) (by simp)).mono ?_
  rintro e w3 ⟨rfl, hp, _⟩
  have HP1 := Lib.hid hp
  clear c0 c1 c2
  obtain ⟨c0, c1, c2⟩ := cells3 (box3k HB1.out hp.keeps)
  clear hp
  go_wp2_with fail
  refine (HP1.out.put (l.length : Int) 1 (by omega) (by decide) (by decide) (by show (l.length : Int).toNat < 256; omega) (by simp [be_len])).mono ?_
  rintro e w4 ⟨rfl, hp, _⟩
  have HP2 := Lib.hid hp
  clear c0 c1 c2
  obtain ⟨c0, c1, c2⟩ := cells3 (box3k HB1.out hp.keeps)
  clear hp
  go_wp2_with fail
  refine (HP2.out.put s 4 hs0 (by decide) (by decide) (by show s.toNat < 4294967296; omega) (by simp [be_len])).mono ?_
  rintro e w5 ⟨rfl, hp, _⟩
  have HP3 : Hid (PuI w1 NoB w1.heap.size (fun i => i < w1.heap.size) (headI m s l.length ++ bytX (l.take 0)) w5) := Lib.hid (by
    have : headI m s l.length ++ bytX (l.take 0) = [] ++ be m.toNat 1 ++ be (l.length : Int).toNat 1 ++ be s.toNat 4 := by rw [hnn]; unfold headI bytX; simp
    rw [this]; exact hp)
  clear c0 c1 c2
  obtain ⟨c0, c1, c2⟩ := cells3 (box3k HB1.out hp.keeps)
  clear hp wm wl ws hnn
  go_wp2
  clear c0 c1 c2
  go_loopw [33] (PutRel w1 m s l) (fun i _ => l.length - (intOf i).toNat)
  case atStart => exact ⟨0, by omega, rfl, HP3.out⟩
  case round =>
    obtain ⟨k, hk, rfl, hst⟩ := hrel
    have HST := Lib.hid hst
    have hkp := hst.keeps
    by_cases hlt : k < l.length
    · obtain ⟨b, o, rfl, _, _, e0, e1⟩ := (HX1.out.no hkp).at_ hlt
      have hve := HV.out _ (xth_mem hlt)
      have hbs : headI m s l.length ++ bytX (l.take (k + 1)) = headI m s l.length ++ bytX (l.take k) ++ be (xth l k).1.toNat 2 ++ be (xth l k).2.toNat 2 := by rw [xtake_snoc hlt, bytX_snoc]; simp
      obtain ⟨x, hx⟩ : ∃ x, x = xth l k := ⟨_, rfl⟩
      rw [← hx] at e0 e1 hve hbs
      obtain ⟨xs, xn⟩ := x
      simp only at e0 e1 hbs
      obtain ⟨v1, v2, v3, v4, v5⟩ := hve
      simp only at v1 v2 v3 v4 v5
      have HBS := Lib.hid hbs
      have hlen : (headI m s l.length ++ bytX (l.take k)).length ≤ 34 := by rw [List.length_append, headI_len, bytX_len, List.length_take]; omega
      obtain ⟨B, hB⟩ : ∃ B, B = headI m s l.length ++ bytX (l.take k) := ⟨_, rfl⟩
      rw [← hB] at HBS HST hlen
      have hka := (Kept.refl NoB wr).alloc (.cells #[.int .i64 xs, .int .i64 xn] 74)
      have hbx := heap_alloc_new wr (.cells #[.int .i64 xs, .int .i64 xn] 74)
      have HBX := Lib.hid hbx
      have HPA := Lib.hid (HST.out.add hka (Nat.le_refl _) (heap_lt hbx))
      have w2' : IntKind.u64.wrap xs = xs := IntWalk.u64_in _ (by omega)
      have w3' : IntKind.u64.wrap xn = xn := IntWalk.u64_in _ (by omega)
      have hk0 : (0 : Int) ≤ (k : Int) := by omega
      have hk1 : (k : Int) < (l.length : Int) := by omega
      clear hst hkp hx hbs hB hka hbx
      go_wp2_with fail
      refine (HPA.out.put xs 2 v3 (by decide) (by decide) (by show xs.toNat < 65536; omega) (by omega)).mono ?_
      rintro e p1 ⟨rfl, hp1, S1, hs1, hS1⟩
      have HP1x := Lib.hid hp1
      have hbx1 := hs1.heap (hS1 _ (.inr rfl)) HBX.out
      have q1 := cell_of_row _ _ 1 _ _ _ hbx1
      clear hp1 hs1 hS1 hbx1 e0 e1
      go_wp2_with fail
      refine (HP1x.out.put xn 2 (by omega) (by decide) (by decide) (by show xn.toNat < 65536; omega) (by simp [be_len]; omega)).mono ?_
      rintro e p2 ⟨rfl, hp2, _⟩
      have HP2x := Lib.hid (hp2.less (Q := fun i => i < w1.heap.size) (fun k hk => .inl hk))
      clear hp2 q1
      go_wp2
      go_roundw
      case rel => exact ⟨k + 1, by omega, by go_num, by rw [HBS.out]; exact HP2x.out⟩
      case measure => simp [intOf]; omega
    · obtain rfl : k = l.length := by omega
      have HST2 : Hid (PuI w1 NoB w1.heap.size (fun i => i < w1.heap.size) (bytI m s l) wr) := Lib.hid (by
        rw [List.take_length] at hst; exact hst)
      have HKZ := Lib.hid (HK1.out.trans hkp (fun _ _ h => h))
      have hbl : (bytI m s l).length ≤ 1000000 := by unfold bytI; rw [List.length_append, headI_len, bytX_len]; omega
      obtain ⟨Fo, hfo⟩ := hst.out_
      rw [List.take_length] at hfo
      have HD := Lib.hid (Done_any w1.heap.size ⟨bytI m s l, 38, 0⟩ Fo wr hfo hbl)
      clear hst hkp hfo hbl
      go_wp2_with fail
      refine HD.out.mono ?_
      rintro e w9 ⟨v9, rfl, hb9, hk9⟩
      have HB9 := Lib.hid hb9
      have HK9 := Lib.hid (HKZ.out.trans hk9 (fun _ _ h => h))
      have hwz := HKZ.out.size
      clear hb9 hk9
      go_wp2
      go_ret2
      exact BErr.mk HB9.out (fun k hk => by omega) HK9.out
end Go.Proofs.Ytiifkcjngajegaa
namespace Go.Proofs.Ytiifkcjngajegaa
open Go.RowKit
set_option linter.unusedVariables false

/-- What Put tells. -/
def putL (m s : Int) (l : List Xt) : List Int := if chk28 m s l = 0 then bytI m s l else []
theorem iPut_any (m s : Int) (u : Value) (l : List Xt) (F : Nat → Prop) (w : World) (h : XSl w F u l) (h0 : -9223372036854775808 ≤ s) (h1 : s ≤ 9223372036854775807) :
    Calls Try.prog 11 #[iv28 m s u] w (BErr (chk28 m s l) (putL m s l) w) := by
  by_cases he : chk28 m s l = 0
  · rw [show putL m s l = bytI m s l by unfold putL; rw [if_pos he], he]
    exact iPut_ok m s u l F w h he
  · rw [show putL m s l = [] by unfold putL; rw [if_neg he]]
    exact iPut_bad m s u l F w h h0 h1 he
theorem ex28 : ofE 1 100 [7, 8] = 0 ∧ exts [7, 8] = [(7, 2)] ∧ chk28 1 100 [(7, 2)] = 0 ∧ bytI 1 100 [(7, 2)] = [1, 1, 0, 0, 0, 100, 0, 7, 0, 2] := by
  refine ⟨by decide +kernel, by decide +kernel, by decide +kernel, by decide +kernel⟩
set_option maxRecDepth 100000 in
theorem awake28_any (w : World) : Calls Try.prog 14 #[] w fun e w' => e = .returned (.bool true) ∧ Kept NoB w w' := by
  obtain ⟨x1, x2, x3, x4⟩ := ex28
  have hk0 := (Kept.refl NoB w).alloc (.cells #[.int .i64 7, .int .i64 8] 3)
  have HK0 := Lib.hid hk0
  have HOF := Lib.hid (iOf_any 1 100 _ [7, 8] _ _ (nsl_two27 (heap_alloc_new w (.cells #[.int .i64 7, .int .i64 8] 3))) (by decide) (by omega) (by omega))
  rw [show ofR 1 100 [7, 8] = (1, 100, [(7, 2)]) by unfold ofR; rw [x1, x2]; rfl, x1] at HOF
  have HPU := Lib.hid (fun u W (h : XSl W (fun _ => True) u [(7, 2)]) => iPut_any 1 100 u [(7, 2)] _ W h (by omega) (by omega))
  rw [show putL 1 100 [(7, 2)] = [1, 1, 0, 0, 0, 100, 0, 7, 0, 2] by unfold putL; rw [x3, x4]; rfl, x3] at HPU
  clear x1 x2 x3 x4 hk0
  go_enter Try.func14, Try.ntmps14
  go_wp2_with fail
  refine HOF.out.mono ?_
  rintro e w2 ⟨a2, c2, rfl, hx, hk⟩
  have hk2 := (Kept.refl NoB w2).alloc (.cells #[.int .i64 1, .int .i64 100, .slice a2 1 c2] 26)
  have HX := Lib.hid (hx.any.no hk2)
  have HK2 := Lib.hid ((HK0.out.trans hk (fun _ _ h => h)).trans hk2 (fun _ _ h => h))
  clear hx hk hk2
  go_wp2_with fail
  refine (HPU.out _ _ HX.out).mono ?_
  rintro e w5 ⟨a5, cap, rfl, hv, hk5⟩
  have HK5 := Lib.hid (HK2.out.trans hk5 (fun _ _ h => h))
  obtain ⟨a', cap', he', _, _, _, hr⟩ := hv
  injection he' with he1 he2 he3
  subst he1 he3
  obtain ⟨b, o, rfl, _, _, hcell⟩ := hr.2 (by decide)
  have hconv := run_convert_bytes_arg (P := Try.prog) w5 22 5 Try.underlying22 Try.underlying5 b o 10 cap [1, 1, 0, 0, 0, 100, 0, 7, 0, 2] rfl hcell 9 Try.underlying9
  have hstr : ((strOfNums [1, 1, 0, 0, 0, 100, 0, 7, 0, 2]).toList == [1, 1, 0, 0, 0, 100, 0, 7, 0, 2]) = true := by decide +kernel
  clear hr hcell hk5 he2
  go_wp2
  go_ret
  exact ⟨rfl, HK5.out⟩
end Go.Proofs.Ytiifkcjngajegaa
namespace Go.Proofs.Ytiifkcjngajegaa
open Go.RowKit
set_option linter.unusedVariables false

def OurE (m s : Int) (l : List Xt) (w : World) (e : Ending) (w' : World) : Prop := ∃ a c, e = .returned (iv28 m s (.slice a l.length c)) ∧ XSl w' (fun k => w.heap.size ≤ k) (.slice a l.length c) l ∧ Kept NoB w w'
theorem OurE.mk {m s : Int} {l : List Xt} {w w' : World} {u : Value} (h : XSl w' (fun k => w.heap.size ≤ k) u l) (hk : Kept NoB w w') : OurE m s l w (.returned (iv28 m s u)) w' := by
  obtain ⟨a, c, rfl, _⟩ := id h
  exact ⟨a, c, rfl, h, hk⟩
theorem IAt.own {te t : TypeId} {B g : Nat} {wr W w3 : World} {m s : Int} {z v : Value} {L : List Xt} (h : IAt t wr g m s z) (HO : XOwn te B wr v L) (hte : te ≠ t) (hkW : Kept NoB wr W) (hg : W.grownBy w3 v.ownBlock) : IAt t w3 g m s z :=
  h.kept (((hkW.mono (fun _ _ h => h.elim)).grown hg (fun b hb => .inl hb.symm)) : Kept (fun b => some b = v.ownBlock) wr w3) (own_ne HO h hte)
theorem IAt.other {t : TypeId} {g g' o : Nat} {w : World} {m s : Int} {z u : Value} (h : IAt t w g m s z) (hg : g ≠ g') : IAt t (w.setCell ⟨g', o, none⟩ u) g m s z :=
  h.kept ((Kept.refl (fun i => i = g') w).setCell (p := ⟨g', o, none⟩) (.inl rfl) u) hg
set_option maxRecDepth 100000 in
set_option maxHeartbeats 20000000 in
theorem ours_any (m s : Int) (u : Value) (l : List Xt) (F : Nat → Prop) (w : World) (h : XSl w F u l) (hl : l.length ≤ 1000) :
    Calls Try.prog 52 #[iv28 m s u] w (OurE m s l w) := by
  obtain ⟨i0, hi0, hz0, hz1, hz2⟩ := info_parts info_xt
  obtain ⟨a, cap, rfl, hca, hcm, _⟩ := id h
  have hk0 := (((Kept.refl NoB w).alloc (.cells #[.int .i64 m, .int .i64 s, .slice a l.length cap] 32)).alloc (.cells #[.int .i64 0, .int .i64 0, .slice none 0 0] 26)).alloc (.cells #[.int .i64 m, .int .i64 s, .slice none 0 0] 26)
  have HK0 := Lib.hid hk0
  have hA := heap_alloc_new w (.cells #[.int .i64 m, .int .i64 s, .slice a l.length cap] 32)
  have hB := heap_alloc_new (w.alloc (.cells #[.int .i64 m, .int .i64 s, .slice a l.length cap] 32)) (.cells #[.int .i64 0, .int .i64 0, .slice none 0 0] 26)
  rw [show (w.alloc (.cells #[.int .i64 m, .int .i64 s, .slice a l.length cap] 32)).heap.size = w.heap.size + 1 by simp] at hB
  have hC := heap_alloc_new ((w.alloc (.cells #[.int .i64 m, .int .i64 s, .slice a l.length cap] 32)).alloc (.cells #[.int .i64 0, .int .i64 0, .slice none 0 0] 26)) (.cells #[.int .i64 m, .int .i64 s, .slice none 0 0] 26)
  rw [show ((w.alloc (.cells #[.int .i64 m, .int .i64 s, .slice a l.length cap] 32)).alloc (.cells #[.int .i64 0, .int .i64 0, .slice none 0 0] 26)).heap.size = w.heap.size + 1 + 1 by simp] at hC
  have hA3 := ((Kept.refl NoB _).alloc (.cells #[.int .i64 m, .int .i64 s, .slice none 0 0] 26)).heap (fun h => h) (((Kept.refl NoB _).alloc (.cells #[.int .i64 0, .int .i64 0, .slice none 0 0] 26)).heap (fun h => h) hA)
  have hB3 := ((Kept.refl NoB _).alloc (.cells #[.int .i64 m, .int .i64 s, .slice none 0 0] 26)).heap (fun h => h) hB
  have HA3 := Lib.hid hA3
  have HB3 := Lib.hid hB3
  have HC3 := Lib.hid hC
  have HX := Lib.hid h
  obtain ⟨c0, c1, c2⟩ := cells3 hA
  unfold maxLen at hcm
  clear h hk0 hA hB hC hA3 hB3
  go_enter Try.func52, Try.ntmps52
  go_wp2
  clear c0 c1 c2
  go_loopw [4] (fun i wr => ∃ (j : Nat) (ra : Option Addr) (rc : Nat), j ≤ l.length ∧ i = .int .i64 j ∧ IAt 26 wr (w.heap.size + 1 + 1) m s (.slice ra (l.take j).length rc) ∧ XOwn 74 w.heap.size wr (.slice ra (l.take j).length rc) (l.take j) ∧ IAt 26 wr (w.heap.size + 1) 0 0 (.slice none 0 0) ∧ IAt 32 wr w.heap.size m s (.slice a l.length cap) ∧ Kept NoB w wr) (fun i _ => l.length - (intOf i).toNat)
  case atStart => exact ⟨0, none, 0, by omega, rfl, HC3.out, XOwn.nil _ _ _, HB3.out, HA3.out, HK0.out⟩
  case round =>
    obtain ⟨j, ra, rc, hj, rfl, h8, hown, h6, h5, hkk⟩ := hrel
    have HK := Lib.hid hkk
    have HO := Lib.hid hown
    have H8 := Lib.hid h8
    have H6 := Lib.hid h6
    have H5 := Lib.hid h5
    have hsz := hkk.size
    have hg8 := heap_lt h8
    obtain ⟨b0, b1, b2⟩ := cells3 h5
    obtain ⟨e0, e1, e2⟩ := cells3 h8
    have f8 := frz3 h8 2
    have htl : (l.take j).length = j := by rw [List.length_take]; omega
    obtain ⟨L, hL⟩ : ∃ L, L = l.take j := ⟨_, rfl⟩
    rw [← hL] at HO H8 e2 htl
    rw [htl] at HO H8 e2
    have HLE := Lib.hid hL
    have HTL := Lib.hid htl
    clear hown h8 h6 h5 hkk hL htl
    by_cases hlt : j < l.length
    · obtain ⟨b, o, rfl, _, _, x0, x1⟩ := (HX.out.no HK.out).at_ hlt
      have hS : l.take (j + 1) = L ++ [xth l j] := by rw [xtake_snoc hlt, HLE.out]
      obtain ⟨x, hx⟩ : ∃ x, x = xth l j := ⟨_, rfl⟩
      rw [← hx] at x0 x1 hS
      obtain ⟨xs, xn⟩ := x
      simp only at x0 x1
      have HS := Lib.hid hS
      have hj0 : (0 : Int) ≤ (j : Int) := by omega
      have hj1 : (j : Int) < (l.length : Int) := by omega
      have e2a := cell_alloc e2 (.cells #[.int .i64 xs, .int .i64 xn] 74)
      have e2b : (wr.drew.alloc (.cells #[.int .i64 xs, .int .i64 xn] 74)).cell? ⟨w.heap.size + 1 + 1, 2, none⟩ = some (.slice ra j rc) := e2a
      clear hx hS
      go_wp2
      go_region_law (first
        | (refine step_append_x Try.underlying24 hi0 hz0 hz1 hz2 rfl _ (by rfl) (.tmp 18) (.tmp 32) (by rfl) w.heap.size (.slice ra j rc) L (by rfl) (by first | exact HO.out.no (((Kept.refl NoB wr).drew).alloc _) | exact HO.out.no (((Kept.refl NoB wr).alloc _).drew)) _ (xs, xn) (by rfl) (by first | exact heap_alloc_new _ _ | exact heap_alloc_new wr _) (by rw [HTL.out]; omega) (by simp; omega) ?_; intro a3 c3 w3 hown3 hg3; rw [HTL.out] at hown3; rw [HTL.out]; obtain ⟨h8, h6, hk3⟩ := own_step HO.out (Nat.le_refl _) (by decide) HK.out (by first | exact ((Kept.refl NoB wr).drew).alloc _ | exact ((Kept.refl NoB wr).alloc _).drew) hg3 H8.out H6.out; have h5 := Lib.hid (H5.out.own HO.out (by decide) (by first | exact ((Kept.refl NoB wr).drew).alloc _ | exact ((Kept.refl NoB wr).alloc _).drew) hg3); obtain ⟨_, _, q2⟩ := cells3 h8; have g8 := frz3 h8 2; have HE3 := Lib.hid (own_store hown3 (by decide) h8 h6 (by omega) hk3 (by omega)); have H53 := Lib.hid (h5.out.other (g' := w.heap.size + 1 + 1) (o := 2) (u := .slice a3 (j + 1) c3) (by omega)); clear h8 h6 h5 hk3 hg3))
      all_goals
        go_wp2
        go_roundw
        case rel => exact ⟨j + 1, a3, c3, by omega, by go_num, (by rw [HS.out, List.length_append, HTL.out]; exact HE3.out.2.1), (by rw [HS.out, List.length_append, HTL.out]; exact HE3.out.1), HE3.out.2.2.1, H53.out, HE3.out.2.2.2⟩
        case measure => simp [intOf]; omega
    · obtain rfl : j = l.length := by omega
      have hll : L = l := by rw [HLE.out, List.take_length]
      subst hll
      obtain ⟨z0, z1, z2⟩ := cells3 H6.out
      have f0 := frz3 H6.out 0
      have f1 := frz3 H6.out 1
      have f2 := frz3 H6.out 2
      have n6 := own_ne HO.out H6.out (by decide)
      go_wp2
      obtain ⟨r0, r1, r2⟩ := cells3 (set3_heap H6.out (.int .i64 m) (.int .i64 s) (.slice ra L.length rc))
      exact bodyPost_ret (v := iv28 m s (.slice ra L.length rc)) (by simp [results, Try.results52, go_sem, r0, r1, r2]) rfl (OurE.mk ((HO.out.kept (set3_kept _ _ _ _ _) (fun k hk he => n6 (by rw [hk, he]))).sl) (HK.out.trans (set3_kept _ _ _ _ _) (fun i hi he => absurd hi (by omega))))
end Go.Proofs.Ytiifkcjngajegaa
namespace Go.Proofs.Ytiifkcjngajegaa
open Go.RowKit
set_option linter.unusedVariables false

set_option maxRecDepth 100000 in
set_option maxHeartbeats 20000000 in
theorem like_true (m s : Int) (u1 u2 : Value) (l : List Xt) (F G : Nat → Prop) (w : World) (h1 : XSl w F u1 l) (h2 : XSl w G u2 l) (hl : l.length ≤ 1000) :
    Calls Try.prog 12 #[iv28 m s u1, iv28 m s u2] w (BoolE true w) := by
  obtain ⟨a, ca, rfl, _⟩ := id h1
  obtain ⟨b, cb, rfl, _⟩ := id h2
  have hK := two28 w m s m s (.slice a l.length ca) (.slice b l.length cb) 26 32
  have HV := Lib.hid (h1.no hK)
  have HU := Lib.hid (h2.no hK)
  have HK := Lib.hid hK
  have hA := ((Kept.refl NoB _).alloc (.cells #[.int .i64 m, .int .i64 s, .slice b l.length cb] 32)).heap (fun h => h) (heap_alloc_new w (.cells #[.int .i64 m, .int .i64 s, .slice a l.length ca] 26))
  have hB := heap_alloc_new (w.alloc (.cells #[.int .i64 m, .int .i64 s, .slice a l.length ca] 26)) (.cells #[.int .i64 m, .int .i64 s, .slice b l.length cb] 32)
  rw [show (w.alloc (.cells #[.int .i64 m, .int .i64 s, .slice a l.length ca] 26)).heap.size = w.heap.size + 1 by simp] at hB
  have HA := Lib.hid hA
  have HB := Lib.hid hB
  clear h1 h2 hK hA hB
  go_enter Try.func12, Try.ntmps12
  go_wp2_with fail
  generalize (w.alloc (.cells #[.int .i64 m, .int .i64 s, .slice a l.length ca] 26)).alloc (.cells #[.int .i64 m, .int .i64 s, .slice b l.length cb] 32) = W at HV HU HK HA HB ⊢
  obtain ⟨c0, c1, c2⟩ := cells3 HA.out
  obtain ⟨d0, d1, d2⟩ := cells3 HB.out
  have HKc := Lib.hid (Kept.refl NoB W)
  go_region_held3 (fun w' => w'.cell? ⟨w.heap.size, 0, none⟩ = some (.int .i64 m) ∧ w'.cell? ⟨w.heap.size, 1, none⟩ = some (.int .i64 s) ∧ w'.cell? ⟨w.heap.size, 2, none⟩ = some (.slice a l.length ca) ∧ w'.cell? ⟨w.heap.size + 1, 0, none⟩ = some (.int .i64 m) ∧ w'.cell? ⟨w.heap.size + 1, 1, none⟩ = some (.int .i64 s) ∧ w'.cell? ⟨w.heap.size + 1, 2, none⟩ = some (.slice b l.length cb))
    (first
      | exact ⟨cell_drew c0, cell_drew c1, cell_drew c2, cell_drew d0, cell_drew d1, cell_drew d2⟩
      | exact ⟨HKc.out.cell (p := ⟨w.heap.size, 0, none⟩) (fun h => h) c0, HKc.out.cell (p := ⟨w.heap.size, 1, none⟩) (fun h => h) c1, HKc.out.cell (p := ⟨w.heap.size, 2, none⟩) (fun h => h) c2, HKc.out.cell (p := ⟨w.heap.size + 1, 0, none⟩) (fun h => h) d0, HKc.out.cell (p := ⟨w.heap.size + 1, 1, none⟩) (fun h => h) d1, HKc.out.cell (p := ⟨w.heap.size + 1, 2, none⟩) (fun h => h) d2⟩
      | go_keep)
    (first
      | (go_at_call 52; refine (ours_any m s _ l _ _ (HU.out.no (by first | exact HKc.out | exact HKc.out.drew)) hl).mono ?_; rintro e w3 ⟨a3, c3, rfl, hx3, hk3⟩; have HX3 := Lib.hid hx3; replace HKc := Lib.hid ((by first | exact HKc.out.trans hk3 (fun _ _ h => h) | exact HKc.out.drew.trans hk3 (fun _ _ h => h))); have HV3 := Lib.hid (HV.out.no HKc.out); clear hx3 hk3)
      | (go_at_call 51; refine (iSame_any m s m s _ _ l l _ _ _ HV3.out HX3.out).mono ?_; rw [decide_eq_true ⟨rfl, rfl, rfl⟩]; rintro e w4 ⟨rfl, hk4⟩; replace HKc := Lib.hid (HKc.out.trans hk4 (fun _ _ h => h)); clear hk4))
  all_goals
    go_wp2
    go_ret
    exact ⟨rfl, HK.out.trans HKc.out (fun _ _ h => h)⟩
end Go.Proofs.Ytiifkcjngajegaa
namespace Go.Proofs.Ytiifkcjngajegaa
open Go.RowKit
set_option linter.unusedVariables false

theorem blk_exts {bs : List Int} (hb : ∀ x ∈ bs, -9223372036854775808 ≤ x ∧ x ≤ 9223372036854775807) : blk (exts bs) = bs := by
  have key : ∀ j, j ≤ bs.length → blk (exts (bs.take j)) = bs.take j := by
    intro j
    induction j with
    | zero => intro _; rfl
    | succ j ih =>
      intro hj
      have hm : bs.getD j 0 ∈ bs := getD_mem28 (by omega)
      rw [take_snoc (by omega), exts_snoc]
      obtain ⟨x, hx⟩ : ∃ x, x = bs.getD j 0 := ⟨_, rfl⟩
      rw [← hx] at hm ⊢
      have ih := ih (by omega)
      have hln := exts_lens (bs.take j)
      obtain ⟨L, hL⟩ : ∃ L, L = exts (bs.take j) := ⟨_, rfl⟩
      rw [← hL] at ih hln ⊢
      cases hf : fits28 L x with
      | false =>
        rw [addB_new hf, blk_snoc, ih]
        congr 1
        have : eblk (x, 1) = run28 x 1 := rfl
        rw [this, run28_succ]
        have h0 : run28 x 0 = [] := rfl
        rw [h0, List.nil_append]
        congr 1
        have := hb x hm
        rw [show x + ((0 : Nat) : Int) = x by omega, wr28 this.1 this.2]
      | true =>
        have hli : L ≠ [] := by intro h; rw [h] at hf; cases hf
        obtain ⟨m, ⟨s, n⟩, rfl⟩ := snoc28 hli
        rw [fits_snoc] at hf
        simp only [Bool.and_eq_true, decide_eq_true_eq] at hf
        rw [addB_last m s n x hf.1 hf.2, blk_snoc]
        rw [blk_snoc] at ih
        obtain ⟨n1, n8⟩ := hln (s, n) (by simp)
        simp only at n1 n8
        have e1 : eblk (s, n) = run28 s n.toNat := by unfold eblk; rw [if_pos ⟨n1, n8⟩]
        have e2 : eblk (s, n + 1) = run28 s (n.toNat + 1) := by
          unfold eblk
          rw [if_pos ⟨by show 1 ≤ n + 1; omega, by show n + 1 ≤ 8; omega⟩]
          show run28 s (n + 1).toNat = _
          congr 1; omega
        rw [e2, run28_succ, ← List.append_assoc, ← e1, ih]
        congr 2
        rw [← hf.2]; congr 1; omega
  have := key bs.length (Nat.le_refl _)
  rwa [List.take_length] at this
theorem ofR_len (m s : Int) (bs : List Int) : (ofR m s bs).2.2.length ≤ bs.length := by
  unfold ofR
  split
  · exact exts_len bs
  · simp

theorem IAt.cells {t : TypeId} {w : World} {g : Nat} {m s : Int} {v : Value} (h : IAt t w g m s v) : w.cell? ⟨g, 0, none⟩ = some (.int .i64 m) ∧ w.cell? ⟨g, 1, none⟩ = some (.int .i64 s) ∧ w.cell? ⟨g, 2, none⟩ = some v := cells3 h
theorem IAt.no {t : TypeId} {w w' : World} {g : Nat} {m s : Int} {v : Value} (h : IAt t w g m s v) (hk : Kept NoB w w') : IAt t w' g m s v := h.kept hk (fun h => h)
theorem IAt.new (t : TypeId) (w : World) (m s : Int) (v : Value) : IAt t (w.alloc (.cells #[.int .i64 m, .int .i64 s, v] t)) w.heap.size m s v := heap_alloc_new w _
end Go.Proofs.Ytiifkcjngajegaa
