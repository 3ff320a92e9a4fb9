/-
  The walk of UpdateFits.
-/
import Derived.Test.YtpdkmalfojeghaaUpdH
namespace Go.Proofs.Ytpdkmalfojeghaa
open Go.RowKit
set_option linter.unusedVariables false
set_option linter.unusedSimpArgs false

theorem outW (ver : Int) (h : ver ≠ 18446744073709551615) : outU ⟨0, 0, 0, 2, 0, 0, []⟩ ver true = (0, ver + 1, true) := by
  unfold outU
  rw [if_neg (by simp), if_neg (by simp), if_neg (by simp; exact h)]
theorem outWm : outU ⟨0, 0, 0, 2, 0, 0, []⟩ 18446744073709551615 true = (9, 18446744073709551615, false) := by
  unfold outU
  rw [if_neg (by simp), if_neg (by simp), if_pos (by exact .inl rfl)]
theorem outC (a : Int) (h : a ≠ 18446744073709551615) (h0 : a ≠ 0) : outU ⟨0, 0, 0, 3, 0, a, []⟩ a false = (0, a + 1, true) := by
  unfold outU
  rw [if_neg (by simp), if_neg (by simp), if_neg (by exact fun h1 => h1.elim (fun h2 => h h2) (fun h2 => h0 h2.1))]
theorem outCm : outU ⟨0, 0, 0, 3, 0, 18446744073709551615, []⟩ 18446744073709551615 false = (9, 18446744073709551615, false) := by
  unfold outU
  rw [if_neg (by simp), if_neg (by simp), if_pos (by exact .inl rfl)]
set_option maxRecDepth 100000 in
set_option maxHeartbeats 4000000 in
theorem UpdateFits_any (w : World) (v : Value) (l : List Up) (s ver : Int) (h : UsAt w (fun k => k < w.heap.size) v l) (hfit : FitsU l) (h0 : 0 ≤ s) (h1 : s ≤ 18446744073709551615) (v0 : 0 ≤ ver) (v1 : ver ≤ 18446744073709551615) : Calls Try.prog 5 #[v, .int .u64 s, .int .u64 ver] w fun e w' => e = .returned (.bool true) ∧ Kept NoB w w' := by
  have HAW := Lib.hid (fun w => awake17 w)
  have HFA := Lib.hid (far17_any w v l _ h)
  cases hfar : farU l with
  | true =>
    rw [hfar] at HFA
    clear h hfit h0 h1 v0 v1 hfar
    go_enter Try.func5, Try.ntmps5
    go_wp2_with fail
    refine HFA.out.mono ?_
    rintro e w1 ⟨rfl, hk1⟩
    have HK1 := Lib.hid hk1
    clear hk1
    go_wp2_with fail
    refine (HAW.out _).mono ?_
    rintro e w2 ⟨rfl, hk2⟩
    have HK2 := Lib.hid (HK1.out.trans hk2 (fun _ _ h => h))
    clear hk2
    go_wp2
    go_ret
    exact ⟨rfl, HK2.out⟩
  | false =>
    rw [hfar] at HFA
    obtain ⟨hl, hdl⟩ := farU_not hfar
    have HU := Lib.hid h
    have HFI := Lib.hid hfit
    have HL := Lib.hid hl
    have HDL := Lib.hid hdl
    have HSB := Lib.hid (And.intro h0 h1)
    have HVB := Lib.hid (And.intro v0 v1)
    obtain ⟨va, vc, rfl⟩ := h.form
    obtain ⟨fl, hfl⟩ : ∃ x, x = selU seqU s l := ⟨_, rfl⟩
    have HFR : Hid (allU seqU s fl = true) := Lib.hid (by rw [hfl]; exact seq_runs s l)
    have HFF : Hid (FitsU fl) := Lib.hid (by rw [hfl]; exact hfit.sel seqU s)
    have HFL : Hid (fl.length ≤ 40) := Lib.hid (by rw [hfl]; exact Nat.le_trans (selU_len _ _ _) hl)
    have HAS : Hid (allU seqU s l = true → fl = l) := Lib.hid (fun h => by rw [hfl]; exact (allU_sel _ _ _).1 h)
    have HFLE := Lib.hid hfl
    obtain ⟨rl, hrl⟩ : ∃ b, b = allU seqU s l := ⟨_, rfl⟩
    have HRL := Lib.hid hrl
    have hlb : rl = true → ((fl.length : Int) != (l.length : Int)) = false := fun h => by
      have := HAS.out (by rw [← hrl]; exact h)
      rw [this]
      simp
    have HLB := Lib.hid hlb
    clear h hfit h0 h1 hfar hl hdl hfl hrl hlb
    go_enter Try.func5, Try.ntmps5
    go_wp2_with fail
    refine HFA.out.mono ?_
    rintro e w1 ⟨rfl, hk1⟩
    have HK1 := Lib.hid hk1
    clear hk1
    go_wp2_with fail
    refine (Fits_any w1 _ l s (fun k => k < w.heap.size) (HU.out.no HK1.out) (fun k hk => by have := HK1.out.size; omega) HFI.out (by have := HL.out; omega) (fun x hx => by have := HDL.out x hx; omega) HSB.out.1 HSB.out.2).mono ?_
    intro e w2 h2
    obtain ⟨fa, fc, rfl, hfu, hk2⟩ := h2.us
    rw [← HFLE.out] at hfu ⊢
    have HFU := Lib.hid hfu
    have HK2 := Lib.hid (HK1.out.trans hk2 (fun _ _ h => h))
    have HFU2 := Lib.hid (hfu.mono (G := fun k => k < w2.heap.size) (fun k hk _ => hk))
    clear h2 hfu hk2
    go_wp2_with fail
    refine (Runs_any w2 _ fl s (fun k => k < w2.heap.size) HFU2.out (fun k hk => hk) HFF.out (by have := HFL.out; omega) HSB.out.1 HSB.out.2).mono ?_
    rintro e w3 ⟨rfl, hk3⟩
    rw [HFR.out]
    have HK3 := Lib.hid (HK2.out.trans hk3 (fun _ _ h => h))
    clear hk3
    go_wp2_with fail
    refine (Runs_any w3 _ l s (fun k => k < w.heap.size) (HU.out.no HK3.out) (fun k hk => by have := HK3.out.size; omega) HFI.out (by have := HL.out; omega) HSB.out.1 HSB.out.2).mono ?_
    rintro e w4 ⟨rfl, hk4⟩
    rw [← HRL.out]
    have HK4 := Lib.hid (HK3.out.trans hk4 (fun _ _ h => h))
    clear hk4
    have HO1 := Lib.hid (fun w => Outcome_any w (.agg #[.int .u64 0, .int .i64 0, .int .u64 0, .int .i64 2, .int .u32 0, .int .u64 0, .slice none 0 0]) ⟨0, 0, 0, 2, 0, 0, []⟩ ver true NoB ⟨_, rfl, BSl.nil _ _⟩ HVB.out.1 HVB.out.2)
    by_cases hm : ver = 18446744073709551615
    · have HO := Lib.hid hm
      rw [hm, outWm] at HO1
      have hvv : (ver == ver) = true := by simp
      subst hm
      cases rl
      all_goals
        try have hlb := HLB.out rfl
        go_wp2_with fail
        refine (HO1.out _).mono ?_
        rintro e w5 ⟨rfl, hk5⟩
        have HK5 := Lib.hid (HK4.out.trans hk5 (fun _ _ h => h))
        clear hk5
        go_wp2_with fail
        refine (HAW.out _).mono ?_
        rintro e w6 ⟨rfl, hk6⟩
        have HK6 := Lib.hid (HK5.out.trans hk6 (fun _ _ h => h))
        clear hk6
        go_wp2
        go_ret
        exact ⟨rfl, HK6.out⟩
    · rw [outW ver hm] at HO1
      obtain ⟨A, hA⟩ : ∃ A, A = ver + 1 := ⟨_, rfl⟩
      rw [← hA] at HO1
      have HAB : Hid (0 < A ∧ A ≤ 18446744073709551615) := Lib.hid (by rw [hA]; omega)
      have HO2 := Lib.hid (fun w => Outcome_any w (.agg #[.int .u64 0, .int .i64 0, .int .u64 0, .int .i64 3, .int .u32 0, .int .u64 A, .slice none 0 0]) ⟨0, 0, 0, 3, 0, A, []⟩ A false NoB ⟨_, rfl, BSl.nil _ _⟩ (by have := HAB.out; omega) HAB.out.2)
      clear hm hA v0 v1
      by_cases ham : A = 18446744073709551615
      · rw [ham, outCm] at HO2
        subst ham
        cases rl
        all_goals
          try have hlb := HLB.out rfl
          go_wp2_with fail
          refine (HO1.out _).mono ?_
          rintro e w5 ⟨rfl, hk5⟩
          have HK5 := Lib.hid (HK4.out.trans hk5 (fun _ _ h => h))
          clear hk5
          go_wp2_with fail
          refine (HO2.out _).mono ?_
          rintro e w6 ⟨rfl, hk6⟩
          have HK6 := Lib.hid (HK5.out.trans hk6 (fun _ _ h => h))
          clear hk6
          go_wp2_with fail
          refine (HAW.out _).mono ?_
          rintro e w7 ⟨rfl, hk7⟩
          have HK7 := Lib.hid (HK6.out.trans hk7 (fun _ _ h => h))
          clear hk7
          go_wp2
          go_ret
          exact ⟨rfl, HK7.out⟩
      · rw [outC A ham (by have := HAB.out; omega)] at HO2
        obtain ⟨B, hB⟩ : ∃ B, B = A + 1 := ⟨_, rfl⟩
        have hwb : IntKind.u64.wrap (A + 1) = B := by rw [hB]; exact IntWalk.u64_in _ (by have := HAB.out; omega)
        have ham2 : (A == 18446744073709551615) = false := by simpa using ham
        have hbb : (B == B) = true := by simp
        rw [← hB] at HO2
        clear hB ham
        cases rl
        all_goals
          try have hlb := HLB.out rfl
          go_wp2_with fail
          refine (HO1.out _).mono ?_
          rintro e w5 ⟨rfl, hk5⟩
          have HK5 := Lib.hid (HK4.out.trans hk5 (fun _ _ h => h))
          clear hk5
          go_wp2_with fail
          refine (HO2.out _).mono ?_
          rintro e w6 ⟨rfl, hk6⟩
          have HK6 := Lib.hid (HK5.out.trans hk6 (fun _ _ h => h))
          clear hk6
          go_wp2_with fail
          refine (HAW.out _).mono ?_
          rintro e w7 ⟨rfl, hk7⟩
          have HK7 := Lib.hid (HK6.out.trans hk7 (fun _ _ h => h))
          clear hk7
          go_wp2
          go_ret
          exact ⟨rfl, HK7.out⟩
end Go.Proofs.Ytpdkmalfojeghaa
