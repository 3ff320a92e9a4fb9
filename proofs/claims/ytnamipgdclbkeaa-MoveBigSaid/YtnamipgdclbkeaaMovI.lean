/-
  The walk of MoveBig.
-/
import Derived.Test.YtnamipgdclbkeaaMovH
namespace Go.Proofs.Ytnamipgdclbkeaa
open Go.RowKit Go.Shelf
set_option linter.unusedVariables false
set_option linter.unusedSimpArgs false

set_option maxRecDepth 100000 in
theorem MoveBig_any (k : Nat) (w : World) (hk : k < 65536) : Calls Try.prog 6 #[.int .u16 k] w fun e w' => e = .returned (.bool true) ∧ Kept NoB w w' := by
  obtain ⟨i0, hi0, hz0, hz1, hz2⟩ := info_parts Try.info5
  obtain ⟨m, hm⟩ : ∃ m, m = k % 9000 := ⟨_, rfl⟩
  have hm9 : m < 9000 := by omega
  have hrem : (k : Int).tmod 9000 = (m : Int) := by rw [hm]; exact (Int.ofNat_tmod k 9000).symm
  clear hm
  obtain ⟨N, hN⟩ : ∃ N, N = npr (zer m).length := ⟨_, rfl⟩
  obtain ⟨L, hL⟩ : ∃ L, L = (prt (zer m) (N - 1)).length := ⟨_, rfl⟩
  have hN' : N = (m - 1) / 1024 + 1 := by rw [hN, zer_len]; rfl
  have hL' : L = min 1024 (m - 1024 * (N - 1)) := by rw [hL, prt_len, zer_len]
  have hmle : (zer m).length ≤ 100000 := by rw [zer_len]; omega
  have e1 : (((N : Int) - 1) * 1024 + (L : Int) == (m : Int)) = true := by simp; omega
  have d2 : decide ((L : Int) ≤ 1024) = true := decide_eq_true (by omega)
  have d4 : ¬ m = 0 → decide ((0 : Int) < (L : Int)) = true := fun h => decide_eq_true (by omega)
  have hb : decide (0 ≤ (N : Int) - 1 ∧ (N : Int) - 1 < N) = true := decide_eq_true (by omega)
  have hN1 : 1 ≤ N := by omega
  have hNt : ((N : Int) - 1).toNat = N - 1 := by omega
  have hN9 : N ≤ 100 := by omega
  have hL9 : L ≤ 1024 := by omega
  have HN := Lib.hid hN
  have HL := Lib.hid hL
  have HML := Lib.hid hmle
  clear hN hL hN' hL' hmle
  by_cases h0 : m = 0
  · have d3 : ((m : Int) == 0) = true := by simp [h0]
    have H0 := Lib.hid h0
    clear h0 d4
    go_enter Try.func6, Try.ntmps6
    go_wp2_with (first
      | (at_make; refine wpList_make_full _ rfl (.tmp 10) (.tmp 10) 23 rfl w.heap.size 5 i0 _ 1 Try.underlying23 hi0 hz0 hz1 .i64 .i64 _ _ m rfl rfl rfl rfl (by rw [hz2]; omega) (by unfold maxLen; omega) (Nat.le_refl _) ?_; intro w1 hown hgrow; have HZ := Lib.hid (zer_own hown); have HK1 : Hid (Kept NoB w w1) := Lib.hid ((Kept.refl _ _).grown hgrow (fun k hk => by cases hk)); clear hown hgrow)
      | (go_at_call 8; refine (NewM_any 1 _ (zer m) _ w1 HZ.out HML.out).mono ?_; rintro e w2 ⟨g, rfl, hO2, hk2⟩; have HO2 := Lib.hid hO2; have HK2 := Lib.hid (HK1.out.trans hk2 (fun _ _ h => h)); clear hO2 hk2)
      | (go_at_call 11; refine (Parts_any g 1 (zer m) _ _ (by first | exact HO3.out | exact HO2.out)).mono ?_; rintro e w9 ⟨rfl, rfl⟩; rw [← HN.out])
      | (go_at_call 9; refine (Part_any g 1 (zer m) ((N : Int) - 1) _ _ HO2.out HML.out).mono ?_; rintro e w3 ⟨v3, b3, rfl, hb3, hv3, hk3⟩; rw [← HN.out] at hb3; obtain rfl : b3 = true := hb3.trans hb; obtain ⟨a3, c3, rfl⟩ : ∃ a3 c3, v3 = .slice a3 L c3 := (by obtain ⟨a, c, h, _⟩ := hv3; rw [if_pos rfl, hNt] at h; exact ⟨a, c, by rw [h, ← HL.out]⟩); have HO3 := Lib.hid (HO2.out.no hk3); have HK3 := Lib.hid (HK2.out.trans hk3 (fun _ _ h => h)); clear hv3 hk3 hb3)
      | (go_at_call 7; refine (awake21_any _).mono ?_; rintro e w4 ⟨rfl, hk4⟩; have HK4 := Lib.hid (HK3.out.trans hk4 (fun _ _ h => h)); clear hk4))
    go_ret
    exact ⟨rfl, HK4.out⟩
  · have d3 : ((m : Int) == 0) = false := by simp; omega
    have d4' := d4 h0
    have d5 : 0 < L := by have := of_decide_eq_true d4'; omega
    have H0 := Lib.hid h0
    clear h0 d4
    go_enter Try.func6, Try.ntmps6
    go_wp2_with (first
      | (at_make; refine wpList_make_full _ rfl (.tmp 10) (.tmp 10) 23 rfl w.heap.size 5 i0 _ 1 Try.underlying23 hi0 hz0 hz1 .i64 .i64 _ _ m rfl rfl rfl rfl (by rw [hz2]; omega) (by unfold maxLen; omega) (Nat.le_refl _) ?_; intro w1 hown hgrow; have HZ := Lib.hid (zer_own hown); have HK1 : Hid (Kept NoB w w1) := Lib.hid ((Kept.refl _ _).grown hgrow (fun k hk => by cases hk)); clear hown hgrow)
      | (go_at_call 8; refine (NewM_any 1 _ (zer m) _ w1 HZ.out HML.out).mono ?_; rintro e w2 ⟨g, rfl, hO2, hk2⟩; have HO2 := Lib.hid hO2; have HK2 := Lib.hid (HK1.out.trans hk2 (fun _ _ h => h)); clear hO2 hk2)
      | (go_at_call 11; refine (Parts_any g 1 (zer m) _ _ (by first | exact HO3.out | exact HO2.out)).mono ?_; rintro e w9 ⟨rfl, rfl⟩; rw [← HN.out])
      | (go_at_call 9; refine (Part_any g 1 (zer m) ((N : Int) - 1) _ _ HO2.out HML.out).mono ?_; rintro e w3 ⟨v3, b3, rfl, hb3, hv3, hk3⟩; rw [← HN.out] at hb3; obtain rfl : b3 = true := hb3.trans hb; obtain ⟨a3, c3, rfl⟩ : ∃ a3 c3, v3 = .slice a3 L c3 := (by obtain ⟨a, c, h, _⟩ := hv3; rw [if_pos rfl, hNt] at h; exact ⟨a, c, by rw [h, ← HL.out]⟩); have HO3 := Lib.hid (HO2.out.no hk3); have HK3 := Lib.hid (HK2.out.trans hk3 (fun _ _ h => h)); clear hv3 hk3 hb3)
      | (go_at_call 7; refine (awake21_any _).mono ?_; rintro e w4 ⟨rfl, hk4⟩; have HK4 := Lib.hid (HK3.out.trans hk4 (fun _ _ h => h)); clear hk4))
    go_ret
    exact ⟨rfl, HK4.out⟩
theorem MoveBig_i (a : Int) (w : World) (h0 : 0 ≤ a) (h1 : a ≤ 65535) : Calls Try.prog 6 #[.int .u16 a] w fun e w' => e = .returned (.bool true) ∧ Kept NoB w w' := by
  obtain ⟨k, rfl⟩ := Int.eq_ofNat_of_zero_le h0
  exact MoveBig_any k w (by omega)
end Go.Proofs.Ytnamipgdclbkeaa
