/-
  Package bits and its answer: Fits.
-/
import Derived.Test.YtbacnkndllifaaaBitB
namespace Go.Proofs.Ytbacnkndllifaaa
open Go.RowKit
set_option linter.unusedVariables false

theorem fitB_iff {l : List Int} {k : Nat} (hk : k ≤ 4096) (hl : l = [] ∨ l.length = byt k) : fitB l (k : Int) = true ↔ ∀ i, i < 8 * l.length → k ≤ i → bitN l i = false := by
  unfold fitB
  simp only [decide_eq_true_eq, Int.toNat_natCast]
  exact ⟨fun h => h.2.2.2, fun h => ⟨by omega, by omega, hl, h⟩⟩
theorem fitB_bad {l : List Int} {n : Int} (h : n < 0 ∨ 4096 < n ∨ (l.length ≠ 0 ∧ l.length ≠ byt n.toNat)) : fitB l n = false := by
  unfold fitB
  refine decide_eq_false fun ⟨h1, h2, h3, _⟩ => ?_
  rcases h with h | h | ⟨ha, hb⟩
  · omega
  · omega
  · rcases h3 with h3 | h3
    · exact ha (by rw [h3]; rfl)
    · exact hb h3
def NoBit (l : List Int) (k j : Nat) : Prop := ∀ i, i < j → k ≤ i → bitN l i = false
theorem NoBit.succ {l : List Int} {k j : Nat} (h : NoBit l k j) (hb : bitN l j = false) : NoBit l k (j + 1) := fun i hi hk => by
  by_cases e : i = j
  · rw [e]; exact hb
  · exact h i (by omega) hk
theorem fitB_yes {l : List Int} {k j : Nat} (hk : k ≤ 4096) (hl : l = [] ∨ l.length = byt k) (h : NoBit l k j) (hj : 8 * l.length ≤ j) : fitB l (k : Int) = true :=
  (fitB_iff hk hl).2 fun i hi hki => h i (by omega) hki
theorem fitB_no {l : List Int} {k j : Nat} (hk : k ≤ 4096) (hl : l = [] ∨ l.length = byt k) (hkj : k ≤ j) (h : bitN l j = true) : fitB l (k : Int) = false := by
  cases e : fitB l (k : Int)
  · rfl
  · have hj : j < 8 * l.length := by
      rcases Nat.lt_or_ge j (8 * l.length) with h1 | h1
      · exact h1
      · rw [bitN_ge h1] at h; cases h
    have := (fitB_iff hk hl).1 e j hj hkj
    rw [h] at this; cases this

set_option maxRecDepth 100000 in
theorem bFits_any (v : Value) (l : List Int) (F : Nat → Prop) (n : Int) (w : World) (h : BSl w F v l) :
    Calls Try.prog 18 #[v, .int .i64 n] w fun e w' => e = .returned (.bool (fitB l n)) ∧ w = w' := by
  have HB := Lib.hid h
  have HIS := Lib.hid (isSize_any n w)
  obtain ⟨a, cap, rfl, hc, hm, hnn, hr⟩ := h
  clear hnn hr
  unfold maxLen at hm
  by_cases hn : 0 ≤ n ∧ n ≤ 4096
  · rw [decide_eq_true hn] at HIS
    obtain ⟨k, rfl⟩ := Int.eq_ofNat_of_zero_le hn.1
    have hk4 : k ≤ 4096 := by omega
    have hk0 : (0 : Int) ≤ (k : Int) := by omega
    have hk5 : (k : Int) ≤ 4096 := by omega
    have HBF := Lib.hid (bytesFor_any k w hk4)
    have hby := byt_lt k
    obtain ⟨m, hm2⟩ : ∃ m, m = byt k := ⟨_, rfl⟩
    have HM := Lib.hid hm2
    rw [← hm2] at HBF hby
    clear hn hm2
    by_cases hbad : l.length ≠ 0 ∧ l.length ≠ m
    · have h1 : ((l.length : Int) != 0) = true := bne_iff_ne.2 (by omega)
      have h2 : ((l.length : Int) != (m : Int)) = true := bne_iff_ne.2 (by omega)
      rw [fitB_bad (.inr (.inr (by rw [Int.toNat_natCast, ← HM.out]; exact hbad)))]
      clear hbad
      go_enter Try.func18, Try.ntmps18
      go_wp2_with (first
        | (go_at_call 56; refine HIS.out.mono ?_; rintro e w' ⟨rfl, rfl⟩)
        | (go_at_call 57; refine HBF.out.mono ?_; rintro e w' ⟨rfl, rfl⟩))
      go_ret
      exact ⟨rfl, rfl⟩
    · replace hbad : l.length = 0 ∨ l.length = m := by
        by_cases h0 : l.length = 0
        · exact .inl h0
        · by_cases h1 : l.length = m
          · exact .inr h1
          · exact absurd ⟨h0, h1⟩ hbad
      have HL : Hid (l = [] ∨ l.length = byt k) := Lib.hid (by
        by_cases h0 : l.length = 0
        · exact .inl (List.eq_nil_of_length_eq_zero h0)
        · exact .inr (by rw [← HM.out]; omega))
      have hll : l.length ≤ 600 := by omega
      obtain ⟨t, ht⟩ : ∃ t, t = fitB l (k : Int) := ⟨_, rfl⟩
      have HT := Lib.hid ht
      rw [← ht]
      clear ht
      have h8 : (0 : Int) ≤ 8 * (l.length : Int) := by omega
      have key : ∀ (x y : Bool), ((l.length : Int) != 0) = x → ((l.length : Int) != (m : Int)) = y → (x && y) = false → Calls Try.prog 18 #[.slice a l.length cap, .int .i64 (k : Int)] w fun e w' => e = .returned (.bool t) ∧ w = w' := by
        intro x y hx hy hxy
        clear hbad
        cases x with
        | true =>
          obtain rfl : y = false := by cases y; rfl; cases hxy
          clear hxy
          go_enter Try.func18, Try.ntmps18
          go_wp2_with (first
            | (go_at_call 56; refine HIS.out.mono ?_; rintro e w' ⟨rfl, rfl⟩)
            | (go_at_call 57; refine HBF.out.mono ?_; rintro e w' ⟨rfl, rfl⟩))
          go_loop [5] (fun i => ∃ j : Nat, i = .int .i64 j ∧ k ≤ j ∧ (j ≤ 4096 ∨ j ≤ 8 * l.length) ∧ NoBit l k j) (fun i => 8 * l.length - (intOf i).toNat)
          case atStart => exact ⟨k, rfl, Nat.le_refl _, by omega, fun i h1 h2 => by omega⟩
          case round =>
            obtain ⟨j, rfl, hkj, hj, hno⟩ := hrel
            have HNO := Lib.hid hno
            have HH := Lib.hid (bHas27_any _ l _ (j : Int) w HB.out (by omega))
            rw [bitI_nat] at HH
            clear hno
            by_cases hlt : j < 8 * l.length
            · have hlt2 : (j : Int) < 8 * (l.length : Int) := by omega
              cases hb : bitN l j with
              | true =>
                rw [hb] at HH
                have HR : Hid (false = t) := Lib.hid (by rw [HT.out, fitB_no hk4 HL.out hkj hb])
                clear hb
                go_wp2_with (go_at_call 20; refine HH.out.mono ?_; rintro e w' ⟨rfl, rfl⟩)
                go_ret
                exact ⟨ret_b HR.out, rfl⟩
              | false =>
                rw [hb] at HH
                have HNB := Lib.hid (HNO.out.succ hb)
                clear hb
                go_wp2_with (go_at_call 20; refine HH.out.mono ?_; rintro e w' ⟨rfl, rfl⟩)
                go_round
                case rel => exact ⟨j + 1, by go_num, by omega, by omega, HNB.out⟩
                case measure => simp [intOf]; omega
            · have hlt2 : ¬ (j : Int) < 8 * (l.length : Int) := by omega
              have HR : Hid (true = t) := Lib.hid (by rw [HT.out, fitB_yes hk4 HL.out HNO.out (by omega)])
              go_wp2
              go_ret
              exact ⟨ret_b HR.out, rfl⟩
        | false =>
          clear hxy hy
          go_enter Try.func18, Try.ntmps18
          go_wp2_with (first
            | (go_at_call 56; refine HIS.out.mono ?_; rintro e w' ⟨rfl, rfl⟩)
            | (go_at_call 57; refine HBF.out.mono ?_; rintro e w' ⟨rfl, rfl⟩))
          have h0 : l.length = 0 := by simpa using hx
          have hlt2 : ¬ (k : Int) < 8 * (l.length : Int) := by omega
          have HR : Hid (true = t) := Lib.hid (by rw [HT.out, fitB_yes hk4 HL.out (j := k) (fun i h1 h2 => by omega) (by omega)])
          clear h0
          refine wp_loop_rounds 1 ?_
          rw [rounds_succ]
          go_wp2
          go_ret
          exact ⟨ret_b HR.out, rfl⟩
      refine key _ _ rfl rfl ?_
      by_cases h0 : l.length = 0
      · simp [h0]
      · have : l.length = m := by omega
        simp [this]
  · rw [decide_eq_false hn] at HIS
    rw [fitB_bad (by omega)]
    clear hn
    go_enter Try.func18, Try.ntmps18
    go_wp2_with (go_at_call 56; refine HIS.out.mono ?_; rintro e w' ⟨rfl, rfl⟩)
    go_ret
    exact ⟨rfl, rfl⟩
set_option maxRecDepth 100000 in
theorem rFits_any (v : Value) (l : List Int) (F : Nat → Prop) (n : Int) (w : World) (h : BSl w F v l) :
    Calls Try.prog 19 #[v, .int .i64 n] w fun e w' => e = .returned (.bool (fitB l n)) ∧ w = w' := by
  have HB := Lib.hid h
  obtain ⟨a, cap, rfl, hc, hm, hnn, hr⟩ := h
  clear hnn hr
  unfold maxLen at hm
  by_cases hn : 0 ≤ n ∧ n ≤ 4096
  · obtain ⟨k, rfl⟩ := Int.eq_ofNat_of_zero_le hn.1
    have hk4 : k ≤ 4096 := by omega
    have hk0 : (0 : Int) ≤ (k : Int) := by omega
    have hk5 : (k : Int) ≤ 4096 := by omega
    have HBF := Lib.hid (Size27_any k w hk4)
    have hby := byt_lt k
    obtain ⟨m, hm2⟩ : ∃ m, m = byt k := ⟨_, rfl⟩
    have HM := Lib.hid hm2
    rw [← hm2] at HBF hby
    clear hn hm2
    by_cases hbad : l.length ≠ 0 ∧ l.length ≠ m
    · have h1 : decide (0 < (l.length : Int)) = true := decide_eq_true (by omega)
      have h1' : decide (0 < l.length) = true := decide_eq_true (by omega)
      have h2 : ((l.length : Int) != (m : Int)) = true := bne_iff_ne.2 (by omega)
      rw [fitB_bad (.inr (.inr (by rw [Int.toNat_natCast, ← HM.out]; exact hbad)))]
      clear hbad
      go_enter Try.func19, Try.ntmps19
      go_wp2_with (go_at_call 16; refine HBF.out.mono ?_; rintro e w' ⟨rfl, rfl⟩)
      go_ret
      exact ⟨rfl, rfl⟩
    · replace hbad : l.length = 0 ∨ l.length = m := by
        by_cases h0 : l.length = 0
        · exact .inl h0
        · by_cases h1 : l.length = m
          · exact .inr h1
          · exact absurd ⟨h0, h1⟩ hbad
      have HL : Hid (l = [] ∨ l.length = byt k) := Lib.hid (by
        by_cases h0 : l.length = 0
        · exact .inl (List.eq_nil_of_length_eq_zero h0)
        · exact .inr (by rw [← HM.out]; omega))
      have hll : l.length ≤ 600 := by omega
      obtain ⟨t, ht⟩ : ∃ t, t = fitB l (k : Int) := ⟨_, rfl⟩
      have HT := Lib.hid ht
      rw [← ht]
      clear ht
      have h8 : (0 : Int) ≤ 8 * (l.length : Int) := by omega
      have key : ∀ (x y : Bool), decide (0 < (l.length : Int)) = x → decide (0 < l.length) = x → ((l.length : Int) != (m : Int)) = y → (x && y) = false → Calls Try.prog 19 #[.slice a l.length cap, .int .i64 (k : Int)] w fun e w' => e = .returned (.bool t) ∧ w = w' := by
        intro x y hx hx' hy hxy
        clear hbad
        cases x with
        | true =>
          obtain rfl : y = false := by cases y; rfl; cases hxy
          clear hxy
          go_enter Try.func19, Try.ntmps19
          go_wp2_with (go_at_call 16; refine HBF.out.mono ?_; rintro e w' ⟨rfl, rfl⟩)
          go_loop [5] (fun i => ∃ j : Nat, i = .int .i64 j ∧ k ≤ j ∧ (j ≤ 4096 ∨ j ≤ 8 * l.length) ∧ NoBit l k j) (fun i => 8 * l.length - (intOf i).toNat)
          case atStart => exact ⟨k, rfl, Nat.le_refl _, by omega, fun i h1 h2 => by omega⟩
          case round =>
            obtain ⟨j, rfl, hkj, hj, hno⟩ := hrel
            have HNO := Lib.hid hno
            have HH := Lib.hid (rHas27_any _ l _ (j : Int) w HB.out (by omega))
            rw [bitI_nat] at HH
            clear hno
            by_cases hlt : j < 8 * l.length
            · have hlt2 : (j : Int) < 8 * (l.length : Int) := by omega
              cases hb : bitN l j with
              | true =>
                rw [hb] at HH
                have HR : Hid (false = t) := Lib.hid (by rw [HT.out, fitB_no hk4 HL.out hkj hb])
                clear hb
                go_wp2_with (go_at_call 21; refine HH.out.mono ?_; rintro e w' ⟨rfl, rfl⟩)
                go_ret
                exact ⟨ret_b HR.out, rfl⟩
              | false =>
                rw [hb] at HH
                have HNB := Lib.hid (HNO.out.succ hb)
                clear hb
                go_wp2_with (go_at_call 21; refine HH.out.mono ?_; rintro e w' ⟨rfl, rfl⟩)
                go_round
                case rel => exact ⟨j + 1, by go_num, by omega, by omega, HNB.out⟩
                case measure => simp [intOf]; omega
            · have hlt2 : ¬ (j : Int) < 8 * (l.length : Int) := by omega
              have HR : Hid (true = t) := Lib.hid (by rw [HT.out, fitB_yes hk4 HL.out HNO.out (by omega)])
              go_wp2
              go_ret
              exact ⟨ret_b HR.out, rfl⟩
        | false =>
          clear hxy hy
          go_enter Try.func19, Try.ntmps19
          go_wp2_with (go_at_call 16; refine HBF.out.mono ?_; rintro e w' ⟨rfl, rfl⟩)
          have h0 : l.length = 0 := by have := of_decide_eq_false hx'; omega
          have hlt2 : ¬ (k : Int) < 8 * (l.length : Int) := by omega
          have HR : Hid (true = t) := Lib.hid (by rw [HT.out, fitB_yes hk4 HL.out (j := k) (fun i h1 h2 => by omega) (by omega)])
          clear h0
          refine wp_loop_rounds 1 ?_
          rw [rounds_succ]
          go_wp2
          go_ret
          exact ⟨ret_b HR.out, rfl⟩
      refine key _ _ rfl (by simp) rfl ?_
      by_cases h0 : l.length = 0
      · simp [h0]
      · have : l.length = m := by omega
        simp [this]
  · rw [fitB_bad (by omega)]
    by_cases h0 : n < 0
    · clear hn
      go_enter Try.func19, Try.ntmps19
      go_wp2
      go_ret
      exact ⟨rfl, rfl⟩
    · have h1 : 4096 < n := by omega
      clear hn
      go_enter Try.func19, Try.ntmps19
      go_wp2
      go_ret
      exact ⟨rfl, rfl⟩
end Go.Proofs.Ytbacnkndllifaaa
