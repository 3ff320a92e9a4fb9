/-
  Package bits and its answer: Has, isSize, bytesFor, Size.
-/
import Derived.Test.YtbacnkndllifaaaBitA
import Derived.Test.YtbacnkndllifaaaRef
import Derived.Test.YtbacnkndllifaaaCnfR
import Derived.Laws.ShiftsVarLaws
namespace Go.Proofs.Ytbacnkndllifaaa
open Go.RowKit
set_option linter.unusedVariables false

theorem bitI_neg {l : List Int} {i : Int} (h : i < 0) : bitI l i = false := by
  unfold bitI; rw [decide_eq_false (by omega)]; rfl
theorem bitI_nat (l : List Int) (i : Nat) : bitI l (i : Int) = bitN l i := by
  unfold bitI; rw [decide_eq_true (by omega)]; simp
theorem ret_b {a b : Bool} (h : a = b) : Ending.returned (.bool a) = .returned (.bool b) := by rw [h]
set_option maxRecDepth 100000 in
theorem bHas27_any (v : Value) (l : List Int) (F : Nat → Prop) (i : Int) (w : World) (h : BSl w F v l) (hi : i ≤ 9223372036854775807) :
    Calls Try.prog 20 #[v, .int .i64 i] w fun e w' => e = .returned (.bool (bitI l i)) ∧ w = w' := by
  obtain ⟨a, cap, rfl, hc, hm, hnn, hr⟩ := h
  have HN := Lib.hid hnn
  clear hnn
  unfold maxLen at hm
  by_cases h0 : i < 0
  · rw [bitI_neg h0]
    go_enter Try.func20, Try.ntmps20
    go_wp2
    go_ret
    exact ⟨rfl, rfl⟩
  · obtain ⟨k, rfl⟩ := Int.eq_ofNat_of_zero_le (show 0 ≤ i by omega)
    rw [bitI_nat]
    have hk0 : (0 : Int) ≤ (k : Int) := by omega
    have hd : ((k : Int) / 8).toNat = k / 8 := by omega
    have hd0 : (0 : Int) ≤ (k : Int) / 8 := by omega
    clear h0
    by_cases hlt : k / 8 < l.length
    · have hlt' : decide ((k : Int) / 8 < (l.length : Int)) = true := decide_eq_true (by omega)
      obtain ⟨b, o, rfl, _, _, hcell⟩ := hr.at_ hlt
      have hx := hr.1.getD (k / 8)
      obtain ⟨x, hx2⟩ : ∃ x : Nat, l.getD (k / 8) 0 = (x : Int) := ⟨(l.getD (k / 8) 0).toNat, by omega⟩
      have HB : Hid (bitN l k = x.testBit (k % 8)) := Lib.hid (by unfold bitN; rw [hx2]; simp)
      rw [hx2] at hcell hx
      have hs := shr_bits x (by omega) (k % 8) (by omega)
      have hm0 : (0 : Int) ≤ (k : Int) % 8 := by omega
      have hm1 : (k : Int) % 8 < 8 := by omega
      have hx0 : (0 : Int) ≤ (x : Int) := by omega
      have hx1 : (x : Int) ≤ 255 := by omega
      have hlt2 : (k : Int) / 8 < (l.length : Int) := by omega
      clear hx2 hr hlt hx
      cases hb : x.testBit (k % 8) with
      | true =>
        rw [hb, if_pos rfl] at hs
        rw [hb] at HB
        rw [HB.out]
        clear hb
        go_enter Try.func20, Try.ntmps20
        go_wp2
        go_ret
        exact ⟨rfl, rfl⟩
      | false =>
        rw [hb] at hs
        simp only [Bool.false_eq_true, if_false] at hs
        rw [hb] at HB
        rw [HB.out]
        clear hb
        go_enter Try.func20, Try.ntmps20
        go_wp2
        go_ret
        exact ⟨rfl, rfl⟩
    · have hlt' : decide ((k : Int) / 8 < (l.length : Int)) = false := decide_eq_false (by omega)
      rw [bitN_ge (by omega)]
      clear hlt hr
      go_enter Try.func20, Try.ntmps20
      go_wp2
      go_ret
      exact ⟨rfl, rfl⟩
set_option maxRecDepth 100000 in
theorem rHas27_any (v : Value) (l : List Int) (F : Nat → Prop) (i : Int) (w : World) (h : BSl w F v l) (hi : i ≤ 9223372036854775807) :
    Calls Try.prog 21 #[v, .int .i64 i] w fun e w' => e = .returned (.bool (bitI l i)) ∧ w = w' := by
  obtain ⟨a, cap, rfl, hc, hm, hnn, hr⟩ := h
  have HN := Lib.hid hnn
  clear hnn
  unfold maxLen at hm
  by_cases h0 : i < 0
  · rw [bitI_neg h0]
    go_enter Try.func21, Try.ntmps21
    go_wp2
    go_ret
    exact ⟨rfl, rfl⟩
  · obtain ⟨k, rfl⟩ := Int.eq_ofNat_of_zero_le (show 0 ≤ i by omega)
    rw [bitI_nat]
    have hk0 : (0 : Int) ≤ (k : Int) := by omega
    have hd : ((k : Int) / 8).toNat = k / 8 := by omega
    have hd0 : (0 : Int) ≤ (k : Int) / 8 := by omega
    clear h0
    by_cases hlt : k / 8 < l.length
    · have hlt' : decide ((l.length : Int) ≤ (k : Int) / 8) = false := decide_eq_false (by omega)
      obtain ⟨b, o, rfl, _, _, hcell⟩ := hr.at_ hlt
      have hx := hr.1.getD (k / 8)
      obtain ⟨x, hx2⟩ : ∃ x : Nat, l.getD (k / 8) 0 = (x : Int) := ⟨(l.getD (k / 8) 0).toNat, by omega⟩
      have HB : Hid (bitN l k = decide (x / 2 ^ (k % 8) % 2 = 1)) := Lib.hid (by unfold bitN; rw [hx2, Int.toNat_natCast, Nat.testBit_eq_decide_div_mod_eq])
      rw [hx2] at hcell hx
      have hx1 : x ≤ 255 := by omega
      have hlt2 : (k : Int) / 8 < (l.length : Int) := by omega
      clear hx2 hr hlt hx
      obtain ⟨t, ht⟩ : ∃ t, t = bitN l k := ⟨_, rfl⟩
      rw [← ht] at HB ⊢
      clear ht
      go_enter Try.func21, Try.ntmps21
      go_wp2
      go_loop [5, 6] (fun c i => ∃ j : Nat, j ≤ k % 8 ∧ i = .int .i64 j ∧ c = .int .u8 ((x / 2 ^ j : Nat) : Int)) (fun _ i => k % 8 - (intOf i).toNat)
      case atStart => exact ⟨0, by omega, rfl, by simp⟩
      case round =>
        obtain ⟨j, hj, rfl, rfl⟩ := hrel
        have hm : x / 2 ^ j ≤ x := Nat.div_le_self _ _
        obtain ⟨q, hq⟩ : ∃ q, q = x / 2 ^ j := ⟨_, rfl⟩
        rw [← hq] at hm ⊢
        have HQ := Lib.hid hq
        clear hq
        by_cases hlt : j < k % 8
        · have hj1 : (j : Int) < (k : Int) % 8 := by omega
          go_wp2
          go_round
          case rel => exact ⟨j + 1, by omega, by go_num, by rw [Nat.pow_succ, ← Nat.div_div_eq_div_mul, ← HQ.out]; simp⟩
          case measure => simp [intOf]; omega
        · obtain rfl : j = k % 8 := by omega
          have hj2 : decide (((k % 8 : Nat) : Int) < (k : Int) % 8) = false := decide_eq_false (by omega)
          have hj3 : ((k % 8 : Nat) : Int) = (k : Int) % 8 := by omega
          cases t with
          | true =>
            have h1 : q % 2 = 1 := by have := HB.out; rw [← HQ.out] at this; simpa using this.symm
            have h1' : (q : Int) % 2 = 1 := by omega
            clear h1
            go_wp2
            go_ret
            exact ⟨rfl, rfl⟩
          | false =>
            have h1 : q % 2 = 0 := by have := HB.out; rw [← HQ.out] at this; simp at this; omega
            have h1' : (q : Int) % 2 = 0 := by omega
            clear h1
            go_wp2
            go_ret
            exact ⟨rfl, rfl⟩
    · have hlt' : decide ((l.length : Int) ≤ (k : Int) / 8) = true := decide_eq_true (by omega)
      rw [bitN_ge (by omega)]
      clear hlt hr
      go_enter Try.func21, Try.ntmps21
      go_wp2
      go_ret
      exact ⟨rfl, rfl⟩

theorem isSize_any (n : Int) (w : World) : Calls Try.prog 56 #[.int .i64 n] w fun e w' => e = .returned (.bool (decide (0 ≤ n ∧ n ≤ 4096))) ∧ w = w' := by
  by_cases h0 : 0 ≤ n
  · by_cases h1 : n ≤ 4096
    · rw [decide_eq_true ⟨h0, h1⟩]
      go_enter Try.func56, Try.ntmps56
      go_wp2
      go_ret
      exact ⟨rfl, rfl⟩
    · rw [decide_eq_false (fun h => h1 h.2)]
      go_enter Try.func56, Try.ntmps56
      go_wp2
      go_ret
      exact ⟨rfl, rfl⟩
  · rw [decide_eq_false (fun h => h0 h.1)]
    go_enter Try.func56, Try.ntmps56
    go_wp2
    go_ret
    exact ⟨rfl, rfl⟩
theorem bytesFor_any (n : Nat) (w : World) (h : n ≤ 4096) : Calls Try.prog 57 #[.int .i64 (n : Int)] w fun e w' => e = .returned (.int .i64 (byt n : Nat)) ∧ w = w' := by
  have HE : Hid (((byt n : Nat) : Int) = ((n : Int) + 8 - 1) / 8) := Lib.hid (by unfold byt; omega)
  have h0 : (0 : Int) ≤ (n : Int) := by omega
  go_enter Try.func57, Try.ntmps57
  go_wp2
  go_ret
  exact ⟨(by rw [HE.out] <;> rfl), rfl⟩
theorem Size27_any (n : Nat) (w : World) (h : n ≤ 4096) : Calls Try.prog 16 #[.int .i64 (n : Int)] w fun e w' => e = .returned (.int .i64 (byt n : Nat)) ∧ w = w' := by
  have h1 := byt_le n
  have h2 := byt_lt n
  obtain ⟨m, hm⟩ : ∃ m, m = byt n := ⟨_, rfl⟩
  rw [← hm] at h1 h2 ⊢
  clear hm
  go_enter Try.func16, Try.ntmps16
  go_wp2
  go_loop [3] (fun i => ∃ j : Nat, j ≤ m ∧ i = .int .i64 j) (fun i => m - (intOf i).toNat)
  case atStart => exact ⟨0, by omega, rfl⟩
  case round =>
    obtain ⟨j, hj, rfl⟩ := hrel
    by_cases hlt : j < m
    · have : 8 * (j : Int) < (n : Int) := by omega
      go_wp2
      go_round
      case rel => exact ⟨j + 1, by omega, by go_num⟩
      case measure => simp [intOf]; omega
    · obtain rfl : j = m := by omega
      have : ¬ 8 * (j : Int) < (n : Int) := by omega
      go_wp2
      go_ret
      exact ⟨rfl, rfl⟩
end Go.Proofs.Ytbacnkndllifaaa
