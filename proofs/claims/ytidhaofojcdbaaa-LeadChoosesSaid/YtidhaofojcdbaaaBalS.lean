/-
  Plain facts on sets of bits: a set with more numbers, made in two ways.
-/
import Derived.Test.YtidhaofojcdbaaaBalP
namespace Go.Proofs.Ytidhaofojcdbaaa
open Go.RowKit

/-- One number more, if it can be a member. -/
def or1 (s : Nat) (i : Int) : Nat := if 1 ≤ i ∧ i < 64 then s ||| 2 ^ i.toNat else s
def ors (s : Nat) (l : List Int) : Nat := l.foldl or1 s
theorem or1_lt (s : Nat) (i : Int) (h : s < 18446744073709551616) : or1 s i < 18446744073709551616 := by
  unfold or1
  split
  · exact Nat.or_lt_two_pow (n := 64) h (Nat.pow_lt_pow_right (by omega) (by omega))
  · exact h
theorem or1_bit (s : Nat) (i : Int) (j : Nat) : (or1 s i).testBit j = (s.testBit j || decide (1 ≤ i ∧ i < 64 ∧ i = (j : Int))) := by
  unfold or1
  split
  · rename_i h
    rw [Nat.testBit_or, Nat.testBit_two_pow]
    congr 1
    by_cases hj : i.toNat = j
    · rw [decide_eq_true hj, decide_eq_true (by omega)]
    · rw [decide_eq_false hj, decide_eq_false (by omega)]
  · rename_i h
    rw [decide_eq_false (by omega), Bool.or_false]
theorem ors_bit (l : List Int) (s j : Nat) : (ors s l).testBit j = (s.testBit j || decide (1 ≤ j ∧ j < 64 ∧ (j : Int) ∈ l)) := by
  induction l generalizing s with
  | nil => simp [ors]
  | cons i l ih =>
    show (ors (or1 s i) l).testBit j = _
    rw [ih, or1_bit, Bool.or_assoc]
    congr 1
    rw [Bool.eq_iff_iff]
    simp only [Bool.or_eq_true, decide_eq_true_eq, List.mem_cons]
    constructor
    · rintro (⟨a, b, c⟩ | ⟨a, b, c⟩)
      · exact ⟨by omega, by omega, .inl c.symm⟩
      · exact ⟨a, b, .inr c⟩
    · rintro ⟨a, b, c | c⟩
      · exact .inl ⟨by omega, by omega, c.symm⟩
      · exact .inr ⟨a, b, c⟩
theorem ors_lt (l : List Int) (s : Nat) (h : s < 18446744073709551616) : ors s l < 18446744073709551616 := by
  induction l generalizing s with
  | nil => exact h
  | cons i l ih => exact ih _ (or1_lt s i h)
theorem ors_take (l : List Int) (s k : Nat) (h : k < l.length) : ors s (l.take (k + 1)) = or1 (ors s (l.take k)) (l.getD k 0) := by
  rw [List.take_succ_eq_append_getElem h]
  unfold ors
  rw [List.foldl_append, List.getD_eq_getElem?_getD, List.getElem?_eq_getElem h]
  rfl
/-- The set of the numbers below k that are in a list. -/
def setTo (l : List Int) : Nat → Nat
  | 0 => 0
  | k + 1 => setTo l k + if 1 ≤ k ∧ (k : Int) ∈ l then 2 ^ k else 0
theorem setTo_lt (l : List Int) (k : Nat) : setTo l k < 2 ^ k := by
  induction k with
  | zero => simp [setTo]
  | succ k ih =>
    rw [setTo, Nat.pow_succ]
    split <;> omega
theorem setTo_bit (l : List Int) (k j : Nat) : (setTo l k).testBit j = decide (1 ≤ j ∧ j < k ∧ (j : Int) ∈ l) := by
  induction k with
  | zero => simp [setTo]
  | succ k ih =>
    have hlt := setTo_lt l k
    rw [setTo]
    by_cases hc : 1 ≤ k ∧ (k : Int) ∈ l
    · rw [if_pos hc, Nat.add_comm]
      have e : 2 ^ k + setTo l k = 2 ^ k * 1 ||| setTo l k := by rw [← Nat.two_pow_add_eq_or_of_lt hlt 1, Nat.mul_one]
      rw [e, Nat.mul_one, Nat.testBit_or, Nat.testBit_two_pow, ih, Bool.eq_iff_iff]
      simp only [Bool.or_eq_true, decide_eq_true_eq]
      constructor
      · rintro (h | ⟨a, b, c⟩)
        · subst h; exact ⟨hc.1, by omega, hc.2⟩
        · exact ⟨a, by omega, c⟩
      · rintro ⟨a, b, c⟩
        by_cases hk : k = j
        · exact .inl hk
        · exact .inr ⟨a, by omega, c⟩
    · rw [if_neg hc, Nat.add_zero, ih, Bool.eq_iff_iff]
      simp only [decide_eq_true_eq]
      constructor
      · rintro ⟨a, b, c⟩
        exact ⟨a, by omega, c⟩
      · rintro ⟨a, b, c⟩
        by_cases hk : k = j
        · subst hk; exact absurd ⟨a, c⟩ hc
        · exact ⟨a, by omega, c⟩
/-- A list of numbers, as integers. -/
def asI (l : List Nat) : List Int := l.map fun (i : Nat) => (i : Int)
theorem mem_asI {l : List Nat} {j : Nat} : (j : Int) ∈ asI l ↔ j ∈ l := by
  unfold asI
  rw [List.mem_map]
  constructor
  · rintro ⟨a, h, e⟩
    obtain rfl : a = j := by omega
    exact h
  · exact fun h => ⟨j, h, rfl⟩
/-- Both ways make one set. -/
theorem with_same (s : Nat) (l : List Int) (hs : s < 18446744073709551616) : setTo (asI (below s 64) ++ l) 64 = clr (ors s l) := by
  apply Nat.eq_of_testBit_eq
  intro j
  rw [setTo_bit, clr_bit]
  unfold mem
  rw [ors_bit, Bool.eq_iff_iff]
  simp only [decide_eq_true_eq, List.mem_append, mem_asI, below_mem, Bool.and_eq_true, Bool.or_eq_true]
  constructor
  · rintro ⟨a, b, c | c⟩
    · have := c.2
      unfold mem at this
      simp at this
      exact ⟨a, .inl this.2⟩
    · exact ⟨a, .inr ⟨a, b, c⟩⟩
  · rintro ⟨a, c | ⟨_, b, c⟩⟩
    · have hj : j < 64 := by
        rcases Nat.lt_or_ge j 64 with h | h
        · exact h
        · have := Nat.testBit_lt_two_pow (Nat.lt_of_lt_of_le hs (show 2 ^ 64 ≤ 2 ^ j from Nat.pow_le_pow_right (by omega) h))
          rw [this] at c; cases c
      exact ⟨a, hj, .inl ⟨hj, by unfold mem; simp [a, c]⟩⟩
    · exact ⟨a, b, .inr c⟩
end Go.Proofs.Ytidhaofojcdbaaa
