/-
  Plain facts on what is put and read again.
-/
import Derived.Test.YtnkkbajlmpccmaaItems
namespace Go.Proofs.Ytnkkbajlmpccmaa
open Go.RowKit

/-- The bytes of the first items. -/
def cat (it : Nat → Itm) : Nat → List Int
  | 0 => []
  | j + 1 => cat it j ++ (it j).bytes
theorem cat_len (it : Nat → Itm) (j : Nat) : (cat it j).length ≤ 70 * j := by
  induction j with
  | zero => simp [cat]
  | succ j ih =>
    have := (it j).bytes_len
    simp only [cat, List.length_append]
    omega
theorem cat_split (it : Nat → Itm) (j n : Nat) (h : j < n) : ∃ r, cat it n = cat it j ++ ((it j).bytes ++ r) := by
  induction n with
  | zero => omega
  | succ n ih =>
    by_cases hj : j = n
    · subst hj
      exact ⟨[], by simp [cat]⟩
    · obtain ⟨r, hr⟩ := ih (by omega)
      exact ⟨r ++ (it n).bytes, by simp [cat, hr]⟩

theorem raw_back (l r : List Int) (k : Nat) (h : l.length = k) : (⟨l ++ r, 0⟩ : ISt).raw k = (⟨r, 0⟩, l) := by
  unfold ISt.raw
  rw [if_pos rfl, if_neg (by omega), if_neg (by simp only [List.length_append]; omega), Int.toNat_natCast, ← h]
  simp
theorem get_back (n k : Nat) (r : List Int) (h1 : 1 ≤ k) (h8 : k ≤ 8) (hn : n < 256 ^ k) : (⟨be n k ++ r, 0⟩ : ISt).get k = (⟨r, 0⟩, (n : Int)) := by
  unfold ISt.get
  rw [if_neg (by omega), raw_back _ _ k (be_len n k)]
  simp only [num_be, Nat.mod_eq_of_lt hn]
theorem text_back (l r : List Int) (h : l.length ≤ 60) : (⟨be l.length 2 ++ l ++ r, 0⟩ : ISt).text 60 = (⟨r, 0⟩, l) := by
  rw [ISt.text_eq, List.append_assoc]
  have := get_back l.length 2 (l ++ r) (by omega) (by omega) (by omega)
  rw [show ((2 : Nat) : Int) = 2 from rfl] at this
  rw [this]
  simp only [if_true]
  rw [if_neg (by omega), raw_back l r l.length rfl]
theorem bool_back (q : Nat) (r : List Int) (h : q < 2) : (⟨(q : Int) :: r, 0⟩ : ISt).upto 1 1 = (⟨r, 0⟩, (q : Int)) := by
  have := raw_back [(q : Int)] r 1 rfl
  rw [show ((1 : Nat) : Int) = 1 from rfl] at this
  have e : (⟨(q : Int) :: r, 0⟩ : ISt).raw 1 = (⟨r, 0⟩, [(q : Int)]) := this
  have hn : num [(q : Int)] = q := by simp [num]
  unfold ISt.upto
  rw [if_neg (by omega), e]
  simp only [if_true]
  rw [hn, if_neg (by omega)]
theorem putErr_zero (n : Nat) (w : Int) (h : putErr n w = 0) : ∃ k : Nat, w = k ∧ 1 ≤ k ∧ k ≤ 8 ∧ n < 256 ^ k ∧ putBytes n w = be n k := by
  have h0 := h
  unfold putErr at h
  split at h
  · cases h
  · rename_i hw
    obtain ⟨k, rfl⟩ := Int.eq_ofNat_of_zero_le (show 0 ≤ w by omega)
    refine ⟨k, rfl, by omega, by omega, ?_, by unfold putBytes; rw [if_pos h0, Int.toNat_natCast]⟩
    simp only [Int.toNat_natCast] at h
    split at h
    · rename_i hz
      rcases Nat.lt_or_ge n (256 ^ k) with h1 | h1
      · exact h1
      · have hp : 0 < 256 ^ k := Nat.pow_pos (by decide)
        have := Nat.div_pos h1 hp
        omega
    · cases h
end Go.Proofs.Ytnkkbajlmpccmaa
