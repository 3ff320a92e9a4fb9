/-
  Plain facts on frames: what is put is got, each beginning is too short, a burst is refused.
-/
import Derived.Test.YtpcacndbagiajaaFrmI
namespace Go.Proofs.Ytpcacndbagiajaa
open Go.RowKit

/-- A frame's bytes ahead of its sum. -/
def headF (k : Nat) (l : List Int) : List Int := (k : Int) :: (be l.length 2 ++ l)
def sealF (k : Nat) (l : List Int) : List Int := headF k l ++ le4 (more 0 (headF k l))
theorem headF_len (k : Nat) (l : List Int) : (headF k l).length = l.length + 3 := by
  simp [headF, be_len]; omega
theorem sealF_len (k : Nat) (l : List Int) : (sealF k l).length = l.length + 7 := by
  rw [sealF, List.length_append, headF_len]; show _ + 4 = _; omega
theorem putF_seal {k : Nat} {l : List Int} (hk : k ≠ 0) (hl : l.length ≤ 16384) : putF k l = (sealF k l, 0) := by
  unfold putF
  rw [if_neg hk, if_neg (by omega)]
  rfl
theorem headF_isB {k : Nat} {l : List Int} (hk : k < 256) (hl : IsB l) : IsB (headF k l) := fun x hx => by
  rcases List.mem_cons.1 hx with rfl | hx
  · omega
  · exact ((be_isB _ _).append hl) x hx
theorem sealF_isB {k : Nat} {l : List Int} (hk : k < 256) (hl : IsB l) : IsB (sealF k l) := (headF_isB hk hl).append (le4_isB _)
/-- How a sealed frame begins. -/
theorem sealF_eq (k : Nat) (l : List Int) : ∃ a b r, sealF k l = (k : Int) :: a :: b :: (l ++ r) ∧ be l.length 2 = [a, b] ∧ r.length = 4 := by
  refine ⟨_, _, le4 (more 0 (headF k l)), ?_, rfl, rfl⟩
  rw [sealF, headF]
  simp [be]
theorem take_lenF {k : Nat} {l : List Int} {i : Nat} (hi : 3 ≤ i) (hl : l.length ≤ 16384) : lenF ((sealF k l).take i) = l.length ∧ ((sealF k l).take i).getD 0 0 = k := by
  obtain ⟨a, b, r, he, hb, _⟩ := sealF_eq k l
  rw [he]
  match i, hi with
  | i + 3, _ =>
    refine ⟨?_, rfl⟩
    have h2 : (((k : Int) :: a :: b :: (l ++ r)).take (i + 3)).drop 1 = a :: b :: ((l ++ r).take i) := by simp
    rw [lenF, h2]
    have h3 : (a :: b :: ((l ++ r).take i)).take 2 = [a, b] := by simp
    rw [h3, ← hb, num_be]
    omega
theorem sealF_take (k : Nat) (l : List Int) : (sealF k l).take (sealF k l).length = sealF k l := List.take_length
theorem cut_short {k : Nat} {l : List Int} (hk : k ≠ 0) (hl : l.length ≤ 16384) {i : Nat} (hi : i < (sealF k l).length) : cutF ((sealF k l).take i) = ⟨0, [], 0, 3⟩ := by
  have hlen : ((sealF k l).take i).length = i := by rw [List.length_take]; omega
  refine cut_of_err ?_ (by decide)
  by_cases h3 : i < 3
  · exact if_pos (by rw [hlen]; exact h3)
  · obtain ⟨h1, h2⟩ := take_lenF (k := k) (l := l) (i := i) (by omega) hl
    rw [sealF_len] at hi
    rw [size_lt (by rw [hlen]; exact h3), h1, h2, hlen, if_neg (by omega), if_neg (by omega), if_pos (by omega)]
theorem cut_seal {k : Nat} {l : List Int} (hk : k ≠ 0) (hl : l.length ≤ 16384) : cutF (sealF k l) = ⟨k, l, (l.length : Int) + 7, 0⟩ := by
  have hlen := sealF_len k l
  obtain ⟨h1, h2⟩ := take_lenF (k := k) (l := l) (i := (sealF k l).length) (by omega) hl
  rw [sealF_take] at h1 h2
  have hs : sizeF (sealF k l) = ((l.length : Int) + 7, 0) := by
    rw [size_lt (by omega), h1, h2, hlen, if_neg (by omega), if_neg (by omega), if_neg (by omega)]
  rw [cut_of_fit (by rw [hs]), h1, h2, List.take_of_length_le (by omega), if_pos (show fitsB (sealF k l) = true from sealed_fits (headF k l))]
  obtain ⟨a, b, r, he, _, _⟩ := sealF_eq k l
  rw [he]
  simp
theorem get_seal {k : Nat} {l : List Int} (hk : k ≠ 0) (hl : l.length ≤ 16384) : getF (sealF k l) = ⟨k, l, (l.length : Int) + 7, 0⟩ := by
  unfold getF
  rw [cut_seal hk hl, if_neg (by rw [sealF_len]; simp)]
/-- What is got as a whole fits. -/
theorem get_fits {t : List Int} (h : (getF t).err = 0) : fitsB t = true := by
  unfold getF at h
  by_cases hc : (cutF t).err = 0 ∧ (cutF t).n < (t.length : Int)
  · rw [if_pos hc] at h
    exact absurd h (by show ¬ (4 : Int) = 0; decide)
  · rw [if_neg hc] at h
    have hsz : (sizeF t).2 = 0 := by
      by_cases hz : (sizeF t).2 = 0
      · exact hz
      · exfalso
        unfold cutF at h
        rw [if_pos hz] at h
        exact hz h
    obtain ⟨hn, hle, _⟩ := sizeF_ok hsz
    have hcf := cut_of_fit hsz
    by_cases hf : fitsB (t.take (lenF t + 7)) = true
    · rw [if_pos hf] at hcf
      have hn2 : (cutF t).n = (lenF t : Int) + 7 := by rw [hcf]
      have : lenF t + 7 = t.length := by
        have := fun h2 => hc ⟨h, h2⟩
        omega
      rw [List.take_of_length_le (by omega)] at hf
      exact hf
    · rw [if_neg hf] at hcf
      rw [hcf] at h
      exact absurd h (by show ¬ (5 : Int) = 0; decide)
theorem get_turn {k : Nat} {l : List Int} (hk : k ≠ 0) (hk2 : k < 256) (hl : l.length ≤ 16384) (hb : IsB l) (bit p : Nat) :
    (((getF (turn (sealF k l) bit p 32)).err == 0) : Bool) = decide (turn (sealF k l) bit p 32 = sealF k l) := by
  have hbu := burst (sealF k l) (sealF_isB hk2 hb) bit p (sealed_fits _)
  by_cases h : turn (sealF k l) bit p 32 = sealF k l
  · rw [decide_eq_true h, h, get_seal hk hl]
    rfl
  · rw [decide_eq_false h] at hbu ⊢
    rw [beq_eq_false_iff_ne]
    intro he
    rw [get_fits he] at hbu
    cases hbu
end Go.Proofs.Ytpcacndbagiajaa
