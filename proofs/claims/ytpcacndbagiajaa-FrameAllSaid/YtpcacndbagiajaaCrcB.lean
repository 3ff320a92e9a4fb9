/-
  Plain words on bursts: a state behind bytes is one shift of all of them; what fits, by its state; bits that are flipped; a burst is found.
-/
import Derived.Test.YtpcacndbagiajaaCrcF
namespace Go.Proofs.Ytpcacndbagiajaa
open Go.RowKit

/-! ### bursts -/
/-- Bytes as one number, the first one lowest. -/
def le : List Int → Nat
  | [] => 0
  | x :: l => x.toNat + 256 * le l
theorem le_lt (l : List Int) (h : IsB l) : le l < 2 ^ (8 * l.length) := by
  induction l with
  | nil => simp [le]
  | cons x l ih =>
    have hx := h x (by simp)
    have := ih (fun y hy => h y (by simp [hy]))
    rw [le, List.length_cons, show 8 * (l.length + 1) = 8 * l.length + 8 by omega, Nat.pow_add]
    have h2 : (2 : Nat) ^ 8 = 256 := rfl
    omega
theorem le_inj (l m : List Int) (hl : IsB l) (hm : IsB m) (hn : l.length = m.length) (h : le l = le m) : l = m := by
  induction l generalizing m with
  | nil => cases m with
    | nil => rfl
    | cons y m => simp at hn
  | cons x l ih => cases m with
    | nil => simp at hn
    | cons y m =>
      have hx := hl x (by simp)
      have hy := hm y (by simp)
      simp only [le] at h
      have e1 : x.toNat = y.toNat := by omega
      have e2 : le l = le m := by omega
      rw [ih m (fun z hz => hl z (by simp [hz])) (fun z hz => hm z (by simp [hz])) (by simpa using hn) e2, show x = y by omega]
theorem le_append (l m : List Int) (hl : IsB l) : le (l ++ m) = le l + 2 ^ (8 * l.length) * le m := by
  induction l with
  | nil => simp [le]
  | cons x l ih =>
    rw [List.cons_append, le, le, ih (fun z hz => hl z (by simp [hz])), List.length_cons, show 8 * (l.length + 1) = 8 * l.length + 8 by omega, Nat.pow_add, Nat.mul_add]
    rw [show (2 : Nat) ^ 8 = 256 from rfl, Nat.mul_comm (2 ^ (8 * l.length)) 256, Nat.mul_assoc, Nat.add_assoc]
theorem le_le4 (x : Nat) (h : x < 4294967296) : le (le4 x) = x := by
  simp only [le, le4, Int.toNat_natCast]
  omega
/-- Adding above is xor. -/
theorem add_xor (a b k : Nat) (h : a < 2 ^ k) : a + 2 ^ k * b = a ^^^ 2 ^ k * b := by
  apply Nat.eq_of_testBit_eq
  intro i
  rw [Nat.add_comm, Nat.testBit_two_pow_mul_add b h i, Nat.testBit_xor, Nat.testBit_two_pow_mul]
  by_cases hi : i < k
  · rw [if_pos hi]
    simp [show ¬ k ≤ i by omega]
  · have e : a.testBit i = false := Nat.testBit_lt_two_pow (Nat.lt_of_lt_of_le h (Nat.pow_le_pow_right (by decide) (by omega)))
    rw [if_neg hi, e]
    simp [show k ≤ i by omega]
theorem halves_add (a b s : Nat) : halves (a + b) s = halves a (halves b s) := by
  induction a with
  | zero => simp [halves]
  | succ a ih => rw [show a + 1 + b = (a + b) + 1 by omega, halves, halves, ih]
/-- A state behind bytes is one shift of all of them. -/
theorem on_halves (s : Nat) (l : List Int) (h : IsB l) : on s l = halves (8 * l.length) (s ^^^ le l) := by
  induction l generalizing s with
  | nil => simp [on, le, halves]
  | cons x l ih =>
    have hx := h x (by simp)
    show on (step s x.toNat) l = _
    rw [ih _ (fun y hy => h y (by simp [hy])), List.length_cons, show 8 * (l.length + 1) = 8 * l.length + 8 by omega, halves_add]
    congr 1
    have e : le (x :: l) = x.toNat ^^^ 2 ^ 8 * le l := by
      rw [le, show (256 : Nat) = 2 ^ 8 from rfl]
      exact add_xor _ _ 8 (by show x.toNat < 256; omega)
    rw [e, ← Nat.xor_assoc, halves_xor, halves_shift]
    rfl
theorem xor_cancel {a b c : Nat} (h : a ^^^ b = a ^^^ c) : b = c := by
  have := congrArg (fun x => a ^^^ x) h
  simpa [← Nat.xor_assoc] using this
theorem xor_zero_eq {a b : Nat} (h : a ^^^ b = 0) : a = b := by
  refine (xor_cancel (a := a) ?_).symm
  rw [h, Nat.xor_self]
theorem half_zero (s : Nat) (h : s < 4294967296) (h0 : half s = 0) : s = 0 := by
  unfold half at h0
  split at h0
  · have := xor_zero_eq h0
    omega
  · omega
theorem halves_zero (k s : Nat) (h : s < 4294967296) (h0 : halves k s = 0) : s = 0 := by
  induction k with
  | zero => exact h0
  | succ k ih => exact ih (half_zero _ (halves_lt k s h) h0)
theorem halves_nought (k : Nat) : halves k 0 = 0 := by
  induction k with
  | zero => rfl
  | succ k ih => rw [halves, ih]; rfl
theorem oth_more (m : List Int) : oth (more 0 m) = on 4294967295 m := by
  unfold more
  rw [oth_oth]
  unfold oth
  rw [Nat.zero_xor]
theorem oth_self (v : Nat) : oth v ^^^ v = 4294967295 := by
  unfold oth
  rw [Nat.xor_comm v, Nat.xor_assoc, Nat.xor_self, Nat.xor_zero]
/-- What fits, by its state. -/
theorem fits_on (l : List Int) (h : IsB l) (h4 : 4 ≤ l.length) : fitsB l = decide (on 4294967295 l = halves 32 4294967295) := by
  have hs : l = l.take (l.length - 4) ++ l.drop (l.length - 4) := (List.take_append_drop _ _).symm
  generalize hm : l.take (l.length - 4) = m at hs
  generalize ht : l.drop (l.length - 4) = t at hs
  have hmB : IsB m := by rw [← hm]; exact h.take _
  have htB : IsB t := by rw [← ht]; exact h.drop _
  have htl : t.length = 4 := by rw [← ht, List.length_drop]; omega
  have hv : more 0 m < 4294967296 := more_lt _ _ (by decide) hmB
  have hlt : le t < 4294967296 := by have := le_lt t htB; rw [htl] at this; exact this
  have hon : on 4294967295 l = halves 32 (oth (more 0 m) ^^^ le t) := by
    rw [hs, on_append, on_halves _ t htB, htl, oth_more]
  unfold fitsB
  rw [hm, ht, decide_eq_true h4, Bool.true_and, hon]
  refine decide_eq_decide.2 ⟨fun e => ?_, fun e => ?_⟩
  · rw [← e, le_le4 _ hv, oth_self]
  · have e2 : halves 32 ((oth (more 0 m) ^^^ le t) ^^^ 4294967295) = 0 := by rw [halves_xor, e, Nat.xor_self]
    have e3 := halves_zero 32 _ (Nat.xor_lt_two_pow (n := 32) (Nat.xor_lt_two_pow (n := 32) (oth_lt _ hv) hlt) (by decide)) e2
    have e4 : le t = more 0 m := by
      have e5 := xor_zero_eq e3
      rw [← oth_self (more 0 m)] at e5
      exact xor_cancel e5
    exact le_inj _ _ (le4_isB _) htB (by rw [htl]; rfl) (by rw [le_le4 _ hv, e4])
theorem mul_xor (k a b : Nat) : 2 ^ k * (a ^^^ b) = 2 ^ k * a ^^^ 2 ^ k * b := by
  apply Nat.eq_of_testBit_eq
  intro q
  simp only [Nat.testBit_xor, Nat.testBit_two_pow_mul]
  by_cases hq : k ≤ q <;> simp [hq]
/-- One bit flipped, if it is there. -/
def flip (l : List Int) (at_ : Nat) : List Int := if at_ / 8 < l.length then l.set (at_ / 8) ((((l.getD (at_ / 8) 0).toNat ^^^ 2 ^ (at_ % 8) : Nat)) : Int) else l
/-- The first k bits of a pattern flipped from bit on. -/
def turn (l : List Int) (bit p : Nat) : Nat → List Int
  | 0 => l
  | k + 1 => if p / 2 ^ k % 2 = 1 then flip (turn l bit p k) (bit + k) else turn l bit p k
theorem flip_len (l : List Int) (i : Nat) : (flip l i).length = l.length := by
  unfold flip; split <;> simp
theorem turn_len (l : List Int) (bit p k : Nat) : (turn l bit p k).length = l.length := by
  induction k with
  | zero => rfl
  | succ k ih => rw [turn]; split <;> simp [flip_len, ih]
theorem bit_lt {x : Int} (h0 : 0 ≤ x) (h1 : x < 256) {j : Nat} (hj : j < 8) : x.toNat ^^^ 2 ^ j < 256 :=
  Nat.xor_lt_two_pow (n := 8) (by show x.toNat < 256; omega) (Nat.pow_lt_pow_right (by decide) hj)
theorem IsB.set {l : List Int} (h : IsB l) (i : Nat) {x : Int} (h0 : 0 ≤ x) (h1 : x < 256) : IsB (l.set i x) := fun y hy => by
  rcases List.mem_or_eq_of_mem_set hy with hy | rfl
  · exact h y hy
  · exact ⟨h0, h1⟩
theorem flip_isB {l : List Int} (h : IsB l) (i : Nat) : IsB (flip l i) := by
  unfold flip
  split
  · have := bit_lt (h.getD (i / 8)).1 (h.getD (i / 8)).2 (j := i % 8) (by omega)
    exact h.set _ (by omega) (by omega)
  · exact h
theorem turn_isB {l : List Int} (h : IsB l) (bit p k : Nat) : IsB (turn l bit p k) := by
  induction k with
  | zero => exact h
  | succ k ih =>
    rw [turn]
    split
    · exact flip_isB ih _
    · exact ih
theorem le_set (l : List Int) (h : IsB l) (i j : Nat) (hi : i < l.length) (hj : j < 8) : le (l.set i ((((l.getD i 0).toNat ^^^ 2 ^ j : Nat)) : Int)) = le l ^^^ 2 ^ (8 * i + j) := by
  induction l generalizing i with
  | nil => simp at hi
  | cons x l ih =>
    have hx := h x (by simp)
    have hl : IsB l := fun y hy => h y (by simp [hy])
    have hlt := bit_lt hx.1 hx.2 hj
    have hxx : x.toNat < 2 ^ 8 := by show x.toNat < 256; omega
    have e0 : le (x :: l) = x.toNat ^^^ 2 ^ 8 * le l := by
      rw [le, show (256 : Nat) = 2 ^ 8 from rfl]
      exact add_xor _ _ 8 hxx
    cases i with
    | zero =>
      rw [e0]
      simp only [List.set_cons_zero, List.getD_cons_zero, le, Int.toNat_natCast, Nat.mul_zero, Nat.zero_add]
      rw [show (256 : Nat) = 2 ^ 8 from rfl, add_xor _ _ 8 (by show _ < 256; exact hlt), Nat.xor_assoc, Nat.xor_assoc, Nat.xor_comm (2 ^ j)]
    | succ i =>
      rw [e0]
      simp only [List.set_cons_succ, List.getD_cons_succ, le]
      rw [ih hl i (by simpa using hi), show (256 : Nat) = 2 ^ 8 from rfl, add_xor _ _ 8 hxx, Nat.xor_assoc]
      congr 1
      rw [show 8 * (i + 1) + j = 8 + (8 * i + j) by omega, Nat.pow_add 2 8, mul_xor]
theorem le_flip (l : List Int) (h : IsB l) (i : Nat) : le (flip l i) = le l ^^^ (if i < 8 * l.length then 2 ^ i else 0) := by
  unfold flip
  by_cases hi : i / 8 < l.length
  · rw [if_pos hi, if_pos (by omega), le_set l h _ _ hi (by omega), show 8 * (i / 8) + i % 8 = i by omega]
  · rw [if_neg hi, if_neg (by omega), Nat.xor_zero]
/-- What a turn does to the number. -/
theorem le_turn (l : List Int) (h : IsB l) (bit p k : Nat) : ∃ d, d < 2 ^ k ∧ le (turn l bit p k) = le l ^^^ 2 ^ bit * d ∧ (d = 0 ∨ 2 ^ bit * d < 2 ^ (8 * l.length)) := by
  induction k with
  | zero => exact ⟨0, by simp, by simp [turn], .inl rfl⟩
  | succ k ih =>
    obtain ⟨d, hd, he, hb⟩ := ih
    have hdk : d < 2 ^ (k + 1) := Nat.lt_of_lt_of_le hd (Nat.pow_le_pow_right (by decide) (by omega))
    rw [turn]
    split
    · rw [le_flip _ (turn_isB h _ _ _), turn_len, he]
      by_cases hi : bit + k < 8 * l.length
      · refine ⟨d ^^^ 2 ^ k, Nat.xor_lt_two_pow hdk (Nat.pow_lt_pow_right (by decide) (by omega)), ?_, .inr ?_⟩
        · rw [if_pos hi, Nat.xor_assoc, Nat.pow_add, mul_xor]
        · have e : 2 ^ bit * (d ^^^ 2 ^ k) = 2 ^ bit * d ^^^ 2 ^ (bit + k) := by
            rw [Nat.pow_add, mul_xor]
          rw [e]
          refine Nat.xor_lt_two_pow ?_ (Nat.pow_lt_pow_right (by decide) hi)
          rcases hb with rfl | hb
          · rw [Nat.mul_zero]; exact Nat.pow_pos (by decide)
          · exact hb
      · exact ⟨d, hdk, by rw [if_neg hi, Nat.xor_zero], hb⟩
    · exact ⟨d, hdk, he, hb⟩
theorem sealed_fits (l : List Int) : fitsB (l ++ le4 (more 0 l)) = true := by
  unfold fitsB
  simp [le4]
/-- A burst is found. -/
theorem burst (l : List Int) (h : IsB l) (bit p : Nat) (hf : fitsB l = true) : fitsB (turn l bit p 32) = decide (turn l bit p 32 = l) := by
  have h4 : 4 ≤ l.length := by
    unfold fitsB at hf
    simp only [Bool.and_eq_true, decide_eq_true_eq] at hf
    exact hf.1
  obtain ⟨d, hd, he, hb⟩ := le_turn l h bit p 32
  have htB := turn_isB h bit p 32
  have htl := turn_len l bit p 32
  rw [fits_on _ htB (by omega)]
  rw [fits_on _ h h4] at hf
  have hf2 := of_decide_eq_true hf
  rw [on_halves _ _ h] at hf2
  rw [on_halves _ _ htB, htl, he, ← Nat.xor_assoc, halves_xor, hf2]
  refine decide_eq_decide.2 ⟨fun e => ?_, fun e => ?_⟩
  · have e1 : halves (8 * l.length) (2 ^ bit * d) = 0 := by
      have : halves 32 4294967295 ^^^ halves (8 * l.length) (2 ^ bit * d) = halves 32 4294967295 ^^^ 0 := by rw [e, Nat.xor_zero]
      exact xor_cancel this
    have e2 : d = 0 := by
      rcases hb with hb | hb
      · exact hb
      · rcases Nat.lt_or_ge bit (8 * l.length) with hlt | hge
        · rw [show 8 * l.length = (8 * l.length - bit) + bit by omega, halves_add, halves_shift] at e1
          exact halves_zero _ d (by simpa using hd) e1
        · rcases Nat.eq_zero_or_pos d with h0 | h0
          · exact h0
          · have : 2 ^ (8 * l.length) ≤ 2 ^ bit := Nat.pow_le_pow_right (by decide) hge
            have h3 : 2 ^ bit * 1 ≤ 2 ^ bit * d := Nat.mul_le_mul_left _ h0
            omega
    exact le_inj _ _ htB h htl (by rw [he, e2, Nat.mul_zero, Nat.xor_zero])
  · rw [e] at he
    have e1 : 2 ^ bit * d = 0 := by
      have : le l ^^^ 0 = le l ^^^ 2 ^ bit * d := by rw [Nat.xor_zero]; exact he
      exact (xor_cancel this).symm
    rw [e1, halves_nought, Nat.xor_zero]
end Go.Proofs.Ytpcacndbagiajaa
