/-
  Plain facts on checksums: shifting is linear, and the table does eight shifts at once.
-/
import Derived.Test.YtpcacndbagiajaaTab
namespace Go.Proofs.Ytpcacndbagiajaa
open Go.RowKit

theorem xor_half_div (a b : Nat) : (a ^^^ b) / 2 = a / 2 ^^^ b / 2 := by
  have := Nat.shiftRight_xor_distrib (a := a) (b := b) (i := 1)
  simpa [Nat.shiftRight_eq_div_pow] using this
theorem xor_par (a b : Nat) : (a ^^^ b) % 2 = (a % 2 + b % 2) % 2 := by
  have h : (a ^^^ b).testBit 0 = (a.testBit 0 ^^ b.testBit 0) := Nat.testBit_xor a b 0
  simp only [Nat.testBit_zero] at h
  rcases Nat.mod_two_eq_zero_or_one a with ha | ha <;> rcases Nat.mod_two_eq_zero_or_one b with hb | hb <;> rcases Nat.mod_two_eq_zero_or_one (a ^^^ b) with hc | hc <;> rw [ha, hb, hc] at h <;> simp at h <;> omega
theorem half_xor (a b : Nat) : half (a ^^^ b) = half a ^^^ half b := by
  unfold half
  rw [xor_par, xor_half_div]
  rcases Nat.mod_two_eq_zero_or_one a with ha | ha <;> rcases Nat.mod_two_eq_zero_or_one b with hb | hb <;> rw [ha, hb]
  · simp
  · simp only [Nat.zero_add, if_true, if_neg (by decide : ¬ (0 : Nat) = 1)]
    rw [Nat.xor_assoc]
  · simp only [Nat.add_zero, if_true, if_neg (by decide : ¬ (0 : Nat) = 1)]
    rw [Nat.xor_assoc, Nat.xor_comm (b / 2), ← Nat.xor_assoc]
  · simp only [if_true, if_neg (by decide : ¬ (1 + 1 : Nat) % 2 = 1)]
    rw [Nat.xor_assoc, ← Nat.xor_assoc 3988292384, Nat.xor_comm 3988292384, Nat.xor_assoc (b / 2), Nat.xor_self, Nat.xor_zero]
theorem halves_xor (k a b : Nat) : halves k (a ^^^ b) = halves k a ^^^ halves k b := by
  induction k with
  | zero => rfl
  | succ k ih => rw [halves, halves, halves, ih, half_xor]
theorem halves_shift (k a : Nat) : halves k (2 ^ k * a) = a := by
  have key : ∀ k j a, j ≤ k → halves j (2 ^ k * a) = 2 ^ (k - j) * a := by
    intro k j a
    induction j with
    | zero => intro _; rfl
    | succ j ih =>
      intro hj
      rw [halves, ih (by omega)]
      have e : 2 ^ (k - j) * a = 2 * (2 ^ (k - (j + 1)) * a) := by
        rw [← Nat.mul_assoc, ← Nat.pow_succ', show (k - (j + 1)).succ = k - j by omega]
      rw [e]
      unfold half
      rw [if_neg (by omega)]
      omega
  have := key k k a (Nat.le_refl _)
  simpa using this
/-- The state behind a byte. -/
def step (s x : Nat) : Nat := halves 8 (s ^^^ x)
theorem step_tab (s x : Nat) : step s x = s / 256 ^^^ tab ((s % 256) ^^^ x) := by
  have h1 : s = 256 * (s / 256) ^^^ s % 256 := by
    apply Nat.eq_of_testBit_eq
    intro i
    rw [Nat.testBit_xor]
    by_cases hi : i < 8
    · have e1 : (256 * (s / 256)).testBit i = false := by
        rw [show 256 * (s / 256) = 2 ^ 8 * (s / 256) from rfl, Nat.testBit_two_pow_mul]
        simp; omega
      rw [e1, show (256 : Nat) = 2 ^ 8 from rfl, Nat.testBit_mod_two_pow]
      simp [hi]
    · have e2 : (s % 256).testBit i = false := by
        rw [show (256 : Nat) = 2 ^ 8 from rfl, Nat.testBit_mod_two_pow]
        simp [hi]
      rw [e2, show 256 * (s / 256) = 2 ^ 8 * (s / 2 ^ 8) from rfl, Nat.testBit_two_pow_mul, Nat.testBit_div_two_pow]
      simp [show 8 ≤ i by omega, show i - 8 + 8 = i by omega]
  unfold step tab
  have h2 : s ^^^ x = 256 * (s / 256) ^^^ (s % 256 ^^^ x) := by
    rw [← Nat.xor_assoc, ← h1]
  rw [h2, halves_xor, show 256 * (s / 256) = 2 ^ 8 * (s / 256) from rfl, halves_shift]
theorem step_lt (s x : Nat) (hs : s < 4294967296) (hx : x < 256) : step s x < 4294967296 :=
  halves_lt 8 _ (Nat.xor_lt_two_pow (n := 32) hs (by show x < 2 ^ 32; omega))
/-- The state behind some bytes. -/
def on (s : Nat) (l : List Int) : Nat := l.foldl (fun s x => step s x.toNat) s
theorem on_lt (s : Nat) (l : List Int) (hs : s < 4294967296) (hl : IsB l) : on s l < 4294967296 := by
  induction l generalizing s with
  | nil => exact hs
  | cons x l ih =>
    have hx := hl x (by simp)
    exact ih _ (step_lt s x.toNat hs (by omega)) (fun y hy => hl y (by simp [hy]))
theorem on_snoc (s : Nat) (l : List Int) (x : Int) : on s (l ++ [x]) = step (on s l) x.toNat := by simp [on]
theorem on_append (s : Nat) (l m : List Int) : on s (l ++ m) = on (on s l) m := by simp [on]
/-- Each bit the other way round. -/
def oth (s : Nat) : Nat := s ^^^ 4294967295
theorem oth_lt (s : Nat) (h : s < 4294967296) : oth s < 4294967296 := Nat.xor_lt_two_pow (n := 32) h (by decide)
theorem oth_oth (s : Nat) : oth (oth s) = s := by
  unfold oth
  rw [Nat.xor_assoc, Nat.xor_self, Nat.xor_zero]
def more (sum : Nat) (l : List Int) : Nat := oth (on (oth sum) l)
theorem more_lt (sum : Nat) (l : List Int) (hs : sum < 4294967296) (hl : IsB l) : more sum l < 4294967296 := oth_lt _ (on_lt _ l (oth_lt _ hs) hl)
theorem more_append (sum : Nat) (l m : List Int) : more sum (l ++ m) = more (more sum l) m := by
  unfold more
  rw [oth_oth, on_append]
end Go.Proofs.Ytpcacndbagiajaa
