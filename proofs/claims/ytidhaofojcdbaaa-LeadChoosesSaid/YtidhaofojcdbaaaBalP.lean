/-
  Plain facts on sets of bits: how many bits are 1, in the steps of the library; the members of a set, in order.
-/
import Derived.Test.YtidhaofojcdbaaaBase
namespace Go.Proofs.Ytidhaofojcdbaaa
open Go.RowKit

/-- The number of the low w bits of n that are 1. -/
def pc : Nat → Nat → Nat
  | 0, _ => 0
  | w + 1, n => n % 2 + pc w (n / 2)
theorem pc_top (w n : Nat) : pc (w + 1) n = pc w n + (n.testBit w).toNat := by
  induction w generalizing n with
  | zero => simp [pc, Nat.testBit_zero]; rcases Nat.mod_two_eq_zero_or_one n with h | h <;> simp [h]
  | succ w ih =>
    rw [pc, ih (n / 2), pc, Nat.testBit_succ]
    omega
theorem pc_add (v w n : Nat) : pc (v + w) n = pc v n + pc w (n / 2 ^ v) := by
  induction v generalizing n with
  | zero => simp [pc]
  | succ v ih =>
    rw [show v + 1 + w = (v + w) + 1 by omega, pc, ih, pc, Nat.div_div_eq_div_mul, Nat.pow_succ']
    omega
theorem pc_mod (v n : Nat) : pc v (n % 2 ^ v) = pc v n := by
  induction v generalizing n with
  | zero => simp [pc]
  | succ v ih =>
    rw [pc, pc, ← ih (n / 2), Nat.pow_succ']
    rw [show n % (2 * 2 ^ v) % 2 = n % 2 from Nat.mod_mul_right_mod _ _ _, show n % (2 * 2 ^ v) / 2 = n / 2 % 2 ^ v from Nat.mod_mul_right_div_self _ _ _]
theorem and_split (x y m M : Nat) (hx : x < 256) (hm : m < 256) : (x + 256 * y) &&& (m + 256 * M) = (x &&& m) + 256 * (y &&& M) := by
  have hxm : x &&& m < 256 := Nat.lt_of_le_of_lt Nat.and_le_left hx
  apply Nat.eq_of_testBit_eq
  intro i
  have key : ∀ (a b j : Nat), a < 256 → (a + 256 * b).testBit j = if j < 8 then a.testBit j else b.testBit (j - 8) := fun a b j ha => by
    rw [Nat.add_comm]
    exact Nat.testBit_two_pow_mul_add (i := 8) b ha j
  rw [Nat.testBit_and, key _ _ _ hx, key _ _ _ hm, key _ _ _ hxm]
  split <;> rw [Nat.testBit_and]
/-- A byte, k times. -/
def rep (m : Nat) : Nat → Nat
  | 0 => 0
  | k + 1 => m + 256 * rep m k
/-- k bytes, each turned by g. -/
def spread (g : Nat → Nat) : Nat → Nat → Nat
  | 0, _ => 0
  | k + 1, n => g (n % 256) + 256 * spread g k (n / 256)
def f1 (a : Nat) : Nat := (a / 2 &&& 85) + (a &&& 85)
def f2 (a : Nat) : Nat := (f1 a / 4 &&& 51) + (f1 a &&& 51)
def f3 (a : Nat) : Nat := (f2 a / 16 + f2 a) &&& 15
theorem f1_lt : ∀ a, a < 256 → f1 a < 256 := by decide +kernel
theorem f2_fine : ∀ a, a < 256 → f2 a ≤ 68 ∧ f2 a % 16 ≤ 4 := by decide +kernel
theorem f3_pc : ∀ a, a < 256 → f3 a = pc 8 a := by decide +kernel
theorem f3_le : ∀ a, a < 256 → f3 a ≤ 8 := by decide +kernel
theorem m1_cut : ∀ a, a < 256 → ∀ b, b < 2 → (a / 2 + 128 * b) &&& 85 = a / 2 &&& 85 := by decide +kernel
theorem m2_cut : ∀ a, a < 256 → ∀ b, b < 4 → (a / 4 + 64 * b) &&& 51 = a / 4 &&& 51 := by decide +kernel
theorem m3_cut (a b : Nat) : (a + 16 * b) &&& 15 = a &&& 15 := by
  have h : ∀ x, x &&& 15 = x % 16 := fun x => Nat.and_two_pow_sub_one_eq_mod x 4
  rw [h, h]; omega
theorem step1 (k n : Nat) : (n / 2 &&& rep 85 k) + (n &&& rep 85 k) = spread f1 k n := by
  induction k generalizing n with
  | zero => simp [rep, spread]
  | succ k ih =>
    have e1 : n / 2 = (n % 256 / 2 + 128 * (n / 256 % 2)) + 256 * (n / 256 / 2) := by omega
    have e2 : n = n % 256 + 256 * (n / 256) := by omega
    have h1 : n / 2 &&& rep 85 (k + 1) = (n % 256 / 2 &&& 85) + 256 * (n / 256 / 2 &&& rep 85 k) := by
      rw [e1, rep, and_split _ _ _ _ (by omega) (by omega), m1_cut _ (by omega) _ (by omega)]
    have h2 : n &&& rep 85 (k + 1) = (n % 256 &&& 85) + 256 * (n / 256 &&& rep 85 k) := by
      conv => lhs; rw [e2, rep, and_split _ _ _ _ (by omega) (by omega)]
    rw [h1, h2, spread, ← ih, f1]
    omega
theorem step2 (k n : Nat) : (spread f1 k n / 4 &&& rep 51 k) + (spread f1 k n &&& rep 51 k) = spread f2 k n := by
  induction k generalizing n with
  | zero => simp [rep, spread]
  | succ k ih =>
    have hl := f1_lt (n % 256) (by omega)
    rw [spread, spread, ← ih, rep, f2]
    generalize f1 (n % 256) = a at *
    generalize spread f1 k (n / 256) = m at *
    rw [show (a + 256 * m) / 4 = (a / 4 + 64 * (m % 4)) + 256 * (m / 4) by omega, and_split _ _ _ _ (by omega) (by omega), and_split _ _ _ _ (by omega) (by omega), m2_cut _ (by omega) _ (by omega)]
    omega
theorem step3 (k n : Nat) : (spread f2 k n / 16 + spread f2 k n) &&& rep 15 k = spread f3 k n := by
  induction k generalizing n with
  | zero => simp [rep, spread]
  | succ k ih =>
    obtain ⟨hl, hm⟩ := f2_fine (n % 256) (by omega)
    rw [spread, spread, ← ih, rep, f3]
    have hm2 : spread f2 k (n / 256) % 16 ≤ 4 := by
      cases k with
      | zero => simp [spread]
      | succ k =>
        rw [spread]
        have := (f2_fine (n / 256 % 256) (by omega)).2
        omega
    generalize f2 (n % 256) = a at *
    generalize spread f2 k (n / 256) = m at *
    rw [show (a + 256 * m) / 16 + (a + 256 * m) = (a / 16 + a + 16 * (m % 16)) + 256 * (m / 16 + m) by omega, and_split _ _ _ _ (by omega) (by omega), m3_cut]
theorem spread_pc (n : Nat) : ∃ f : Nat → Nat, (∀ i, f i ≤ 8) ∧ spread f3 8 n = f 0 + 256 * (f 1 + 256 * (f 2 + 256 * (f 3 + 256 * (f 4 + 256 * (f 5 + 256 * (f 6 + 256 * f 7)))))) ∧ pc 64 n = f 0 + f 1 + f 2 + f 3 + f 4 + f 5 + f 6 + f 7 := by
  refine ⟨fun i => f3 (n / 256 ^ i % 256), fun i => f3_le _ (Nat.mod_lt _ (by omega)), ?_, ?_⟩
  · simp only [spread, Nat.div_div_eq_div_mul]
    simp
  · have h8 : ∀ w m, pc (8 + w) m = f3 (m % 256) + pc w (m / 256) := fun w m => by
      rw [pc_add, f3_pc _ (by omega)]
      rw [show (256 : Nat) = 2 ^ 8 from rfl, pc_mod]
    rw [show 64 = 8 + (8 + (8 + (8 + (8 + (8 + (8 + (8 + 0))))))) from rfl]
    simp only [h8, Nat.div_div_eq_div_mul]
    simp [pc]
    omega
theorem low128 (x y : Nat) (n : Nat) (h : n = x + 256 * y) (hx : x < 128) : n % 128 = x := by omega

/-- The steps of counting, the last ones. -/
theorem fold (T a b c d e f g h : Nat) (ha : a ≤ 8) (hb : b ≤ 8) (hc : c ≤ 8) (hd : d ≤ 8) (he : e ≤ 8) (hf : f ≤ 8) (hg : g ≤ 8) (hh : h ≤ 8)
    (hT : T = a + 256 * (b + 256 * (c + 256 * (d + 256 * (e + 256 * (f + 256 * (g + 256 * h))))))) :
    T + T / 256 + (T + T / 256) / 65536 + (T + T / 256 + (T + T / 256) / 65536) / 4294967296 < 18446744073709551616 ∧
    (T + T / 256 + (T + T / 256) / 65536 + (T + T / 256 + (T + T / 256) / 65536) / 4294967296) % 128 = a + b + c + d + e + f + g + h := by
  have q1 : T / 256 = b + 256 * (c + 256 * (d + 256 * (e + 256 * (f + 256 * (g + 256 * h))))) := by omega
  obtain ⟨U, hU⟩ : ∃ U, U = T + T / 256 := ⟨_, rfl⟩
  rw [← hU]
  rw [q1, hT] at hU
  have q2 : U / 65536 = (c + d) + 256 * ((d + e) + 256 * ((e + f) + 256 * ((f + g) + 256 * ((g + h) + 256 * h)))) := by omega
  obtain ⟨V, hV⟩ : ∃ V, V = U + U / 65536 := ⟨_, rfl⟩
  rw [← hV]
  rw [q2, hU] at hV
  have q3 : V / 4294967296 = (e + f + (g + h)) + 256 * ((f + g + h) + 256 * ((g + h) + 256 * h)) := by omega
  have hlt : V + V / 4294967296 < 18446744073709551616 := by
    have : V < 651061555542690058 * 10 := by clear q1 q2 q3; omega
    clear q1 q2 q3 hT hU hV
    omega
  refine ⟨hlt, ?_⟩
  rw [q3, hV]
  clear q1 q2 q3 hT hU hV
  exact low128 (a + b + c + d + e + f + g + h) ((b + c + d + e + f + g + h) + 256 * ((c + d + e + f + g + h) + 256 * ((d + e + f + g + h) + 256 * ((e + f + g + h) + 256 * ((f + g + h) + 256 * ((g + h) + 256 * h)))))) _ (by omega) (by omega)

/-- Whether i is a member of the set s. -/
def mem (s i : Nat) : Bool := decide (1 ≤ i) && s.testBit i
/-- The members below k, in order. -/
def below (s k : Nat) : List Nat := (List.range k).filter (mem s)
theorem below_succ (s k : Nat) : below s (k + 1) = below s k ++ if mem s k then [k] else [] := by
  unfold below
  rw [List.range_succ, List.filter_append]
  congr 1
  cases h : mem s k <;> simp [h]
theorem below_yes {s k : Nat} (h : mem s k = true) : below s (k + 1) = below s k ++ [k] := by rw [below_succ, h]; rfl
theorem below_no {s k : Nat} (h : mem s k = false) : below s (k + 1) = below s k := by rw [below_succ, h]; simp
theorem below_zero (s : Nat) : below s 0 = [] := rfl
theorem below_one (s : Nat) : below s 1 = [] := by rw [below_no (by simp [mem])]; rfl
theorem below_len (s k : Nat) : (below s k).length ≤ k := by
  have := List.length_filter_le (mem s) (List.range k)
  simpa [below] using this
theorem below_mem {s k i : Nat} : i ∈ below s k ↔ i < k ∧ mem s i = true := by simp [below]
/-- Without bit 0. -/
def clr (s : Nat) : Nat := s / 2 * 2
theorem clr_bit (s i : Nat) : (clr s).testBit i = mem s i := by
  unfold clr mem
  cases i with
  | zero => simp [Nat.testBit_zero]
  | succ i => rw [Nat.testBit_succ, Nat.mul_div_cancel _ (by omega), Nat.testBit_succ]; simp
theorem below_pc (s k : Nat) : (below s k).length = pc k (clr s) := by
  induction k with
  | zero => rfl
  | succ k ih =>
    rw [below_succ, pc_top, clr_bit, ← ih, List.length_append]
    cases mem s k <;> simp
theorem and_not_one (s : Nat) (hs : s < 18446744073709551616) : s &&& (18446744073709551615 - 1) = clr s := by
  apply Nat.eq_of_testBit_eq
  intro i
  rw [Nat.testBit_and, clr_bit]
  cases i with
  | zero => simp [mem]
  | succ i =>
    rw [Nat.testBit_succ (18446744073709551615 - 1)]
    rw [show (18446744073709551615 - 1) / 2 = 2 ^ 63 - 1 from rfl, Nat.testBit_two_pow_sub_one]
    by_cases hi : i < 63
    · simp [mem, hi]
    · have : s.testBit (i + 1) = false := Nat.testBit_lt_two_pow (Nat.lt_of_lt_of_le hs (show 2 ^ 64 ≤ 2 ^ (i + 1) from Nat.pow_le_pow_right (by omega) (by omega)))
      simp [mem, this]
end Go.Proofs.Ytidhaofojcdbaaa
