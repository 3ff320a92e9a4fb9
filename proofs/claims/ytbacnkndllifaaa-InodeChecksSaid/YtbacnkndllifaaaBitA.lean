/-
  Bitmaps, plainly: the bits of bytes; bytes are told by their bits; one bit turned; the numbers that are had.
-/
import Derived.Test.YtbacnkndllifaaaBase
namespace Go.Proofs.Ytbacnkndllifaaa
open Go.RowKit
set_option linter.unusedVariables false

/-- The bit i of these bytes. -/
def bitN (l : List Int) (i : Nat) : Bool := (l.getD (i / 8) 0).toNat.testBit (i % 8)
def bitI (l : List Int) (i : Int) : Bool := decide (0 ≤ i) && bitN l i.toNat
/-- How many bytes n bits have. -/
def byt (n : Nat) : Nat := (n + 7) / 8
theorem byt_le (n : Nat) : n ≤ 8 * byt n := by unfold byt; omega
theorem byt_lt (n : Nat) : 8 * byt n < n + 8 := by unfold byt; omega
/-- A bitmap of n. -/
def fitB (l : List Int) (n : Int) : Bool := decide (0 ≤ n ∧ n ≤ 4096 ∧ (l = [] ∨ l.length = byt n.toNat) ∧ ∀ i, i < 8 * l.length → n.toNat ≤ i → bitN l i = false)

theorem bitN_ge {l : List Int} {i : Nat} (h : 8 * l.length ≤ i) : bitN l i = false := by
  unfold bitN
  rw [List.getD_eq_getElem?_getD, List.getElem?_eq_none (by omega)]
  simp
theorem bitN_nil (i : Nat) : bitN [] i = false := bitN_ge (by simp)
theorem bitN_zero (m i : Nat) : bitN (List.replicate m 0) i = false := by
  unfold bitN
  rw [List.getD_eq_getElem?_getD]
  by_cases h : i / 8 < m
  · rw [List.getElem?_replicate, if_pos h]; simp
  · rw [List.getElem?_replicate, if_neg h]; simp
theorem bits_ext {l m : List Int} (hl : IsB l) (hm : IsB m) (hlen : l.length = m.length) (h : ∀ i, i < 8 * l.length → bitN l i = bitN m i) : l = m := by
  refine List.ext_getElem hlen fun j h1 h2 => ?_
  have x1 := hl _ (List.getElem_mem h1)
  have y1 := hm _ (List.getElem_mem h2)
  have key : (l[j]).toNat = (m[j]).toNat := by
    refine Nat.eq_of_testBit_eq fun k => ?_
    by_cases hk : k < 8
    · have := h (8 * j + k) (by omega)
      unfold bitN at this
      rw [show (8 * j + k) / 8 = j by omega, show (8 * j + k) % 8 = k by omega] at this
      simpa [List.getD_eq_getElem?_getD, List.getElem?_eq_getElem h1, List.getElem?_eq_getElem h2] using this
    · have e : (256 : Nat) ≤ 2 ^ k := Nat.le_trans (show 256 ≤ 2 ^ 8 by decide) (Nat.pow_le_pow_right (by decide) (by omega))
      rw [Nat.testBit_lt_two_pow (by omega), Nat.testBit_lt_two_pow (by omega)]
  omega

/-! ### one byte, one bit turned -/
def onB (x k : Nat) : Nat := x ||| 2 ^ k
def offB (x k : Nat) : Nat := x &&& (255 - 2 ^ k)
theorem onB_lt : ∀ x : Nat, x < 256 → ∀ k, k < 8 → onB x k < 256 := by decide +kernel
theorem offB_lt : ∀ x : Nat, x < 256 → ∀ k, k < 8 → offB x k < 256 := by decide +kernel
theorem onB_bit (x k j : Nat) : (onB x k).testBit j = (x.testBit j || decide (k = j)) := by
  unfold onB
  rw [Nat.testBit_or, Nat.testBit_two_pow]
theorem offB_bit : ∀ x, x < 256 → ∀ k, k < 8 → ∀ j, j < 8 → (offB x k).testBit j = (x.testBit j && !decide (k = j)) := by decide +kernel
theorem onB_add : ∀ x, x < 256 → ∀ k, k < 8 → x.testBit k = false → x + 2 ^ k = onB x k := by decide +kernel
theorem onB_bits : ∀ x : Nat, x < 256 → ∀ k, k < 8 → bits .or .u8 (x : Int) (2 ^ k) = (onB x k : Int) := by decide +kernel
theorem offB_bits : ∀ x : Nat, x < 256 → ∀ k, k < 8 → bits .andNot .u8 (x : Int) (2 ^ k) = (offB x k : Int) := by decide +kernel
theorem shr_bits : ∀ x : Nat, x < 256 → ∀ k, k < 8 → bits .and .u8 ((x : Int) / 2 ^ k) 1 = if x.testBit k then 1 else 0 := by decide +kernel

/-- The byte with its bit turned. -/
def turnV (x : Int) (k : Nat) (on : Bool) : Int := if on then (onB x.toNat k : Int) else (offB x.toNat k : Int)
def turnB (l : List Int) (i : Nat) (on : Bool) : List Int := l.set (i / 8) (turnV (l.getD (i / 8) 0) (i % 8) on)
theorem turnB_len (l : List Int) (i : Nat) (on : Bool) : (turnB l i on).length = l.length := by simp [turnB]
theorem turnV_isB {x : Int} (h : 0 ≤ x ∧ x < 256) {k : Nat} (hk : k < 8) (on : Bool) : 0 ≤ turnV x k on ∧ turnV x k on < 256 := by
  unfold turnV
  cases on
  · have := offB_lt x.toNat (by omega) k hk
    simp; omega
  · have := onB_lt x.toNat (by omega) k hk
    simp; omega
theorem turnB_isB {l : List Int} (h : IsB l) (i : Nat) (on : Bool) : IsB (turnB l i on) := by
  intro x hx
  rcases List.mem_or_eq_of_mem_set hx with hx | rfl
  · exact h x hx
  · exact turnV_isB (h.getD _) (by omega) on
theorem turnB_bit {l : List Int} (h : IsB l) {i : Nat} (hi : i < 8 * l.length) (on : Bool) (j : Nat) : bitN (turnB l i on) j = if j = i then on else bitN l j := by
  have hg := h.getD (i / 8)
  unfold bitN turnB
  rw [List.getD_eq_getElem?_getD, List.getElem?_set]
  by_cases e : i / 8 = j / 8
  · rw [if_pos e, if_pos (by omega)]
    rw [e] at hg ⊢
    simp only [Option.getD_some]
    unfold turnV
    have hx : (l.getD (j / 8) 0).toNat < 256 := by omega
    by_cases e2 : j = i
    · subst e2
      rw [if_pos rfl]
      cases on
      · simp only [Bool.false_eq_true, if_false, Int.toNat_natCast]
        rw [offB_bit _ hx _ (by omega) _ (by omega)]; simp
      · simp only [if_true, Int.toNat_natCast]
        rw [onB_bit]; simp
    · rw [if_neg e2]
      have hk : ¬ i % 8 = j % 8 := by omega
      cases on
      · simp only [Bool.false_eq_true, if_false, Int.toNat_natCast]
        rw [offB_bit _ hx _ (by omega) _ (by omega)]; simp [hk]
      · simp only [if_true, Int.toNat_natCast]
        rw [onB_bit]; simp [hk]
  · rw [if_neg e, if_neg (by intro h; subst h; exact e rfl)]
    rw [List.getD_eq_getElem?_getD]

/-! ### the numbers that are had -/
def hadL (f : Nat → Bool) (n : Nat) : List Int := ((List.range n).filter f).map (fun i : Nat => (i : Int))
theorem hadL_zero (f : Nat → Bool) : hadL f 0 = [] := rfl
theorem hadL_yes {f : Nat → Bool} {n : Nat} (h : f n = true) : hadL f (n + 1) = hadL f n ++ [(n : Int)] := by
  unfold hadL; rw [List.range_succ, List.filter_append, List.map_append]; simp [h]
theorem hadL_no {f : Nat → Bool} {n : Nat} (h : f n = false) : hadL f (n + 1) = hadL f n := by
  unfold hadL; rw [List.range_succ, List.filter_append, List.map_append]; simp [h]
theorem hadL_len (f : Nat → Bool) (n : Nat) : (hadL f n).length ≤ n := by
  unfold hadL; rw [List.length_map]; exact Nat.le_trans (List.length_filter_le _ _) (by simp)
theorem hadL_congr {f g : Nat → Bool} {n : Nat} (h : ∀ i, i < n → f i = g i) : hadL f n = hadL g n := by
  unfold hadL
  rw [List.filter_congr (fun i hi => h i (List.mem_range.1 hi))]
theorem hadL_mem {f : Nat → Bool} {n : Nat} {x : Int} : x ∈ hadL f n ↔ ∃ i : Nat, x = (i : Int) ∧ i < n ∧ f i = true := by
  unfold hadL
  simp only [List.mem_map, List.mem_filter, List.mem_range]
  constructor
  · rintro ⟨i, ⟨h1, h2⟩, rfl⟩; exact ⟨i, rfl, h1, h2⟩
  · rintro ⟨i, rfl, h1, h2⟩; exact ⟨i, ⟨h1, h2⟩, rfl⟩
theorem hadL_both (f : Nat → Bool) (n : Nat) : (hadL f n).length + (hadL (fun i => !f i) n).length = n := by
  induction n with
  | zero => rfl
  | succ n ih =>
    cases h : f n
    · rw [hadL_no h, hadL_yes (f := fun i => !f i) (by simp [h])]; simp; omega
    · rw [hadL_yes h, hadL_no (f := fun i => !f i) (by simp [h])]; simp; omega

/-- These bytes are the bitmap of n in which f is had, with all their bytes. -/
structure BM (f : Nat → Bool) (n : Nat) (l : List Int) : Prop where
  isB : IsB l
  len : l.length = byt n
  bit : ∀ i, bitN l i = (decide (i < n) && f i)
theorem BM.uniq {f g : Nat → Bool} {n : Nat} {l m : List Int} (h : BM f n l) (k : BM g n m) (hfg : ∀ i, i < n → f i = g i) : l = m :=
  bits_ext h.isB k.isB (h.len.trans k.len.symm) fun i _ => by
    rw [h.bit, k.bit]
    by_cases hi : i < n
    · simp [hi, hfg i hi]
    · simp [hi]
theorem BM.turn {f : Nat → Bool} {n : Nat} {l : List Int} (h : BM f n l) {i : Nat} (hi : i < n) (on : Bool) : BM (fun j => if j = i then on else f j) n (turnB l i on) :=
  ⟨turnB_isB h.isB i on, (turnB_len l i on).trans h.len, fun j => by
    rw [turnB_bit h.isB (by rw [h.len]; have := byt_le n; omega), h.bit]
    by_cases e : j = i
    · subst e; simp [hi]
    · simp [e]⟩
theorem BM.none (n : Nat) : BM (fun _ => false) n (List.replicate (byt n) 0) :=
  ⟨fun x hx => by rw [List.eq_of_mem_replicate hx]; omega, by simp, fun i => by rw [bitN_zero]; simp⟩
theorem BM.cong {f g : Nat → Bool} {n : Nat} {l : List Int} (h : BM f n l) (hfg : ∀ i, i < n → f i = g i) : BM g n l :=
  ⟨h.isB, h.len, fun i => by
    rw [h.bit]
    by_cases hi : i < n
    · simp [hi, hfg i hi]
    · simp [hi]⟩
theorem fitB_of {l : List Int} {n : Nat} (hn : n ≤ 4096) (hl : l = [] ∨ l.length = byt n) (h : ∀ i, n ≤ i → bitN l i = false) : fitB l (n : Int) = true := by
  unfold fitB
  simp only [decide_eq_true_eq, Int.toNat_natCast]
  exact ⟨by omega, by omega, hl, fun i _ hi => h i hi⟩
theorem BM.fits {f : Nat → Bool} {n : Nat} {l : List Int} (h : BM f n l) (hn : n ≤ 4096) : fitB l (n : Int) = true :=
  fitB_of hn (.inr h.len) fun i hi => by rw [h.bit]; simp; omega
theorem fitB_nat {l : List Int} {n : Int} (h : fitB l n = true) : ∃ k : Nat, n = k ∧ k ≤ 4096 ∧ (l = [] ∨ l.length = byt k) ∧ ∀ i, k ≤ i → bitN l i = false := by
  unfold fitB at h
  simp only [decide_eq_true_eq] at h
  obtain ⟨h1, h2, h3, h4⟩ := h
  refine ⟨n.toNat, by omega, by omega, h3, fun i hi => ?_⟩
  by_cases hl : i < 8 * l.length
  · exact h4 i hl hi
  · exact bitN_ge (by omega)
/-- All its bytes, also where it is empty. -/
def wholeB (l : List Int) (n : Nat) : List Int := if l = [] then List.replicate (byt n) 0 else l
theorem wholeB_BM {l : List Int} {n : Nat} (hb : IsB l) (hl : l = [] ∨ l.length = byt n) (h : ∀ i, n ≤ i → bitN l i = false) : BM (bitN l) n (wholeB l n) := by
  unfold wholeB
  by_cases e : l = []
  · rw [if_pos e]
    subst e
    exact (BM.none n).cong fun i _ => (bitN_nil i).symm
  · rw [if_neg e]
    refine ⟨hb, by rcases hl with h | h; exact absurd h e; exact h, fun i => ?_⟩
    by_cases hi : i < n
    · simp [hi]
    · simp [hi, h i (by omega)]
end Go.Proofs.Ytbacnkndllifaaa
