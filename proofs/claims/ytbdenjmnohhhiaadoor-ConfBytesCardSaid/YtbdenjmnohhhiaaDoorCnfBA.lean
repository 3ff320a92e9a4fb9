/-
  A configuration's bytes, and what is read of one, plainly.
-/
import Derived.Test.YtbdenjmnohhhiaaDoorCnfA
import Derived.Test.YtbdenjmnohhhiaaDoorInB
namespace Go.Proofs.YtbdenjmnohhhiaaDoor
open Go.RowKit
set_option linter.unusedVariables false

def bitI (b : Bool) : Int := if b then 1 else 0
theorem bit_le (b : Bool) : 0 ≤ bitI b ∧ bitI b ≤ 1 := by cases b <;> decide
def bytesC (c : Cf) : List Int := be c.ch.toNat 1 ++ be c.ep.toNat 8 ++ [bitI c.fr] ++ be c.jn.toNat 1 ++ be c.ns.length 1 ++ c.ns
theorem be_one9 (n : Int) (h0 : 0 ≤ n) (h1 : n < 256) : be n.toNat 1 = [n] := by
  have : n.toNat < 256 := by omega
  simp [be, Nat.mod_eq_of_lt this]
  omega
theorem bytesC_len (c : Cf) : (bytesC c).length = 12 + c.ns.length := by
  unfold bytesC
  simp only [List.length_append, be_len, List.length_singleton]
/-- A right configuration's numbers. -/
theorem Rgt.nums {c : Cf} (h : Rgt c) : 0 ≤ c.ch ∧ c.ch ≤ 3 ∧ 1 ≤ c.ep ∧ 1 ≤ c.ns.length ∧ c.ns.length ≤ 5 ∧ 0 ≤ c.jn ∧ c.jn ≤ 24 ∧ ∀ x ∈ c.ns, 1 ≤ x ∧ x ≤ 24 := by
  obtain ⟨h1, h2, h3, h4, h5, h6, h7⟩ := h
  have hn : ∀ x ∈ c.ns, 1 ≤ x ∧ x ≤ 24 := fun x hx => h7.1 x (by unfold Cf.mem; split; exact hx; exact List.mem_append_left _ hx)
  refine ⟨h1, h2, h3, h4, h5, ?_, ?_, hn⟩
  · by_cases hj : c.jn = 0
    · omega
    · have := h7.1 c.jn (by unfold Cf.mem; rw [if_neg hj]; simp); omega
  · by_cases hj : c.jn = 0
    · omega
    · have := h7.1 c.jn (by unfold Cf.mem; rw [if_neg hj]; simp); omega
/-- The reader behind k bytes read one by one. -/
def stK (s : ISt) (k : Nat) : ISt := (s.raw k).1
def nsK (s : ISt) (k : Nat) : List Int := (s.raw k).2
theorem raw_ok9 (l : List Int) (k : Nat) : (⟨l, 0⟩ : ISt).raw k = if l.length < k then (⟨[], 3⟩, []) else (⟨l.drop k, 0⟩, l.take k) := by
  unfold ISt.raw
  simp only [if_true]
  rw [if_neg (by omega)]
  by_cases h : l.length < k
  · rw [if_pos (by omega), if_pos h]
  · rw [if_neg (by omega), if_neg h, Int.toNat_natCast]
theorem raw_err9 (s : ISt) (k : Int) (h : s.err ≠ 0) : s.raw k = (s, []) := by
  unfold ISt.raw
  rw [if_neg h]
theorem get1_9 (s : ISt) : s.get 1 = ((s.raw ((1 : Nat) : Int)).1, ((num (s.raw ((1 : Nat) : Int)).2 : Nat) : Int)) := by
  unfold ISt.get
  rw [if_neg (by decide)]
  rfl
theorem stK_zero (s : ISt) : stK s 0 = s := by
  obtain ⟨l, e⟩ := s
  unfold stK
  by_cases h : e = 0
  · subst h; rw [raw_ok9, if_neg (by omega)]; rfl
  · rw [raw_err9 _ _ h]
theorem stK_succ (s : ISt) (k : Nat) : stK s (k + 1) = ((stK s k).get 1).1 := by
  obtain ⟨l, e⟩ := s
  rw [get1_9]
  unfold stK
  by_cases h : e = 0
  · subst h
    rw [raw_ok9, raw_ok9]
    by_cases h1 : l.length < k
    · rw [if_pos (by omega), if_pos h1, raw_err9 _ _ (by decide)]
    · rw [if_neg h1]
      simp only
      rw [raw_ok9, List.length_drop]
      by_cases h2 : l.length < k + 1
      · rw [if_pos h2, if_pos (by omega)]
      · rw [if_neg h2, if_neg (by omega)]
        simp only
        rw [List.drop_drop]
  · have e1 : ∀ k : Int, (⟨l, e⟩ : ISt).raw k = (⟨l, e⟩, []) := fun k => raw_err9 _ k h
    simp only [e1]
/-- What is read one by one, where all is there. -/
theorem nsK_succ (s : ISt) (k : Nat) (hB : IsB s.l) (he : (stK s (k + 1)).err = 0) : nsK s (k + 1) = nsK s k ++ [((stK s k).get 1).2] := by
  obtain ⟨l, e⟩ := s
  rw [get1_9]
  unfold stK nsK at *
  by_cases h : e = 0
  · subst h
    rw [raw_ok9] at he ⊢
    rw [raw_ok9]
    by_cases h2 : l.length < k + 1
    · rw [if_pos h2] at he
      exact absurd he (by decide)
    · have hlt : k < l.length := by omega
      have hb := hB (l[k]) (List.getElem_mem hlt)
      rw [if_neg h2, if_neg (by omega)]
      simp only
      rw [raw_ok9, List.length_drop, if_neg (by omega)]
      simp only
      rw [List.take_succ_eq_append_getElem hlt]
      congr 1
      rw [List.drop_eq_getElem_cons hlt]
      simp only [List.take_succ_cons, List.take_zero]
      simp [num]
      omega
  · rw [raw_err9 _ _ h] at he
    exact absurd he h
theorem stK_err (s : ISt) (k n : Nat) (hkn : k ≤ n) (h : (stK s n).err = 0) : (stK s k).err = 0 := by
  obtain ⟨l, e⟩ := s
  unfold stK at *
  by_cases h0 : e = 0
  · subst h0
    rw [raw_ok9] at h ⊢
    by_cases h2 : l.length < n
    · rw [if_pos h2] at h; exact absurd h (by decide)
    · rw [if_neg (by omega)]
  · rw [raw_err9 _ _ h0] at h
    exact absurd h h0
/-- All of a configuration that is read: the reader behind it, and it. -/
def getCf (s : ISt) : ISt × Cf :=
  ((((((s.get 1).1.get 8).1.upto 1 1).1.get 1).1.get 1).1.raw (((((s.get 1).1.get 8).1.upto 1 1).1.get 1).1.get 1).2 |>.1,
   ⟨(s.get 1).2, ((s.get 1).1.get 8).2, (((((s.get 1).1.get 8).1.upto 1 1).1.get 1).1.get 1).1.raw (((((s.get 1).1.get 8).1.upto 1 1).1.get 1).1.get 1).2 |>.2, ((((s.get 1).1.get 8).1.upto 1 1).2 == 1), ((((s.get 1).1.get 8).1.upto 1 1).1.get 1).2⟩)
def readC (s : ISt) : ISt × Cf × Int :=
  if (getCf s).1.err ≠ 0 then ((getCf s).1, cf0, (getCf s).1.err) else if rgtB (getCf s).2 = true then ((getCf s).1, (getCf s).2, 0) else ((getCf s).1, cf0, 4)
theorem get_back9 (n k : Nat) (r : List Int) (h1 : 1 ≤ k) (h8 : k ≤ 8) (hn : n < 256 ^ k) : (⟨be n k ++ r, 0⟩ : ISt).get k = (⟨r, 0⟩, (n : Int)) := by
  have hl := be_len n k
  unfold ISt.get ISt.raw
  rw [if_neg (by omega), if_pos rfl, if_neg (by omega), if_neg (by simp only [List.length_append, hl]; omega)]
  simp only [Int.toNat_natCast]
  rw [List.drop_left' hl, List.take_left' hl, num_be, Nat.mod_eq_of_lt hn]
theorem readC_back {c : Cf} (h : Rgt c) (hep : c.ep ≤ 18446744073709551615) : readC ⟨bytesC c, 0⟩ = (⟨[], 0⟩, c, 0) := by
  obtain ⟨h1, h2, h3, h4, h5, h6, h7, h8⟩ := h.nums
  have hb := bit_le c.fr
  have c1 : ((1 : Nat) : Int) = 1 := rfl
  have c8 : ((8 : Nat) : Int) = 8 := rfl
  have e1 := get_back9 c.ch.toNat 1 (be c.ep.toNat 8 ++ ([bitI c.fr] ++ (be c.jn.toNat 1 ++ (be c.ns.length 1 ++ c.ns)))) (by decide) (by decide) (by omega)
  have e2 := get_back9 c.ep.toNat 8 ([bitI c.fr] ++ (be c.jn.toNat 1 ++ (be c.ns.length 1 ++ c.ns))) (by decide) (by decide) (by omega)
  have e3 := get_back9 (bitI c.fr).toNat 1 (be c.jn.toNat 1 ++ (be c.ns.length 1 ++ c.ns)) (by decide) (by decide) (by omega)
  have e4 := get_back9 c.jn.toNat 1 (be c.ns.length 1 ++ c.ns) (by decide) (by decide) (by omega)
  have e5 := get_back9 c.ns.length 1 c.ns (by decide) (by decide) (by omega)
  rw [c1] at e1 e3 e4 e5
  rw [c8] at e2
  rw [be_one9 (bitI c.fr) hb.1 (by omega)] at e3
  have e3' : (⟨[bitI c.fr] ++ (be c.jn.toNat 1 ++ (be c.ns.length 1 ++ c.ns)), 0⟩ : ISt).upto 1 1 = (⟨be c.jn.toNat 1 ++ (be c.ns.length 1 ++ c.ns), 0⟩, bitI c.fr) := by
    rw [ISt.upto_get _ 1 1 (by decide), e3]
    have : (((bitI c.fr).toNat : Nat) : Int) = bitI c.fr := by omega
    simp only [this]
    rw [if_neg (by omega)]
  have er : (⟨c.ns, 0⟩ : ISt).raw (c.ns.length : Int) = (⟨[], 0⟩, c.ns) := by
    unfold ISt.raw
    simp
  have hg : getCf ⟨bytesC c, 0⟩ = (⟨[], 0⟩, c) := by
    unfold getCf bytesC
    simp only [List.append_assoc, e1, e2, e3', e4, e5, er]
    have hbit : (bitI c.fr == 1) = c.fr := by cases c.fr <;> rfl
    obtain ⟨x0, x1, x2, x3, x4⟩ := c
    simp only at *
    rw [hbit]
    have q0 : ((x0.toNat : Nat) : Int) = x0 := by omega
    have q1 : ((x1.toNat : Nat) : Int) = x1 := by omega
    have q4 : ((x4.toNat : Nat) : Int) = x4 := by omega
    rw [q0, q1, q4]
  unfold readC
  rw [hg]
  simp only
  rw [if_neg (by simp), if_pos (show rgtB c = true from decide_eq_true h)]
end Go.Proofs.YtbdenjmnohhhiaaDoor
