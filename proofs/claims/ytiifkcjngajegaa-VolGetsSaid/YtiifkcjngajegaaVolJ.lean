/-
  Layer 30: what is got of bytes, plainly.
-/
import Derived.Test.YtiifkcjngajegaaVolI
import Derived.Test.YtiifkcjngajegaaIno4
import Derived.Test.YtiifkcjngajegaaRef1
namespace Go.Proofs.Ytiifkcjngajegaa
open Go.RowKit
set_option linter.unusedVariables false

/-- One patch that is got. -/
def gq30 (s : ISt) : ISt × Pt := ((((s.get 4).1.get 8).1.text 64).1, ((s.get 4).2, ((s.get 4).1.get 8).2, (((s.get 4).1.get 8).1.text 64).2))
def gqs30 : Nat → ISt → ISt × List Pt
  | 0, s => (s, [])
  | n + 1, s => ((gq30 (gqs30 n s).1).1, (gqs30 n s).2 ++ [(gq30 (gqs30 n s).1).2])
theorem gqs_len30 (n : Nat) (s : ISt) : (gqs30 n s).2.length = n := by
  induction n with
  | zero => rfl
  | succ n ih => show ((gqs30 n s).2 ++ [_]).length = n + 1; rw [List.length_append, ih]; rfl
def hd30 (bs : List Int) : ISt × Int := (⟨bs, 0⟩ : ISt).upto 1 20
/-- What is got of bytes. -/
def gotP (n b : Int) (bs : List Int) : Int × List Pt :=
  if bs = [] then (0, []) else if ¬ rgt30 n b then (1, []) else
  if (gqs30 (hd30 bs).2.toNat (hd30 bs).1).1.done ≠ 0 then ((gqs30 (hd30 bs).2.toNat (hd30 bs).1).1.done, []) else
  if (gqs30 (hd30 bs).2.toNat (hd30 bs).1).2 = [] ∨ chkP n b (gqs30 (hd30 bs).2.toNat (hd30 bs).1).2 ≠ 0 then (4, []) else (0, (gqs30 (hd30 bs).2.toNat (hd30 bs).1).2)
theorem isB_raw30 {s : ISt} (h : IsB s.l) (n : Int) : IsB (s.raw n).1.l ∧ IsB (s.raw n).2 := by
  unfold ISt.raw
  split
  · split
    · exact ⟨IsB.nil, IsB.nil⟩
    · split
      · exact ⟨IsB.nil, IsB.nil⟩
      · exact ⟨fun z hz => h z (List.mem_of_mem_drop hz), fun z hz => h z (List.mem_of_mem_take hz)⟩
  · exact ⟨h, IsB.nil⟩
theorem isB_text30 {s : ISt} (h : IsB s.l) : IsB (s.text 64).1.l ∧ IsB (s.text 64).2 := by
  have h2 : IsB (s.get 2).1.l := isB_get28 (w := 2) h (by omega)
  rw [ISt.text_eq]
  split
  · split
    · exact ⟨IsB.nil, IsB.nil⟩
    · exact isB_raw30 h2 _
  · exact ⟨h2, IsB.nil⟩
theorem isB_gq30 {s : ISt} (h : IsB s.l) : IsB (gq30 s).1.l := by
  have h1 : IsB (s.get 4).1.l := isB_get28 (w := 4) h (by omega)
  have h2 : IsB ((s.get 4).1.get 8).1.l := isB_get28 (w := 8) h1 (by omega)
  exact (isB_text30 h2).1
theorem isB_gqs30 {s : ISt} (h : IsB s.l) (k : Nat) : IsB (gqs30 k s).1.l := by
  induction k with
  | zero => exact h
  | succ k ih => exact isB_gq30 ih
theorem text_len30 (s : ISt) : (s.text 64).2.length ≤ 64 := by
  rw [ISt.text_eq]
  split
  · split
    · simp
    · rename_i h
      have := (s.get 2).1.raw_len (s.get 2).2
      omega
  · simp
theorem text_ok30 {s : ISt} (hB : IsB s.l) (h : (s.text 64).1.err = 0) : s.err = 0 ∧ s.l = be (s.text 64).2.length 2 ++ (s.text 64).2 ++ (s.text 64).1.l := by
  have he := ISt.text_eq s 64
  by_cases h2 : (s.get 2).1.err = 0
  · rw [if_pos h2] at he
    obtain ⟨y, g1, g2, g3, g4⟩ := get_ok28 (w := 2) hB (by omega) (by omega) h2
    have g2 : (s.get 2).2 = (y : Int) := g2
    have g4 : s.l = be y 2 ++ (s.get 2).1.l := g4
    by_cases hm : 64 < (s.get 2).2
    · rw [if_pos hm] at he
      rw [he] at h
      exact absurd h (by show ¬ (6 : Int) = 0; omega)
    · rw [if_neg hm, g2] at he
      rw [he] at h ⊢
      obtain ⟨r1, r2, r3⟩ := raw_ok28 (w := y) h
      refine ⟨g1, ?_⟩
      rw [r3]
      conv => lhs; rw [g4, r2]
      rw [List.append_assoc]
  · rw [if_neg h2] at he
    rw [he] at h
    exact absurd h h2
theorem gqs_ok30 {n : Nat} {s : ISt} (hB : IsB s.l) (h : (gqs30 n s).1.err = 0) : s.err = 0 ∧ s.l = bytQs (gqs30 n s).2 ++ (gqs30 n s).1.l := by
  induction n with
  | zero => exact ⟨h, rfl⟩
  | succ n ih =>
    have hb := isB_gqs30 hB n
    obtain ⟨t, ht⟩ : ∃ t, t = (gqs30 n s).1 := ⟨_, rfl⟩
    have h : ((((t.get 4).1.get 8).1.text 64).1).err = 0 := by rw [ht]; exact h
    rw [← ht] at hb ih
    have b1 : IsB (t.get 4).1.l := isB_get28 (w := 4) hb (by omega)
    have b2 : IsB ((t.get 4).1.get 8).1.l := isB_get28 (w := 8) b1 (by omega)
    obtain ⟨e3, l3⟩ := text_ok30 b2 h
    obtain ⟨y, f1, f2, f3, f4⟩ := get_ok28 (s := (t.get 4).1) (w := 8) b1 (by omega) (by omega) e3
    obtain ⟨x, g1, g2, g3, g4⟩ := get_ok28 (s := t) (w := 4) hb (by omega) (by omega) f1
    obtain ⟨i1, i2⟩ := ih g1
    refine ⟨i1, ?_⟩
    show s.l = bytQs ((gqs30 n s).2 ++ [(gq30 (gqs30 n s).1).2]) ++ (gq30 (gqs30 n s).1).1.l
    rw [bytQs_snoc, ← ht]
    have q1 : bytQ (gq30 t).2 = be x 4 ++ be y 8 ++ be (((t.get 4).1.get 8).1.text 64).2.length 2 ++ (((t.get 4).1.get 8).1.text 64).2 := by
      unfold bytQ gq30
      simp only [show (t.get 4).2 = (x : Int) from g2, show ((t.get 4).1.get 8).2 = (y : Int) from f2, Int.toNat_natCast]
    have q2 : (gq30 t).1 = (((t.get 4).1.get 8).1.text 64).1 := rfl
    rw [q1, q2, i2]
    have g4 : t.l = be x 4 ++ (t.get 4).1.l := g4
    have f4 : (t.get 4).1.l = be y 8 ++ ((t.get 4).1.get 8).1.l := f4
    conv => lhs; rw [g4, f4, l3]
    simp only [List.append_assoc]
/-- The bounds of what is got. -/
theorem gqs_bounds30 {n : Nat} {s : ISt} (hB : IsB s.l) : ∀ j, j < n → ((0 ≤ (ptl (gqs30 n s).2 j).1 ∧ (ptl (gqs30 n s).2 j).1 < 4294967296) ∧ 0 ≤ (ptl (gqs30 n s).2 j).2.1 ∧ (ptl (gqs30 n s).2 j).2.1 < 18446744073709551616) := by
  induction n with
  | zero => intro j hj; cases hj
  | succ n ih =>
    intro j hj
    have hl := gqs_len30 n s
    have e : ∀ j, ptl (gqs30 (n + 1) s).2 j = if j < n then ptl (gqs30 n s).2 j else if j = n then (gq30 (gqs30 n s).1).2 else (0, 0, []) := fun j => by
      show ptl ((gqs30 n s).2 ++ [(gq30 (gqs30 n s).1).2]) j = _
      unfold ptl
      by_cases h1 : j < n
      · rw [if_pos h1, List.getD_eq_getElem?_getD, List.getD_eq_getElem?_getD, List.getElem?_append_left (by rw [hl]; exact h1)]
      · rw [if_neg h1, List.getD_eq_getElem?_getD, List.getElem?_append_right (by rw [hl]; omega), hl]
        by_cases h2 : j = n
        · rw [if_pos h2, h2, Nat.sub_self]; rfl
        · rw [if_neg h2, List.getElem?_eq_none (by simp; omega)]; rfl
    rw [e j]
    by_cases h1 : j < n
    · rw [if_pos h1]; exact ih j h1
    · rw [if_neg h1, if_pos (by omega)]
      have hb := isB_gqs30 hB n
      have b1 : IsB ((gqs30 n s).1.get 4).1.l := isB_get28 (w := 4) hb (by omega)
      exact ⟨get_le28 (w := 4) hb (by omega) (by omega), get_le28 (w := 8) b1 (by omega) (by omega)⟩
/-- What is got has these bytes. -/
theorem gotP_bytes {n b : Int} {bs : List Int} (hB : IsB bs) (h : (gotP n b bs).1 = 0) : putP n b (gotP n b bs).2 = bs := by
  unfold gotP at h ⊢
  by_cases h0 : bs = []
  · rw [if_pos h0, h0]
    unfold putP
    split <;> rfl
  · rw [if_neg h0] at h ⊢
    by_cases hr : rgt30 n b
    · rw [if_neg (fun hh => hh hr)] at h ⊢
      by_cases hd : (gqs30 (hd30 bs).2.toNat (hd30 bs).1).1.done ≠ 0
      · rw [if_pos hd] at h; exact absurd h hd
      · rw [if_neg hd] at h ⊢
        by_cases hc : (gqs30 (hd30 bs).2.toNat (hd30 bs).1).2 = [] ∨ chkP n b (gqs30 (hd30 bs).2.toNat (hd30 bs).1).2 ≠ 0
        · rw [if_pos hc] at h; exact absurd h (by show ¬ (4 : Int) = 0; omega)
        · rw [if_neg hc] at h ⊢
          have hd0 : (gqs30 (hd30 bs).2.toNat (hd30 bs).1).1.err = 0 ∧ (gqs30 (hd30 bs).2.toNat (hd30 bs).1).1.l = [] := by
            have hd : (gqs30 (hd30 bs).2.toNat (hd30 bs).1).1.done = 0 := Classical.not_not.1 hd
            unfold ISt.done at hd
            by_cases hh : (gqs30 (hd30 bs).2.toNat (hd30 bs).1).1.err = 0 ∧ 0 < (gqs30 (hd30 bs).2.toNat (hd30 bs).1).1.l.length
            · rw [if_pos hh] at hd; cases hd
            · rw [if_neg hh] at hd
              exact ⟨hd, List.eq_nil_of_length_eq_zero (by have := fun hl => hh ⟨hd, hl⟩; omega)⟩
          have B1 : IsB (hd30 bs).1.l := isB_upto28 (s := ⟨bs, 0⟩) (w := 1) hB (by omega)
          obtain ⟨g0, g1⟩ := gqs_ok30 (n := (hd30 bs).2.toNat) B1 hd0.1
          obtain ⟨mn, _, m1, m2, m3, m4⟩ := upto_ok28 (s := ⟨bs, 0⟩) (w := 1) (most := 20) hB (by omega) (by omega) g0
          have m4 : bs = be mn 1 ++ (hd30 bs).1.l := m4
          have m1 : (hd30 bs).2 = (mn : Int) := m1
          obtain ⟨hne, hck⟩ := not_or.1 hc
          have hck : chkP n b (gqs30 (hd30 bs).2.toNat (hd30 bs).1).2 = 0 := Classical.not_not.1 hck
          show putP n b (gqs30 (hd30 bs).2.toNat (hd30 bs).1).2 = bs
          unfold putP
          rw [if_pos hck]
          unfold bytP
          rw [if_neg hne, gqs_len30]
          conv => rhs; rw [m4, g1, hd0.2]
          rw [List.append_nil, m1, Int.toNat_natCast]
    · rw [if_pos hr] at h; exact absurd h (by show ¬ (1 : Int) = 0; omega)
end Go.Proofs.Ytiifkcjngajegaa
