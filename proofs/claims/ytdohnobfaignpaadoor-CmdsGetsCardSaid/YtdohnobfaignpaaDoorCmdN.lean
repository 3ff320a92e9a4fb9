/-
  Package cmds: what Get tells of a reader's bytes.
-/
import Derived.Test.YtdohnobfaignpaaDoorCmdI
import Derived.Test.YtdohnobfaignpaaDoorInB
namespace Go.Proofs.YtdohnobfaignpaaDoor
open Go.RowKit Go.Sort Go.Lib
set_option linter.unusedVariables false

theorem be_one (n : Nat) (h : n < 256) : be n 1 = [(n : Int)] := by simp [be, Nat.mod_eq_of_lt h]
theorem app_inj {a b c d : List Int} (h : a ++ b = c ++ d) (hl : a.length = c.length) : a = c ∧ b = d := List.append_inj h hl
theorem be_inj {n m w : Nat} (h : be n w = be m w) (hn : n < 256 ^ w) (hm : m < 256 ^ w) : n = m := by
  have := congrArg num h
  rwa [num_be, num_be, Nat.mod_eq_of_lt hn, Nat.mod_eq_of_lt hm] at this
theorem cbs_inj {k ch ep nd k' ch' ep' nd' : Nat} (h : cbs k ch ep nd = cbs k' ch' ep' nd') (hc : Cm k ch ep nd) (hc' : Cm k' ch' ep' nd') : k = k' ∧ ch = ch' ∧ ep = ep' ∧ nd = nd' := by
  have a := hc.le
  have b := hc'.le
  unfold cbs at h
  obtain ⟨h, h4⟩ := app_inj h (by simp [be_len])
  obtain ⟨h, h3⟩ := app_inj h (by simp [be_len])
  obtain ⟨h1, h2⟩ := app_inj h (by simp [be_len])
  exact ⟨be_inj h1 (by omega) (by omega), be_inj h2 (by omega) (by omega), be_inj h3 (by omega) (by omega), be_inj h4 (by omega) (by omega)⟩
/-- What is got of a reader's state. -/
def GetIs (s : ISt) (k ch ep nd e : Nat) : Prop :=
  (e = 0 ∧ s.err = 0 ∧ Cm k ch ep nd ∧ s.l.take 11 = cbs k ch ep nd) ∨
  (k = 0 ∧ ch = 0 ∧ ep = 0 ∧ nd = 0 ∧ (∀ k ch ep nd, Cm k ch ep nd → ¬ (s.err = 0 ∧ s.l.take 11 = cbs k ch ep nd)) ∧ (e : Int) = if (s.raw 11).1.err = 0 then 4 else (s.raw 11).1.err)
theorem GetIs.one {s : ISt} {k ch ep nd e k' ch' ep' nd' e' : Nat} (h : GetIs s k ch ep nd e) (h2 : GetIs s k' ch' ep' nd' e') : k = k' ∧ ch = ch' ∧ ep = ep' ∧ nd = nd' ∧ e = e' := by
  rcases h with ⟨rfl, a, b, c⟩ | ⟨rfl, rfl, rfl, rfl, a, b⟩ <;> rcases h2 with ⟨rfl, a', b', c'⟩ | ⟨rfl, rfl, rfl, rfl, a', b'⟩
  · obtain ⟨h1, h2, h3, h4⟩ := cbs_inj (c.symm.trans c') b b'
    exact ⟨h1, h2, h3, h4, rfl⟩
  · exact absurd ⟨a, c⟩ (a' _ _ _ _ b)
  · exact absurd ⟨a', c'⟩ (a _ _ _ _ b')
  · exact ⟨rfl, rfl, rfl, rfl, by omega⟩
theorem GetIs.le {s : ISt} {k ch ep nd e : Nat} (h : GetIs s k ch ep nd e) : k ≤ 4 ∧ ch ≤ 3 ∧ ep < 18446744073709551616 ∧ nd ≤ 24 := by
  rcases h with ⟨_, _, b, _⟩ | ⟨rfl, rfl, rfl, rfl, _⟩
  · exact b.le
  · omega
/-- Eleven bytes are those of the numbers that they tell. -/
theorem bytes_back (l : List Int) (hB : IsB l) (h : 11 ≤ l.length) :
    l.take 11 = cbs (num (l.take 1)) (num ((l.drop 1).take 1)) (num (((l.drop 1).drop 1).take 8)) (num ((((l.drop 1).drop 1).drop 8).take 1)) := by
  have e : ∀ (m : List Int) (n : Nat), IsB m → n ≤ m.length → be (num (m.take n)) n = m.take n := by
    intro m n hm hn
    have h1 := be_num (m.take n) (hm.take n)
    rwa [show (m.take n).length = n by rw [List.length_take]; omega] at h1
  unfold cbs
  rw [e l 1 hB (by omega), e _ 1 (hB.drop 1) (by simp; omega), e _ 8 ((hB.drop 1).drop 1) (by simp; omega), e _ 1 (((hB.drop 1).drop 1).drop 8) (by simp; omega)]
  simp only [List.drop_drop]
  conv => lhs; rw [← List.take_append_drop 1 (l.take 11), ← List.take_append_drop 1 ((l.take 11).drop 1), ← List.take_append_drop 8 (((l.take 11).drop 1).drop 1)]
  simp [List.drop_take, List.take_take, List.drop_drop]
/-- The four numbers of a reader, and what is left of it. -/
def ISt.c1 (s : ISt) : ISt := (s.get 1).1
def ISt.c2 (s : ISt) : ISt := (s.c1.get 1).1
def ISt.c3 (s : ISt) : ISt := (s.c2.get 8).1
def ISt.c4 (s : ISt) : ISt := (s.c3.get 1).1
theorem get_step (s : ISt) (n : Nat) (h1 : 1 ≤ n) (h8 : n ≤ 8) : s.get n = ((s.raw n).1, (num (s.raw n).2 : Int)) := by
  unfold ISt.get
  rw [if_neg (by omega)]
theorem raw_ok' (l : List Int) (n : Nat) (h : n ≤ l.length) : ISt.raw ⟨l, 0⟩ n = (⟨l.drop n, 0⟩, l.take n) := by
  unfold ISt.raw
  rw [if_pos rfl, if_neg (by omega), if_neg (by simp; omega)]
  rfl
theorem raw_short (l : List Int) (n : Nat) (h : l.length < n) : ISt.raw ⟨l, 0⟩ n = (⟨[], 3⟩, []) := by
  unfold ISt.raw
  rw [if_pos rfl, if_neg (by omega), if_pos (by simp; omega)]
theorem raw_err (s : ISt) (n : Nat) (h : s.err ≠ 0) : s.raw n = (s, []) := by
  unfold ISt.raw
  rw [if_neg h]
theorem get_ok' (l : List Int) (n : Nat) (h1 : 1 ≤ n) (h8 : n ≤ 8) (h : n ≤ l.length) : ISt.get ⟨l, 0⟩ n = (⟨l.drop n, 0⟩, (num (l.take n) : Int)) := by
  rw [get_step _ _ h1 h8, raw_ok' l n h]
theorem get_short (l : List Int) (n : Nat) (h1 : 1 ≤ n) (h8 : n ≤ 8) (h : l.length < n) : (ISt.get ⟨l, 0⟩ n).1 = ⟨[], 3⟩ := by
  rw [get_step _ _ h1 h8, raw_short l n h]
theorem get_err' (s : ISt) (n : Nat) (h1 : 1 ≤ n) (h8 : n ≤ 8) (h : s.err ≠ 0) : (s.get n).1 = s := by
  rw [get_step _ _ h1 h8, raw_err s n h]
theorem c4_raw (s : ISt) : s.c4 = (s.raw 11).1 := by
  unfold ISt.c4 ISt.c3 ISt.c2 ISt.c1
  have H : ∀ (s : ISt) (n : Nat), s.err ≠ 0 → 1 ≤ n → n ≤ 8 → (s.get n).1 = s := fun s n h h1 h8 => get_err' s n h1 h8 h
  by_cases he : s.err = 0
  · obtain ⟨l, err⟩ := s
    obtain rfl : err = 0 := he
    have G1 := get_ok' l 1 (by omega) (by omega)
    have G2 := fun h => get_ok' (l.drop 1) 1 (by omega) (by omega) h
    have G3 := fun h => get_ok' ((l.drop 1).drop 1) 8 (by omega) (by omega) h
    have G4 := fun h => get_ok' (((l.drop 1).drop 1).drop 8) 1 (by omega) (by omega) h
    have S1 := get_short l 1 (by omega) (by omega)
    have S2 := fun h => get_short (l.drop 1) 1 (by omega) (by omega) h
    have S3 := fun h => get_short ((l.drop 1).drop 1) 8 (by omega) (by omega) h
    have S4 := fun h => get_short (((l.drop 1).drop 1).drop 8) 1 (by omega) (by omega) h
    have E1 := H ⟨[], 3⟩ 1 (by decide) (by decide) (by decide)
    have E8 := H ⟨[], 3⟩ 8 (by decide) (by decide) (by decide)
    simp only [List.length_drop, Int.natCast_one, show ((8 : Nat) : Int) = 8 from rfl] at G1 G2 G3 G4 S1 S2 S3 S4 E1 E8
    rcases Nat.lt_or_ge l.length 11 with h | h
    · rw [show (ISt.raw ⟨l, 0⟩ 11).1 = ⟨[], 3⟩ by rw [show (11 : Int) = ((11 : Nat) : Int) from rfl, raw_short l 11 h]]
      rcases Nat.lt_or_ge l.length 1 with h1 | h1
      · rw [S1 h1, E1, E8, E1]
      · rw [G1 h1]
        rcases Nat.lt_or_ge l.length 2 with h2 | h2
        · rw [S2 (by omega), E8, E1]
        · rw [G2 (by omega)]
          rcases Nat.lt_or_ge l.length 10 with h3 | h3
          · rw [S3 (by omega), E1]
          · rw [G3 (by omega), S4 (by omega)]
    · rw [show (ISt.raw ⟨l, 0⟩ 11).1 = ⟨l.drop 11, 0⟩ by rw [show (11 : Int) = ((11 : Nat) : Int) from rfl, raw_ok' l 11 h]]
      rw [G1 (by omega), G2 (by omega), G3 (by omega), G4 (by omega)]
      simp [List.drop_drop]
  · have E1 := H s 1 he (by decide) (by decide)
    have E8 := H s 8 he (by decide) (by decide)
    simp only [Int.natCast_one, show ((8 : Nat) : Int) = 8 from rfl] at E1 E8
    rw [E1, E1, E8, E1, show (11 : Int) = ((11 : Nat) : Int) from rfl, raw_err s 11 he]
/-- What the four numbers say, where all could be read. -/
theorem c4_ok (s : ISt) (hB : IsB s.l) (h : (s.raw 11).1.err = 0) : ∃ k ch ep nd : Nat, (s.get 1).2 = k ∧ (s.c1.get 1).2 = ch ∧ (s.c2.get 8).2 = ep ∧ (s.c3.get 1).2 = nd ∧ ep < 18446744073709551616 ∧ s.err = 0 ∧ s.l.take 11 = cbs k ch ep nd ∧ k < 256 ∧ ch < 256 ∧ nd < 256 := by
  have he : s.err = 0 := by
    by_cases he : s.err = 0
    · exact he
    · rw [show (11 : Int) = ((11 : Nat) : Int) from rfl, raw_err s 11 he] at h
      exact absurd h he
  obtain ⟨l, err⟩ := s
  obtain rfl : err = 0 := he
  have hl : 11 ≤ l.length := by
    rcases Nat.lt_or_ge l.length 11 with h1 | h1
    · rw [show (11 : Int) = ((11 : Nat) : Int) from rfl, raw_short l 11 h1] at h
      exact absurd h (by decide)
    · exact h1
  have G1 := get_ok' l 1 (by omega) (by omega) (by omega)
  have G2 := get_ok' (l.drop 1) 1 (by omega) (by omega) (by simp; omega)
  have G3 := get_ok' ((l.drop 1).drop 1) 8 (by omega) (by omega) (by simp; omega)
  have G4 := get_ok' (((l.drop 1).drop 1).drop 8) 1 (by omega) (by omega) (by simp; omega)
  have L1 := num_lt (l.take 1) (IsB.take hB 1)
  have L2 := num_lt ((l.drop 1).take 1) ((IsB.drop hB 1).take 1)
  have L3 := num_lt (((l.drop 1).drop 1).take 8) (((IsB.drop hB 1).drop 1).take 8)
  have L4 := num_lt ((((l.drop 1).drop 1).drop 8).take 1) ((((IsB.drop hB 1).drop 1).drop 8).take 1)
  rw [show (l.take 1).length = 1 by simp; omega] at L1
  rw [show ((l.drop 1).take 1).length = 1 by simp; omega] at L2
  rw [show (((l.drop 1).drop 1).take 8).length = 8 by simp; omega] at L3
  rw [show ((((l.drop 1).drop 1).drop 8).take 1).length = 1 by simp; omega] at L4
  simp only [Int.natCast_one, show ((8 : Nat) : Int) = 8 from rfl] at G1 G2 G3 G4
  refine ⟨_, _, _, _, ?_, ?_, ?_, ?_, ?_, rfl, bytes_back l hB hl, by omega, by omega, by omega⟩
  · rw [G1]
  · unfold ISt.c1; rw [G1, G2]
  · unfold ISt.c2 ISt.c1; rw [G1, G2, G3]
  · unfold ISt.c3 ISt.c2 ISt.c1; rw [G1, G2, G3, G4]
  · omega
theorem get1_le (s : ISt) (hB : IsB s.l) : 0 ≤ (s.get 1).2 ∧ (s.get 1).2 ≤ 255 := by
  have e : (s.get 1).2 = (num (s.raw 1).2 : Int) := by unfold ISt.get; rw [if_neg (by omega)]
  have hl := s.raw_len 1
  have hb : IsB (s.raw 1).2 := by
    unfold ISt.raw
    split
    · split
      · exact IsB.nil
      · split
        · exact IsB.nil
        · exact hB.take _
    · exact IsB.nil
  have h1 := num_lt _ hb
  have h2 : 256 ^ (s.raw 1).2.length ≤ 256 ^ 1 := Nat.pow_le_pow_right (by decide) hl
  omega
theorem InAt.isB {w : World} {F : Nat → Prop} {g : Nat} {s : ISt} (h : InAt w F g s) : IsB s.l := by obtain ⟨_, _, _, _, hb⟩ := h; exact hb.isB
theorem InAt.isOk {w : World} {F : Nat → Prop} {g : Nat} {s : ISt} (h : InAt w F g s) : s.ok := h.2.1
end Go.Proofs.YtdohnobfaignpaaDoor
