/-
  Layer 29: Get of the package.
-/
import Derived.Test.YtokafgleejcbgaaDoorDirP
import Derived.BigRegion
import Derived.Deep.RegionLaw
import Derived.Deep.RegionHeld3
namespace Go.Proofs.YtokafgleejcbgaaDoor
open Go.RowKit
set_option linter.unusedVariables false

theorem get_le29 {s : ISt} (hB : IsB s.l) {w : Nat} (h1 : 1 ≤ w) (h8 : w ≤ 8) : 0 ≤ (s.get (w : Int)).2 ∧ (s.get (w : Int)).2 < ((256 ^ w : Nat) : Int) := by
  unfold ISt.get
  rw [if_neg (by omega)]
  by_cases he : s.err = 0
  · by_cases hl : (s.l.length : Int) < (w : Int)
    · have hr : s.raw (w : Int) = (⟨[], 3⟩, []) := by unfold ISt.raw; rw [if_pos he, if_neg (by omega), if_pos hl]
      rw [hr]
      have := Nat.pow_pos (n := w) (show 0 < 256 by decide)
      exact ⟨Int.le_refl _, by show (0 : Int) < _; omega⟩
    · have hr : s.raw (w : Int) = (⟨s.l.drop w, 0⟩, s.l.take w) := by unfold ISt.raw; rw [if_pos he, if_neg (by omega), if_neg hl, Int.toNat_natCast]
      rw [hr]
      have := num_lt _ (hB.take w)
      rw [List.length_take, Nat.min_eq_left (by omega)] at this
      exact ⟨by show (0 : Int) ≤ (num _ : Int); omega, Int.ofNat_lt.2 this⟩
  · have hr : s.raw (w : Int) = (s, []) := by unfold ISt.raw; rw [if_neg he]
    rw [hr]
    have := Nat.pow_pos (n := w) (show 0 < 256 by decide)
    exact ⟨Int.le_refl _, by show (0 : Int) < _; omega⟩
/-- What is got has these bytes. -/
theorem gqsE_names (n : Nat) (s : ISt) : ∀ p ∈ (gqsE n s).2, p.1.length ≤ 11 := by
  induction n with
  | zero => intro p hp; cases hp
  | succ n ih =>
    intro p hp
    have hp : p ∈ (gqsE n s).2 ++ [(gqE (gqsE n s).1).2] := hp
    rcases List.mem_append.1 hp with hp | hp
    · exact ih p hp
    · rw [List.mem_singleton] at hp
      rw [hp]
      unfold gqE
      simp only
      rw [bytesU_len, List.length_take]
      have := upto_le29 (gqsE n s).1
      omega
theorem up_raw29 (s : ISt) (h : s.err ≠ 0 ∨ ∃ b, s = ⟨b, 0⟩ ∧ IsB b ∧ 16 ≤ b.length) : (s.upto 1 11).2.toNat ≤ ((s.upto 1 11).1.raw 11).2.length := by
  rcases h with h | ⟨b, rfl, hB, hl⟩
  · rw [upto_err29 h]; exact Nat.zero_le _
  · rw [upto_ok29 hB (by omega)]
    split
    · exact Nat.zero_le _
    · rename_i h
      have hr : (⟨b.drop 1, 0⟩ : ISt).raw 11 = ((⟨(b.drop 1).drop 11, 0⟩ : ISt), (b.drop 1).take 11) := by
        unfold ISt.raw
        rw [if_pos rfl, if_neg (by omega), if_neg (by show ¬ ((b.drop 1).length : Int) < 11; rw [List.length_drop]; omega)]
        rfl
      simp only [hr]
      rw [List.length_take, List.length_drop]
      omega
theorem BSl.no29 {w w' : World} {F : Nat → Prop} {v : Value} {l : List Int} (h : BSl w F v l) (hk : Kept NoB w w') : BSl w' F v l := h.kept hk (fun _ _ h => h)
theorem frz2 {w : World} {g : Nat} {ps : List En} (h : RowE w g ps) (o : Nat) : w.frozen? ⟨g, o, none⟩ = false := by unfold RowE at h; simp [World.frozen?, h]
end Go.Proofs.YtokafgleejcbgaaDoor
