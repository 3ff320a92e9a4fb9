/-
  What the calls of a fix.In that stand on next do.
-/
import Derived.Test.YtokafgleejcbgaaDoorIn
import Derived.Laws.BitsAllLaws
namespace Go.Proofs.YtokafgleejcbgaaDoor
open Go.RowKit

theorem ISt.raw_len (s : ISt) (n : Int) : (s.raw n).2.length ≤ n.toNat := by
  unfold ISt.raw
  split
  · split
    · simp
    · split
      · simp
      · simp [List.length_take]; omega
  · simp

theorem or_byte (N : Nat) (x : Int) (hN : N < 72057594037927936) (h0 : 0 ≤ x) (h1 : x < 256) : bits BinOp.or IntKind.u64 (IntKind.u64.wrap ((N : Int) * 256)) (IntKind.u64.wrap x) = ((N * 256 + x.toNat : Nat) : Int) := by
  obtain ⟨y, rfl⟩ := Int.eq_ofNat_of_zero_le h0
  have e1 : IntKind.u64.wrap ((N : Int) * 256) = ((N * 256 : Nat) : Int) := by rw [IntWalk.u64_in _ (by omega)]; omega
  have e2 : IntKind.u64.wrap (y : Int) = (y : Int) := IntWalk.u64_in _ (by omega)
  rw [e1, e2, u64_or_nat _ _ (by omega) (by omega), Int.toNat_natCast]
  have := Nat.two_pow_add_eq_or_of_lt (i := 8) (b := y) (by omega) N
  rw [show (2 : Nat) ^ 8 = 256 from rfl, Nat.mul_comm] at this
  rw [this]

theorem num_step (l : List Int) (hl : IsB l) (h8 : l.length ≤ 8) (j : Nat) (hj : j < l.length) :
    bits BinOp.or IntKind.u64 (IntKind.u64.wrap ((num (l.take j) : Int) * 256)) (IntKind.u64.wrap (l.getD j 0)) = (num (l.take (j + 1)) : Int) := by
  have h1 := num_lt (l.take j) (hl.take j)
  have h2 : (l.take j).length ≤ 7 := by rw [List.length_take]; omega
  have h3 : 256 ^ (l.take j).length ≤ 256 ^ 7 := Nat.pow_le_pow_right (by decide) h2
  have hx := hl.getD j
  rw [or_byte _ _ (by omega) hx.1 hx.2, List.take_succ_eq_append_getElem hj, num_snoc, List.getD_eq_getElem?_getD, List.getElem?_eq_getElem hj]
  rfl

theorem ISt.get_err (s : ISt) (width : Int) (he : (s.get width).1.err ≠ 0) : (s.get width).2 = 0 := by
  unfold ISt.get at he ⊢
  split
  · rfl
  · rename_i hw
    rw [if_neg hw] at he
    simp only at he ⊢
    unfold ISt.raw at he ⊢
    split at he
    · rename_i h0
      rw [if_pos h0]
      split
      · rfl
      · split
        · rfl
        · rename_i h1 h2
          rw [if_neg h1, if_neg h2] at he
          exact absurd rfl he
    · rename_i h0
      rw [if_neg h0]
      rfl
theorem ISt.get_ok {s : ISt} (h : s.ok) (width : Int) : (s.get width).1.ok := by
  unfold ISt.get
  split
  · exact ISt.fail_ok h (by decide) (by decide)
  · exact ISt.raw_ok h _
theorem ISt.upto_get (s : ISt) (width most : Int) (hm : 0 ≤ most) : s.upto width most = if most < (s.get width).2 then ((s.get width).1.fail 4, 0) else ((s.get width).1, (s.get width).2) := by
  have hge := s.get_err width
  unfold ISt.upto
  unfold ISt.get at hge ⊢
  by_cases hw : width < 1 ∨ 8 < width
  · rw [if_pos hw, if_pos hw]
    simp only
    rw [if_neg (by omega)]
  · rw [if_neg hw] at hge ⊢
    rw [if_neg hw]
    simp only at hge ⊢
    by_cases he : (s.raw width).1.err = 0
    · rw [if_pos he]
      by_cases hn : most < num (s.raw width).2
      · rw [if_pos hn, if_pos hn]
        simp only [ISt.fail, he, if_true]
      · rw [if_neg hn, if_neg hn]
    · rw [if_neg he]
      have := hge he
      rw [if_neg (by omega), this]

theorem ISt.get2_lt (s : ISt) (hb : IsB s.l) : 0 ≤ (s.get 2).2 ∧ (s.get 2).2 < 65536 := by
  have e : (s.get 2).2 = (num (s.raw 2).2 : Int) := by unfold ISt.get; rw [if_neg (by omega)]
  have hl := s.raw_len 2
  have hB : IsB (s.raw 2).2 := by
    unfold ISt.raw
    split
    · split
      · exact IsB.nil
      · split
        · exact IsB.nil
        · exact hb.take _
    · exact IsB.nil
  have h1 := num_lt _ hB
  have h3 : 256 ^ (s.raw 2).2.length ≤ 256 ^ 2 := Nat.pow_le_pow_right (by decide) hl
  rw [e]
  omega

end Go.Proofs.YtokafgleejcbgaaDoor
