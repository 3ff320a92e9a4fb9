/-
  The walk of catenarylaw01.FixOnce: bytes that are read as numbers are put as the same bytes.
-/
import Derived.Test.YtgkkiijoblphfaaAwake
import Derived.Test.YtgkkiijoblphfaaRefD
namespace Go.Proofs.Ytgkkiijoblphfaa
open Go.RowKit

/-- The value is a slice of ints that reads as zs. -/
def ISl (w : World) (v : Value) (zs : List Int) : Prop :=
  ∃ a cap, v = .slice a zs.length cap ∧ zs.length ≤ 9223372036854775807 ∧ (0 < zs.length → ∃ b o, a = some ⟨b, o, none⟩ ∧ b < w.heap.size ∧ ∀ j, j < zs.length → w.cell? ⟨b, o + j, none⟩ = some (.int .i64 (zs.getD j 0)))

theorem OutAt.lt {w : World} {F : Nat → Prop} {g : Nat} {s : OSt} (h : OutAt w F g s) : g < w.heap.size := by
  obtain ⟨_, _, _, _, _, _, _, v, hv, _⟩ := h
  exact heap_lt hv

theorem ISt.get_some (s : ISt) (x : Int) (h0 : s.err = 0) (he : (s.get x).1.err = 0) :
    ∃ k : Nat, x = k ∧ 1 ≤ k ∧ k ≤ 8 ∧ k ≤ s.l.length ∧ s.get x = (⟨s.l.drop k, 0⟩, (num (s.l.take k) : Int)) := by
  unfold ISt.get at he ⊢
  by_cases hw : x < 1 ∨ 8 < x
  · rw [if_pos hw] at he
    simp [ISt.fail, h0] at he
  · rw [if_neg hw] at he ⊢
    obtain ⟨k, rfl⟩ := Int.eq_ofNat_of_zero_le (show 0 ≤ x by omega)
    refine ⟨k, rfl, by omega, by omega, ?_⟩
    unfold ISt.raw at he ⊢
    rw [if_pos h0, if_neg (by omega)] at he ⊢
    by_cases hl : (s.l.length : Int) < (k : Int)
    · rw [if_pos hl] at he
      simp at he
    · rw [if_neg hl]
      exact ⟨by omega, by rw [Int.toNat_natCast]⟩

theorem once_put (c d : List Int) (k : Nat) (hb : IsB d) (h1 : 1 ≤ k) (h8 : k ≤ 8) (hk : k ≤ d.length) (hs : c.length + d.length ≤ 200) :
    (⟨c, 200, 0⟩ : OSt).emit (putErr (num (d.take k) : Int) k) (be (num (d.take k) : Int).toNat (k : Int).toNat) = ⟨c ++ d.take k, 200, 0⟩ := by
  have hl : (d.take k).length = k := by rw [List.length_take]; omega
  have hlt := num_lt (d.take k) (hb.take k)
  rw [hl] at hlt
  have hbe := be_num (d.take k) (hb.take k)
  rw [hl] at hbe
  rw [(putErr_fit (num (d.take k)) k h1 h8 hlt).1, Int.toNat_natCast, Int.toNat_natCast, hbe]
  unfold OSt.emit
  rw [if_pos rfl, if_pos rfl, if_pos (by rw [hl]; show (k : Int) ≤ 200 - (c.length : Int); omega)]

end Go.Proofs.Ytgkkiijoblphfaa
