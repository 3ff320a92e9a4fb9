/-
  Package ballot and its answer: Next, Quorum, the page's example; the walks of BallotOf and BallotNext.
-/
import Derived.Test.YtidhaofojcdbaaaBalA
namespace Go.Proofs.Ytidhaofojcdbaaa
open Go.RowKit
set_option linter.unusedVariables false

/-- The round of the least ballot of master m above b. -/
def nextR (b m : Int) : Int := if (max (b / 8) 1) * 8 + m ≤ b then max (b / 8) 1 + 1 else max (b / 8) 1
/-- Whether the ballot of the round that is k behind b's is above b. -/
def Good (b m : Int) (k : Nat) : Prop := Fine (b / 8 + k) m ∧ b < (b / 8 + k) * 8 + m
theorem nextR_of_good {b m : Int} {k : Nat} (h0 : 0 ≤ b) (h : Good b m k) (hk : ∀ j, j < k → ¬ Good b m j) (h2 : k < 3) : b / 8 + k = nextR b m ∧ Fine (nextR b m) m := by
  have key : b / 8 + k = nextR b m := by
    have e0 : k ≠ 0 → ¬ Good b m 0 := fun h => hk 0 (by omega)
    have e1 : k = 2 → ¬ Good b m 1 := fun h => hk 1 (by omega)
    unfold Good Fine lastR at *
    unfold nextR
    rcases (by omega : k = 0 ∨ k = 1 ∨ k = 2) with rfl | rfl | rfl
    · split <;> omega
    · have := e0 (by omega)
      split <;> omega
    · have := e1 rfl
      have := e0 (by omega)
      split <;> omega
  exact ⟨key, key ▸ h.1⟩
theorem good_of_nextR {b m : Int} (h0 : 0 ≤ b) (h : Fine (nextR b m) m) : ∃ k, k < 3 ∧ Good b m k := by
  by_cases h8 : b / 8 = 0
  · refine ⟨1, by omega, ?_⟩
    unfold Fine lastR at h
    unfold Good Fine lastR
    omega
  · by_cases hm : m ≤ b % 8
    · refine ⟨1, by omega, ?_⟩
      have e : nextR b m = b / 8 + 1 := by unfold nextR; split <;> omega
      rw [e] at h
      unfold Fine lastR at h
      unfold Good Fine lastR
      omega
    · refine ⟨0, by omega, ?_⟩
      have e : nextR b m = b / 8 := by unfold nextR; split <;> omega
      rw [e] at h
      unfold Fine lastR at h
      unfold Good Fine lastR
      omega
theorem nextR_above {b m : Int} (h0 : 0 ≤ b) (h : Fine (nextR b m) m) : b < nextR b m * 8 + m := by
  obtain ⟨h1, h2, h3, h4⟩ := h
  unfold nextR
  split <;> omega

theorem bNext_arg (b m : Int) (w : World) (h : m < 1 ∨ 5 < m) : Calls Try.prog 51 #[.int .u64 b, .int .i64 m] w fun e w' => e = .returned (.tuple #[.int .u64 0, .int .i64 1]) ∧ w = w' := by
  have HM := Lib.hid (bMaster_no m w h)
  clear h
  go_enter Try.func51, Try.ntmps51
  go_wp2_with (go_at_call 88; refine HM.out.mono ?_; rintro e w' ⟨rfl, rfl⟩)
  go_ret2
  exact ⟨rfl, rfl⟩
/-- What Next tells of a master. -/
def NextIs (b m : Int) (e : Ending) : Prop := (Fine (nextR b m) m ∧ e = .returned (.tuple #[.int .u64 (nextR b m * 8 + m), .int .i64 0])) ∨ (¬ Fine (nextR b m) m ∧ e = .returned (.tuple #[.int .u64 0, .int .i64 9]))

theorem bNext_any (b m : Int) (w : World) (h0 : 0 ≤ b) (hb : b ≤ 18446744073709551615) (h1 : 1 ≤ m) (h2 : m ≤ 5) : Calls Try.prog 51 #[.int .u64 b, .int .i64 m] w fun e w' => NextIs b m e ∧ w = w' := by
  have hd : 0 ≤ b / 8 ∧ b / 8 ≤ 2305843009213693951 := by omega
  obtain ⟨hd1, hd2⟩ := hd
  have HM := Lib.hid (bMaster_yes m w h1 h2)
  by_cases hz : b / 8 < 1
  · have hn : nextR b m = 1 := by unfold nextR; rw [if_neg (by omega)]; omega
    have hF : Fine 1 m := ⟨by omega, by unfold lastR; omega, h1, h2⟩
    have HO := Lib.hid (bOf_yes 1 m w hF)
    have HR : Hid (NextIs b m (.returned (.tuple #[.int .u64 (8 + m), .int .i64 0]))) := Lib.hid (.inl ⟨hn ▸ hF, by rw [hn]; rfl⟩)
    have hb8 : b < 8 + m := by omega
    clear hn hF
    go_enter Try.func51, Try.ntmps51
    go_wp2_with (first | (go_at_call 88; refine HM.out.mono ?_; rintro e w' ⟨rfl, rfl⟩) | (go_at_call 89; refine HO.out.mono ?_; rintro e w' ⟨rfl, rfl⟩))
    go_ret2
    exact ⟨HR.out, rfl⟩
  · have hz1 : 1 ≤ b / 8 := by omega
    clear hz
    by_cases ht : b / 8 * 8 + m ≤ b
    · have hn : nextR b m = b / 8 + 1 := by unfold nextR; rw [if_pos (by omega)]; omega
      by_cases hF : Fine (b / 8 + 1) m
      · have HO := Lib.hid (bOf_yes (b / 8 + 1) m w hF)
        have HR : Hid (NextIs b m (.returned (.tuple #[.int .u64 ((b / 8 + 1) * 8 + m), .int .i64 0]))) := Lib.hid (.inl ⟨hn ▸ hF, by rw [hn]⟩)
        clear hn hF
        go_enter Try.func51, Try.ntmps51
        go_wp2_with (first | (go_at_call 88; refine HM.out.mono ?_; rintro e w' ⟨rfl, rfl⟩) | (go_at_call 89; refine HO.out.mono ?_; rintro e w' ⟨rfl, rfl⟩))
        go_ret2
        exact ⟨HR.out, rfl⟩
      · have HO := Lib.hid (bOf_no (b / 8 + 1) m w (by omega) hF)
        have HR : Hid (NextIs b m (.returned (.tuple #[.int .u64 0, .int .i64 9]))) := Lib.hid (.inr ⟨hn ▸ hF, rfl⟩)
        clear hn hF
        go_enter Try.func51, Try.ntmps51
        go_wp2_with (first | (go_at_call 88; refine HM.out.mono ?_; rintro e w' ⟨rfl, rfl⟩) | (go_at_call 89; refine HO.out.mono ?_; rintro e w' ⟨rfl, rfl⟩))
        go_ret2
        exact ⟨HR.out, rfl⟩
    · have hn : nextR b m = b / 8 := by unfold nextR; rw [if_neg (by omega)]; omega
      have ht' : b < b / 8 * 8 + m := by omega
      clear ht
      by_cases hF : Fine (b / 8) m
      · have HO := Lib.hid (bOf_yes (b / 8) m w hF)
        have HR : Hid (NextIs b m (.returned (.tuple #[.int .u64 (b / 8 * 8 + m), .int .i64 0]))) := Lib.hid (.inl ⟨hn ▸ hF, by rw [hn]⟩)
        clear hn hF
        go_enter Try.func51, Try.ntmps51
        go_wp2_with (first | (go_at_call 88; refine HM.out.mono ?_; rintro e w' ⟨rfl, rfl⟩) | (go_at_call 89; refine HO.out.mono ?_; rintro e w' ⟨rfl, rfl⟩))
        go_ret2
        exact ⟨HR.out, rfl⟩
      · have HO := Lib.hid (bOf_no (b / 8) m w (by omega) hF)
        have HR : Hid (NextIs b m (.returned (.tuple #[.int .u64 0, .int .i64 9]))) := Lib.hid (.inr ⟨hn ▸ hF, rfl⟩)
        clear hn hF
        go_enter Try.func51, Try.ntmps51
        go_wp2_with (first | (go_at_call 88; refine HM.out.mono ?_; rintro e w' ⟨rfl, rfl⟩) | (go_at_call 89; refine HO.out.mono ?_; rintro e w' ⟨rfl, rfl⟩))
        go_ret2
        exact ⟨HR.out, rfl⟩

theorem bQuorum_any (n : Int) (w : World) (h : n ≤ 9223372036854775807) : Calls Try.prog 99 #[.int .i64 n] w fun e w' => e = .returned (.int .i64 (if n < 1 then 0 else n / 2 + 1)) ∧ w = w' := by
  by_cases hn : n < 1
  · rw [if_pos hn]
    go_enter Try.func99, Try.ntmps99
    go_wp2
    go_ret
    exact ⟨rfl, rfl⟩
  · rw [if_neg hn]
    have h1 : 1 ≤ n := by omega
    clear hn
    go_enter Try.func99, Try.ntmps99
    go_wp2
    go_ret
    exact ⟨rfl, rfl⟩
end Go.Proofs.Ytidhaofojcdbaaa
