/-
  Package ballot and its answer: isMaster, Of, Is, Round, Who.
-/
import Derived.Test.YtclfecninhipnaaGreatDoorProg
import Derived.Test.YtclfecninhipnaaGreatDoorBase
import Derived.WalkKit
import Derived.WalkSpells
import Derived.WalkLawsBesides
import Derived.RegionTactic
import Derived.BigRegion
import Derived.Deep.QuietTactic
import Derived.BigQuiet
import Derived.Lib.Hide
import Derived.Outline
import Derived.KernelRfl
namespace Go.Proofs.YtclfecninhipnaaGreatDoor
open Go.RowKit
set_option linter.unusedVariables false

/-- The last round. -/
def lastR : Int := 1152921504606846975
/-- A round and a master that have a ballot. -/
def Fine (r m : Int) : Prop := 1 ≤ r ∧ r ≤ lastR ∧ 1 ≤ m ∧ m ≤ 5
theorem lastR_eq : lastR = 1152921504606846975 := rfl

theorem bMaster_yes (m : Int) (w : World) (h1 : 1 ≤ m) (h2 : m ≤ 5) : Calls Tryz.prog 191 #[.int .i64 m] w fun e w' => e = .returned (.bool true) ∧ w = w' := by
  go_enter Tryz.func191, Tryz.ntmps191
  go_wp2
  go_ret
  exact ⟨rfl, rfl⟩
theorem bMaster_no (m : Int) (w : World) (h : m < 1 ∨ 5 < m) : Calls Tryz.prog 191 #[.int .i64 m] w fun e w' => e = .returned (.bool false) ∧ w = w' := by
  by_cases h1 : m < 1
  · clear h
    go_enter Tryz.func191, Tryz.ntmps191
    go_wp2
    go_ret
    exact ⟨rfl, rfl⟩
  · have h2 : decide (m ≤ 5) = false := decide_eq_false (by omega)
    have h3 : 1 ≤ m := by omega
    clear h h1
    go_enter Tryz.func191, Tryz.ntmps191
    go_wp2
    go_ret
    exact ⟨rfl, rfl⟩
theorem bOf_yes (r m : Int) (w : World) (h : Fine r m) : Calls Tryz.prog 136 #[.int .u64 r, .int .i64 m] w fun e w' => e = .returned (.tuple #[.int .u64 (r * 8 + m), .int .i64 0]) ∧ w = w' := by
  obtain ⟨h1, h2, h3, h4⟩ := h
  unfold lastR at h2
  go_enter Tryz.func136, Tryz.ntmps136
  go_wp2_with (go_at_call 191; refine (bMaster_yes _ _ h3 h4).mono ?_; rintro e w' ⟨rfl, rfl⟩)
  go_ret2
  exact ⟨rfl, rfl⟩
theorem bOf_no (r m : Int) (w : World) (h0 : 0 ≤ r) (h : ¬ Fine r m) : Calls Tryz.prog 136 #[.int .u64 r, .int .i64 m] w fun e w' => e = .returned (.tuple #[.int .u64 0, .int .i64 1]) ∧ w = w' := by
  by_cases h1 : r < 1
  · clear h
    go_enter Tryz.func136, Tryz.ntmps136
    go_wp2
    go_ret2
    exact ⟨rfl, rfl⟩
  · by_cases h2 : 1152921504606846975 < r
    · have h3 : 1 ≤ r := by omega
      clear h h1
      go_enter Tryz.func136, Tryz.ntmps136
      go_wp2
      go_ret2
      exact ⟨rfl, rfl⟩
    · have h3 : 1 ≤ r := by omega
      have h4 : r ≤ 1152921504606846975 := by omega
      have h5 : m < 1 ∨ 5 < m := by unfold Fine lastR at h; omega
      have HM := Lib.hid (bMaster_no m w h5)
      clear h h1 h2 h5
      go_enter Tryz.func136, Tryz.ntmps136
      go_wp2_with (go_at_call 191; refine HM.out.mono ?_; rintro e w' ⟨rfl, rfl⟩)
      go_ret2
      exact ⟨rfl, rfl⟩
theorem bIs_yes (b : Int) (w : World) (h0 : 0 ≤ b) (hm : b ≤ 18446744073709551615) (h : Fine (b / 8) (b % 8)) : Calls Tryz.prog 82 #[.int .u64 b] w fun e w' => e = .returned (.bool true) ∧ w = w' := by
  have HM := Lib.hid (bOf_yes (b / 8) (b % 8) w h)
  clear h
  go_enter Tryz.func82, Tryz.ntmps82
  go_wp2_with (go_at_call 136; refine HM.out.mono ?_; rintro e w' ⟨rfl, rfl⟩)
  go_ret
  exact ⟨rfl, rfl⟩
theorem bIs_no (b : Int) (w : World) (h0 : 0 ≤ b) (hm : b ≤ 18446744073709551615) (h : ¬ Fine (b / 8) (b % 8)) : Calls Tryz.prog 82 #[.int .u64 b] w fun e w' => e = .returned (.bool false) ∧ w = w' := by
  have HM := Lib.hid (bOf_no (b / 8) (b % 8) w (by omega) h)
  clear h
  go_enter Tryz.func82, Tryz.ntmps82
  go_wp2_with (go_at_call 136; refine HM.out.mono ?_; rintro e w' ⟨rfl, rfl⟩)
  go_ret
  exact ⟨rfl, rfl⟩
end Go.Proofs.YtclfecninhipnaaGreatDoor
