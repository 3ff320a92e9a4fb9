/-
  Layer 30: which volumes may be, and their keys: Right, Inode, Block, of the package and the chapter's.
-/
import Derived.Test.YtokafgleejcbgaaGreatDoorRef
namespace Go.Proofs.YtokafgleejcbgaaGreatDoor
open Go.RowKit
set_option linter.unusedVariables false

/-- Such a volume may be. -/
def rgt30 (n b : Int) : Prop := 1 ≤ n ∧ n ≤ 64 ∧ 1 ≤ b ∧ b ≤ 96
instance (n b : Int) : Decidable (rgt30 n b) := by unfold rgt30; infer_instance
def ino30 (n b i : Int) : Int := if rgt30 n b ∧ 1 ≤ i ∧ i ≤ n then i + 1 else 0
def blk30 (n b i : Int) : Int := if rgt30 n b ∧ 0 ≤ i ∧ i < b then i + n + 2 else 0
theorem ret_b30 {a b : Bool} (h : a = b) : Ending.returned (.bool a) = .returned (.bool b) := by rw [h]
theorem ret_u30 {a b : Int} (h : a = b) : Ending.returned (.int .u32 a) = .returned (.int .u32 b) := by rw [h]
theorem cell2_30 {w : World} {b : Nat} {x y : Value} {t : TypeId} (h : w.heap[b]? = some (.cells #[x, y] t (0, 0))) : w.cell? ⟨b, 0, none⟩ = some x ∧ w.cell? ⟨b, 1, none⟩ = some y :=
  ⟨cell_of_row _ _ 0 _ _ _ h, cell_of_row _ _ 1 _ _ _ h⟩
set_option maxRecDepth 100000 in
theorem vRight_any (n b : Int) (w : World) : Calls Tryz.prog 48 #[.agg #[.int .i64 n, .int .i64 b]] w fun e w' => e = .returned (.bool (decide (rgt30 n b))) ∧ Kept NoB w w' := by
  have hk := (Kept.refl NoB w).alloc (.cells #[.int .i64 n, .int .i64 b] 46)
  obtain ⟨r, hr⟩ : ∃ r, r = decide (rgt30 n b) := ⟨_, rfl⟩
  rw [← hr]
  unfold rgt30 at hr
  have HR := Lib.hid hr
  clear hr
  by_cases h1 : 1 ≤ n
  · by_cases h2 : n ≤ 64
    · by_cases h3 : 1 ≤ b
      · by_cases h4 : b ≤ 96
        · go_enter Tryz.func48, Tryz.ntmps48
          go_wp2
          go_ret
          exact ⟨ret_b30 (by rw [HR.out]; symm; first | exact decide_eq_true (by omega) | exact decide_eq_false (by omega)), hk⟩
        · go_enter Tryz.func48, Tryz.ntmps48
          go_wp2
          go_ret
          exact ⟨ret_b30 (by rw [HR.out]; symm; first | exact decide_eq_true (by omega) | exact decide_eq_false (by omega)), hk⟩
      · go_enter Tryz.func48, Tryz.ntmps48
        go_wp2
        go_ret
        exact ⟨ret_b30 (by rw [HR.out]; symm; first | exact decide_eq_true (by omega) | exact decide_eq_false (by omega)), hk⟩
    · go_enter Tryz.func48, Tryz.ntmps48
      go_wp2
      go_ret
      exact ⟨ret_b30 (by rw [HR.out]; symm; first | exact decide_eq_true (by omega) | exact decide_eq_false (by omega)), hk⟩
  · go_enter Tryz.func48, Tryz.ntmps48
    go_wp2
    go_ret
    exact ⟨ret_b30 (by rw [HR.out]; symm; first | exact decide_eq_true (by omega) | exact decide_eq_false (by omega)), hk⟩
end Go.Proofs.YtokafgleejcbgaaGreatDoor
