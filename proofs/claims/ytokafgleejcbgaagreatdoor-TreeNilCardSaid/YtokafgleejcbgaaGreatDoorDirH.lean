/-
  Layer 29: the walk of DirsPaths.
-/
import Derived.Test.YtokafgleejcbgaaGreatDoorDirG
namespace Go.Proofs.YtokafgleejcbgaaGreatDoor
open Go.RowKit
set_option linter.unusedVariables false

theorem join_wgs (r : List UInt8) : ∀ cur, Lib.join (wgs cur r) [47] = cur ++ r := by
  induction r with
  | nil => intro cur; rw [wgs]; simp [Lib.join]
  | cons c r ih =>
    intro cur
    rw [wgs]
    split
    · rename_i h
      have hne : wgs [] r ≠ [] := fun h0 => by have := wgs_pos r []; rw [h0] at this; simp at this
      rw [join_cons29 _ _ hne, ih, h]; simp
    · rw [ih]; simp
/-- What is split is joined. -/
theorem split_join {l : List UInt8} (h : pathE l = 0) : jn29 (pathNs l) = l ∧ und29 l [47] = true ∧ und29 l l = true := by
  have hp : pathOk l := by
    unfold pathE at h
    by_cases hh : pathOk l
    · exact hh
    · rw [if_neg hh] at h; cases h
  have hroot : pathE [47] = 0 ∧ pathNs [47] = [] := ⟨by decide, by decide⟩
  refine ⟨?_, ?_, ?_⟩
  · by_cases h47 : l = [47]
    · rw [h47, hroot.2]; rfl
    · have hns : pathNs l = wgs [] l.tail := by unfold pathNs; rw [if_pos ⟨hp, h47⟩]
      rw [hns]
      unfold jn29
      rw [join_wgs]
      cases l with
      | nil => cases hp.1
      | cons a b => have := hp.1; injection this with this; rw [this]; rfl
  · unfold und29
    rw [hroot.1, hroot.2]
    exact decide_eq_true ⟨h, rfl, Nat.zero_le _, rfl⟩
  · unfold und29
    exact decide_eq_true ⟨h, h, Nat.le_refl _, List.take_length⟩
end Go.Proofs.YtokafgleejcbgaaGreatDoor
