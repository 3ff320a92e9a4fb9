/-
  Package update: Request; the chapter's; the walk of UpdateRequests.
-/
import Derived.Test.YtabjpmkkigflmaaGreatDoorLtrJ
import Derived.Test.YtabjpmkkigflmaaGreatDoorLtrK
namespace Go.Proofs.YtabjpmkkigflmaaGreatDoor
open Go.RowKit
set_option linter.unusedVariables false
set_option linter.unusedSimpArgs false

theorem isUp_iff (x : Up) (hn : 0 ≤ x.n) (hr : 0 ≤ x.r) (hk : x.k = 2 ∨ x.k = 3) (hl : ¬ 2048 < x.d.length) : isUp x = true ↔ ¬ (x.c < 1 ∨ 6 < x.c ∨ x.n = 0 ∨ (x.k = 2 ∧ 0 < x.r)) := by
  unfold isUp
  rw [decide_eq_true_eq]
  omega
theorem chk_push (x : Up) (h : FitU x) : chkU areUs x = chkR true x := by
  unfold chkU chkR
  by_cases hk : x.k = 2 ∨ x.k = 3
  rotate_left
  · rw [if_pos hk, if_pos hk]
  have hkk : ¬ ¬ (x.k = 2 ∨ x.k = 3) := fun h => h hk
  rw [if_neg hkk, if_neg hkk]
  by_cases hl : 2048 < x.d.length
  · rw [if_pos hl, if_pos hl]
  rw [if_neg hl, if_neg hl]
  have hi := isUp_iff x h.2.2.1 h.2.2.2.2.2.2.1 hk hl
  have ha : areUs [x] = (!decide (x.q < 1) && isUp x) := by unfold areUs; simp
  have hD : ((decide (0 < x.q) != true) = true) ↔ ¬ 0 < x.q := by simp
  have hE : ((!decide (x.q < 1)) = true) ↔ ¬ x.q < 1 := by simp
  have hiff : areUs [x] = true ↔ ¬ ((decide (0 < x.q) != true) = true ∨ x.c < 1 ∨ 6 < x.c ∨ x.n = 0 ∨ (x.k = 2 ∧ 0 < x.r)) := by
    rw [ha, Bool.and_eq_true, hE, hi, hD]
    omega
  by_cases hP : (decide (0 < x.q) != true) = true ∨ x.c < 1 ∨ 6 < x.c ∨ x.n = 0 ∨ (x.k = 2 ∧ 0 < x.r)
  · rw [if_neg (show ¬ areUs [x] = true from fun h => hiff.1 h hP), if_pos hP]
  · rw [if_pos (show areUs [x] = true from hiff.2 hP), if_neg hP]
theorem chk_ask (x : Up) (h : FitU x) : chkU areReq x = chkR false x := by
  unfold chkU chkR
  by_cases hk : x.k = 2 ∨ x.k = 3
  rotate_left
  · rw [if_pos hk, if_pos hk]
  have hkk : ¬ ¬ (x.k = 2 ∨ x.k = 3) := fun h => h hk
  rw [if_neg hkk, if_neg hkk]
  by_cases hl : 2048 < x.d.length
  · rw [if_pos hl, if_pos hl]
  rw [if_neg hl, if_neg hl]
  have hi := isUp_iff x h.2.2.1 h.2.2.2.2.2.2.1 hk hl
  have ha : areReq [x] = (decide (x.q = 0) && isUp x) := by unfold areReq nthU; simp
  have h0 := h.1
  have hD : ((decide (0 < x.q) != false) = true) ↔ 0 < x.q := by simp
  have hiff : areReq [x] = true ↔ ¬ ((decide (0 < x.q) != false) = true ∨ x.c < 1 ∨ 6 < x.c ∨ x.n = 0 ∨ (x.k = 2 ∧ 0 < x.r)) := by
    rw [ha, Bool.and_eq_true, decide_eq_true_eq, hi, hD]
    omega
  by_cases hP : (decide (0 < x.q) != false) = true ∨ x.c < 1 ∨ 6 < x.c ∨ x.n = 0 ∨ (x.k = 2 ∧ 0 < x.r)
  · rw [if_neg (show ¬ areReq [x] = true from fun h => hiff.1 h hP), if_pos hP]
  · rw [if_pos (show areReq [x] = true from hiff.2 hP), if_neg hP]
/-- What URequest tells. -/
def URequestE (w : World) (F : Nat → Prop) (x : Up) (e : Ending) (w' : World) : Prop :=
  ∃ v', e = .returned (.tuple #[v', .int .i64 (chkU areReq x)]) ∧ UpV w' (fun k => F k ∨ w.heap.size ≤ k) v' (if chkU areReq x = 0 then x else up0) ∧ Kept NoB w w'
/-- What RRequest tells. -/
def RRequestE (w : World) (F : Nat → Prop) (x : Up) (e : Ending) (w' : World) : Prop :=
  ∃ v', e = .returned (.tuple #[v', .int .i64 (chkR false x)]) ∧ UpV w' (fun k => F k ∨ w.heap.size ≤ k) v' (if chkR false x = 0 then x else up0) ∧ Kept NoB w w'
end Go.Proofs.YtabjpmkkigflmaaGreatDoor
