/-
  Package cmds and its answer: isKind, formOf, Check, Name.
-/
import Derived.Test.YtclfecninhipnaaGreatDoorProg
import Derived.Test.YtclfecninhipnaaGreatDoorBase
import Derived.WalkKit
import Derived.WalkSpells
import Derived.WalkLawsBesides
import Derived.RegionTactic
import Derived.BigRegion
import Derived.Deep.QuietTactic
import Derived.BigQuiet
import Derived.Lib.Hide
import Derived.Outline
import Derived.KernelRfl
namespace Go.Proofs.YtclfecninhipnaaGreatDoor
open Go.RowKit
set_option linter.unusedVariables false

/-- Which command may be: a Noop with nothing else, or one of the four others with a chain, an epoch and a node. -/
def Vld (k ch ep nd : Int) : Prop := (k = 0 ∧ ch = 0 ∧ ep = 0 ∧ nd = 0) ∨ (1 ≤ k ∧ k ≤ 4 ∧ 0 ≤ ch ∧ ch ≤ 3 ∧ 1 ≤ ep ∧ 1 ≤ nd ∧ nd ≤ 24)
/-- The error of a command. -/
def Chk (k ch ep nd e : Int) : Prop := ((k < 0 ∨ 4 < k) ∧ e = 1) ∨ (0 ≤ k ∧ k ≤ 4 ∧ ((Vld k ch ep nd ∧ e = 0) ∨ (¬ Vld k ch ep nd ∧ e = 4)))
theorem Chk.one {k ch ep nd e f : Int} (h : Chk k ch ep nd e) (h2 : Chk k ch ep nd f) : e = f := by unfold Chk Vld at *; omega
theorem Chk.ok {k ch ep nd : Int} : Chk k ch ep nd 0 ↔ Vld k ch ep nd := by unfold Chk Vld; omega
/-- The error itself. -/
noncomputable def chk (k ch ep nd : Int) : Int := by
  classical exact if k < 0 ∨ 4 < k then 1 else if Vld k ch ep nd then 0 else 4
theorem chk_is (k ch ep nd : Int) : Chk k ch ep nd (chk k ch ep nd) := by
  unfold chk
  split
  · exact .inl ⟨by assumption, rfl⟩
  · split
    · exact .inr ⟨by omega, by omega, .inl ⟨by assumption, rfl⟩⟩
    · exact .inr ⟨by omega, by omega, .inr ⟨by assumption, rfl⟩⟩

theorem isKind_yes (k : Int) (w : World) (h1 : 0 ≤ k) (h2 : k ≤ 4) : Calls Tryz.prog 204 #[.int .i64 k] w fun e w' => e = .returned (.bool true) ∧ w = w' := by
  have h3 : k < 5 := by omega
  go_enter Tryz.func204, Tryz.ntmps204
  go_wp2
  go_ret
  exact ⟨rfl, rfl⟩
theorem isKind_no (k : Int) (w : World) (h : k < 0 ∨ 4 < k) : Calls Tryz.prog 204 #[.int .i64 k] w fun e w' => e = .returned (.bool false) ∧ w = w' := by
  by_cases h1 : k < 0
  · clear h
    go_enter Tryz.func204, Tryz.ntmps204
    go_wp2
    go_ret
    exact ⟨rfl, rfl⟩
  · have h2 : decide (k < 5) = false := decide_eq_false (by omega)
    have h3 : 0 ≤ k := by omega
    clear h h1
    go_enter Tryz.func204, Tryz.ntmps204
    go_wp2
    go_ret
    exact ⟨rfl, rfl⟩
theorem formOf_any (b : Bool) (w : World) : Calls Tryz.prog 205 #[.bool b] w fun e w' => e = .returned (.int .i64 (if b then 0 else 4)) ∧ w = w' := by
  cases b
  · go_enter Tryz.func205, Tryz.ntmps205
    go_wp2
    go_ret
    exact ⟨rfl, rfl⟩
  · go_enter Tryz.func205, Tryz.ntmps205
    go_wp2
    go_ret
    exact ⟨rfl, rfl⟩
/-- What Check tells: a number of the error, and what lay there lies there. -/
def ChkEnd (k ch ep nd : Int) (w : World) (e : Ending) (w' : World) : Prop := ∃ x : Int, Chk k ch ep nd x ∧ e = .returned (.int .i64 x) ∧ Kept NoB w w'
theorem ChkEnd.mk {k ch ep nd x : Int} {w w' : World} (h : Chk k ch ep nd x) (hk : Kept NoB w w') : ChkEnd k ch ep nd w (.returned (.int .i64 x)) w' := ⟨x, h, rfl, hk⟩
set_option maxRecDepth 100000 in
theorem Check_any (k ch ep nd : Int) (w : World) (he : 0 ≤ ep) : Calls Tryz.prog 152 #[.agg #[.int .i64 k, .int .i64 ch, .int .u64 ep, .int .i64 nd]] w (ChkEnd k ch ep nd w) := by
  by_cases hk : k < 0 ∨ 4 < k
  · have HM : Hid (∀ w, Calls Tryz.prog 204 #[.int .i64 k] w fun e w' => e = .returned (.bool false) ∧ w = w') := Lib.hid (fun w => isKind_no k w hk)
    have HK := Lib.hid hk
    clear hk
    go_enter Tryz.func152, Tryz.ntmps152
    go_wp2_with (go_at_call 204; refine (HM.out _).mono ?_; rintro e w' ⟨rfl, rfl⟩)
    go_ret
    exact ChkEnd.mk (.inl ⟨HK.out, rfl⟩) ((Kept.refl _ _).alloc _)
  · have HM : Hid (∀ w, Calls Tryz.prog 204 #[.int .i64 k] w fun e w' => e = .returned (.bool true) ∧ w = w') := Lib.hid (fun w => isKind_yes k w (by omega) (by omega))
    have hk0 : 0 ≤ k := by omega
    have hk4 : k ≤ 4 := by omega
    clear hk
    by_cases h0 : k = 0
    · subst h0
      go_enter Tryz.func152, Tryz.ntmps152
      go_wp2_with (first | (go_at_call 204; refine (HM.out _).mono ?_; rintro e w' ⟨rfl, rfl⟩) | (go_at_call 205; refine (formOf_any _ _).mono ?_; rintro e w' ⟨rfl, rfl⟩))
      all_goals go_ret
      all_goals exact ChkEnd.mk (by unfold Chk Vld; first | omega | (simp at *; omega)) ((Kept.refl _ _).alloc _)
    · go_enter Tryz.func152, Tryz.ntmps152
      go_wp2_with (first | (go_at_call 204; refine (HM.out _).mono ?_; rintro e w' ⟨rfl, rfl⟩) | (go_at_call 205; refine (formOf_any _ _).mono ?_; rintro e w' ⟨rfl, rfl⟩))
      all_goals go_ret
      all_goals exact ChkEnd.mk (by unfold Chk Vld; first | omega | (simp at *; omega) | (split <;> simp at * <;> omega)) ((Kept.refl _ _).alloc _)
end Go.Proofs.YtclfecninhipnaaGreatDoor
