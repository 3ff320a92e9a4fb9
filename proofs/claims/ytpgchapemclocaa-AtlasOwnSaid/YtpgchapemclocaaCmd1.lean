/-
  Package cmds and its answer: isKind, formOf, Check, Name.
-/
import Derived.Test.YtpgchapemclocaaProg
import Derived.Test.YtpgchapemclocaaBase
import Derived.WalkKit
import Derived.WalkSpells
import Derived.WalkLawsBesides
import Derived.RegionTactic
import Derived.BigRegion
import Derived.Deep.QuietTactic
import Derived.BigQuiet
import Derived.Lib.Hide
import Derived.Outline
import Derived.KernelRfl
namespace Go.Proofs.Ytpgchapemclocaa
open Go.RowKit
set_option linter.unusedVariables false

/-- Which command may be: a Noop with nothing else, or one of the four others with a chain, an epoch and a node. -/
def Vld (k ch ep nd : Int) : Prop := (k = 0 ∧ ch = 0 ∧ ep = 0 ∧ nd = 0) ∨ (1 ≤ k ∧ k ≤ 4 ∧ 0 ≤ ch ∧ ch ≤ 3 ∧ 1 ≤ ep ∧ 1 ≤ nd ∧ nd ≤ 24)
/-- The error of a command. -/
def Chk (k ch ep nd e : Int) : Prop := ((k < 0 ∨ 4 < k) ∧ e = 1) ∨ (0 ≤ k ∧ k ≤ 4 ∧ ((Vld k ch ep nd ∧ e = 0) ∨ (¬ Vld k ch ep nd ∧ e = 4)))
theorem Chk.one {k ch ep nd e f : Int} (h : Chk k ch ep nd e) (h2 : Chk k ch ep nd f) : e = f := by unfold Chk Vld at *; omega
theorem Chk.ok {k ch ep nd : Int} : Chk k ch ep nd 0 ↔ Vld k ch ep nd := by unfold Chk Vld; omega
/-- The error itself. -/
noncomputable def chk (k ch ep nd : Int) : Int := by
  classical exact if k < 0 ∨ 4 < k then 1 else if Vld k ch ep nd then 0 else 4
theorem chk_is (k ch ep nd : Int) : Chk k ch ep nd (chk k ch ep nd) := by
  unfold chk
  split
  · exact .inl ⟨by assumption, rfl⟩
  · split
    · exact .inr ⟨by omega, by omega, .inl ⟨by assumption, rfl⟩⟩
    · exact .inr ⟨by omega, by omega, .inr ⟨by assumption, rfl⟩⟩

/-- What Check tells: a number of the error, and what lay there lies there. -/
def ChkEnd (k ch ep nd : Int) (w : World) (e : Ending) (w' : World) : Prop := ∃ x : Int, Chk k ch ep nd x ∧ e = .returned (.int .i64 x) ∧ Kept NoB w w'
theorem ChkEnd.mk {k ch ep nd x : Int} {w w' : World} (h : Chk k ch ep nd x) (hk : Kept NoB w w') : ChkEnd k ch ep nd w (.returned (.int .i64 x)) w' := ⟨x, h, rfl, hk⟩
end Go.Proofs.Ytpgchapemclocaa
