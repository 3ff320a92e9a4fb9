/-
  The frame of the statements' proofs, without any package of the program: what every frame needs.
-/
import Derived.Test.YtiifkcjngajegaaRows
import Derived.WalkKit
import Derived.ProofKit
import Derived.OpenShut
import Derived.ShutString
import Derived.ChangeOld
import Derived.ChangeSame
import Derived.Below
import Derived.Deep.Slices
import Derived.Deep.Fields
import Derived.KernelRfl
import Derived.Lib.Hide
namespace Go.Proofs.Ytiifkcjngajegaa
open Go.ChangeShapes Go.WideShapes Go.ChangeAt Go.RowKit Go.Deep

theorem own_knob : ownKnob Try.prog.godebug = none := by kernel_rfl
theorem laid_out : laidOutB Try.prog = true := by kernel_rfl
theorem addr_add (b o j : Nat) : (⟨b, o, none⟩ : Addr).add j = ⟨b, o + j, none⟩ := by unfold Addr.add; split <;> simp_all
theorem pick_all {α : Type} {m : Nat} {Q : Nat → α → Prop} (z : α) (h : ∀ j, j < m → ∃ x, Q j x) : ∃ f : Nat → α, ∀ j, j < m → Q j (f j) :=
  ⟨fun j => if hj : j < m then Classical.choose (h j hj) else z, fun j hj => by
    simp only [dif_pos hj]
    exact Classical.choose_spec (h j hj)⟩
end Go.Proofs.Ytiifkcjngajegaa
