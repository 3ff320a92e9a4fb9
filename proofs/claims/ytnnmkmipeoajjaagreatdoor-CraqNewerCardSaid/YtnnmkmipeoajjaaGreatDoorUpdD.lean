/-
  Package update: the function literals; Copy, Batch, Fits, Runs.
-/
import Derived.Test.YtnnmkmipeoajjaaGreatDoorUpdC
namespace Go.Proofs.YtnnmkmipeoajjaaGreatDoor
open Go.RowKit
set_option linter.unusedVariables false
set_option linter.unusedSimpArgs false

/-- A block of one number. -/
def NumAt (t : TypeId) (b : Nat) (s : Value) (w : World) : Prop := w.heap[b]? = some (.cells #[s] t (0, 0))
theorem NumAt.keep {t : TypeId} {b : Nat} {s : Value} {S : Nat → Prop} {a c : World} (h : NumAt t b s a) (hk : Kept S a c) (hs : ¬ S b) : NumAt t b s c := hk.heap hs h
theorem NumAt.cell {t : TypeId} {b : Nat} {s : Value} {w : World} (h : NumAt t b s w) : w.cell? ⟨b, 0, none⟩ = some s := cell_of_row _ _ 0 _ _ _ h
theorem NumAt.set {t : TypeId} {b : Nat} {s : Value} {w : World} (h : NumAt t b s w) (u : Value) : NumAt t b u (w.setCell ⟨b, 0, none⟩ u) := blkU_set h 0 u
/-- sequence's number. -/
def SeqSt (b : Nat) (s : Int) (w : World) : Prop := NumAt 25 b (.int .u64 s) w ∧ 0 ≤ s ∧ s ≤ 18446744073709551615
/-- Batch's number, beside what it is held against. -/
def BatSt (b b1 b2 : Nat) (after most : Int) (s : Int) (w : World) : Prop := NumAt 3 b (.int .i64 s) w ∧ NumAt 25 b1 (.int .u64 after) w ∧ NumAt 3 b2 (.int .i64 most) w ∧ 0 ≤ s ∧ s ≤ 10000 ∧ b1 ≠ b ∧ b2 ≠ b
end Go.Proofs.YtnnmkmipeoajjaaGreatDoor
