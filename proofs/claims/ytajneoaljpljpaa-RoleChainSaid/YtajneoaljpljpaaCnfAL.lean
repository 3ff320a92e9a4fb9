/-
  Configurations of any size in memory, and whether they are few.
-/
import Derived.Test.YtajneoaljpljpaaCnfC
import Derived.Test.YtajneoaljpljpaaCnfL
namespace Go.Proofs.Ytajneoaljpljpaa
open Go.RowKit
set_option linter.unusedVariables false

/-- A configuration by value, as large as it likes. -/
def CfR (w : World) (F : Nat → Prop) (v : Value) (c : Cf) : Prop :=
  ∃ u, v = .agg #[.int .i64 c.ch, .int .u64 c.ep, u, .bool c.fr, .int .i64 c.jn] ∧ NSl w F u c.ns ∧ 0 ≤ c.ep ∧ c.ep ≤ topE
/-- In five cells. -/
def CfL (w : World) (F : Nat → Prop) (b o : Nat) (c : Cf) : Prop :=
  ∃ u, w.cell? ⟨b, o, none⟩ = some (.int .i64 c.ch) ∧ w.cell? ⟨b, o + 1, none⟩ = some (.int .u64 c.ep) ∧ w.cell? ⟨b, o + 2, none⟩ = some u ∧ w.cell? ⟨b, o + 3, none⟩ = some (.bool c.fr) ∧
    w.cell? ⟨b, o + 4, none⟩ = some (.int .i64 c.jn) ∧ NSl w F u c.ns ∧ 0 ≤ c.ep ∧ c.ep ≤ topE
/-- A slice of them. -/
def CfsR (w : World) (F : Nat → Prop) (v : Value) (l : List Cf) : Prop :=
  ∃ a cap, v = .slice a l.length cap ∧ l.length ≤ cap ∧ cap ≤ maxLen ∧ (a = none → cap = 0) ∧
    (0 < l.length → ∃ b o, a = some ⟨b, o, none⟩ ∧ F b ∧ b < w.heap.size ∧ ∀ j, j < l.length → CfL w F b (o + j * 5) (nthC l j))
def Few (l : List Cf) : Prop := l.length ≤ 6 ∧ ∀ j, j < l.length → (nthC l j).ns.length ≤ 30
instance (l : List Cf) : Decidable (Few l) := inferInstanceAs (Decidable (_ ∧ _))
theorem CfR.cfV {w : World} {F : Nat → Prop} {v : Value} {c : Cf} (h : CfR w F v c) (hf : c.ns.length ≤ 30) : CfV w F v c := by
  obtain ⟨u, h1, h2, h3, h4⟩ := h
  exact ⟨u, h1, h2, h3, h4, by omega⟩
theorem CfsR.cfs {w : World} {F : Nat → Prop} {v : Value} {l : List Cf} (h : CfsR w F v l) (hf : Few l) : CfsAt w F v l := by
  obtain ⟨a, cap, h1, h2, h3, h4, h5⟩ := h
  refine ⟨a, cap, h1, h2, h3, h4, fun hl => ?_⟩
  obtain ⟨b, o, ha, hF, hb, hc⟩ := h5 hl
  refine ⟨b, o, ha, hF, hb, fun j hj => ?_⟩
  obtain ⟨u, e0, e1, e2, e3, e4, hn, q0, q1⟩ := hc j hj
  exact ⟨u, e0, e1, e2, e3, e4, hn, q0, q1, by have := hf.2 j hj; omega⟩
end Go.Proofs.Ytajneoaljpljpaa
