/-
  Layer 29: the chapter's Split.
-/
import Derived.Test.YtokafgleejcbgaaGreatDoorDirB
namespace Go.Proofs.YtokafgleejcbgaaGreatDoor
open Go.RowKit
set_option linter.unusedVariables false

theorem SOwn29.form {B : Nat} {w : World} {v : Value} {l : List (List UInt8)} (h : SOwn29 B w v l) : ∃ a c, v = .slice a l.length c := by
  rcases h.2 with ⟨rfl, h0⟩ | ⟨r, cap, cur, rfl, _⟩
  · exact ⟨none, 0, by rw [h0]⟩
  · exact ⟨_, _, rfl⟩
theorem SOwn29.no29 {B : Nat} {w w' : World} {v : Value} {l : List (List UInt8)} (h : SOwn29 B w v l) (hk : Kept NoB w w') : SOwn29 B w' v l := by
  refine ⟨h.1, ?_⟩
  rcases h.2 with hn | ⟨r, cap, cur, rfl, hb, hr, rest⟩
  · exact .inl hn
  · exact .inr ⟨r, cap, cur, rfl, hb, hk.heap (fun h => h) hr, rest⟩
def RSpRel (s : ByteArray) (w : World) (v x i : Value) (wr : World) : Prop :=
  ∃ (j : Nat) (L : List (List UInt8)) (cur : List UInt8), 1 ≤ j ∧ j ≤ s.size + 1 ∧ i = .int .i64 j ∧ x = .string ⟨cur.toArray⟩ ∧ wgs [] s.data.toList.tail = (if j ≤ s.size then L ++ wgs cur (s.data.toList.drop j) else L) ∧ cur.length ≤ j ∧ L.length ≤ j ∧ (∀ y ∈ L, nmOk y) ∧ SOwn29 w.heap.size wr v L ∧ Kept NoB w wr
end Go.Proofs.YtokafgleejcbgaaGreatDoor
