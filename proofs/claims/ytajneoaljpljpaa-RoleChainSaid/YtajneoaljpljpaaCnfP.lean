/-
  Package conf: Copy.
-/
import Derived.Test.YtajneoaljpljpaaCnfO
namespace Go.Proofs.Ytajneoaljpljpaa
open Go.RowKit
set_option linter.unusedVariables false

/-- Each one's nodes are a row of the call's own, each another one. -/
def OwnC (B : Nat) (w : World) (l : List Cf) (us : Nat → Value) : Prop :=
  (∀ j, j < l.length → IOwn B w (us j) (nthC l j).ns ∧ 0 ≤ (nthC l j).ep ∧ (nthC l j).ep ≤ topE ∧ (nthC l j).ns.length ≤ 1000) ∧ (∀ i j k, i < l.length → j < l.length → i ≠ j → (us i).ownBlock = some k → (us j).ownBlock ≠ some k)
theorem OwnC.nodes {B : Nat} {w : World} {l : List Cf} {us : Nat → Value} (h : OwnC B w l us) : NodesC w (fun k => B ≤ k) l us := fun j hj => ⟨((h.1 j hj).1).nslB, (h.1 j hj).2⟩
theorem OnlyB.not {g k : Nat} (h : k ≠ g) : ¬ (fun i => i = g) k := h
theorem Kept.only' {S : Nat → Prop} {a w : World} (h : Kept S a w) {g : Nat} (hg : S g ∨ a.heap.size ≤ g) (o : Nat) (u : Value) : Kept S a (w.setCell ⟨g, o, none⟩ u) := h.setCell (p := ⟨g, o, none⟩) hg u
theorem row_ne {w : World} {r cap B : Nat} {l : List Cf} {us : Nat → Value} {v : Value} {ns : List Int} (h : RowC w r cap l us) (hv : IOwn B w v ns) : v.ownBlock ≠ some r := by
  obtain ⟨cs, h1, _⟩ := h
  exact (own_ne hv h1 (by decide)).symm
theorem RowC.put {w : World} {r cap : Nat} {l : List Cf} {us : Nat → Value} (h : RowC w r cap l us) {k : Nat} (hk : k < l.length) (v : Value) : RowC (w.setCell ⟨r, k * 5 + 2, none⟩ v) r cap l (fun j => if j = k then v else us j) := by
  obtain ⟨cs, h1, h2, h3, h4, h5⟩ := h
  refine ⟨cs.setIfInBounds (k * 5 + 2) v, by simp [World.setCell, Array.getElem?_modify, h1], by simpa using h2, h3, h4, fun m hm => ?_⟩
  rw [Array.getElem?_setIfInBounds]
  by_cases e : k * 5 + 2 = m
  · subst e
    rw [if_pos rfl, if_pos (by omega), cellC2, if_pos rfl]
  · rw [if_neg e, h5 m hm]
    congr 1
    unfold cellC
    split
    · rfl
    · split
      · rfl
      · split
        · rename_i hm2
          show us (m / 5) = if m / 5 = k then v else us (m / 5)
          rw [if_neg (by omega)]
        · rfl
def CopyEnd (l : List Cf) (w : World) (e : Ending) (w' : World) : Prop :=
  Kept NoB w w' ∧ ((l = [] ∧ ∃ a c, e = .returned (.slice a 0 c) ∧ c ≤ maxLen ∧ (a = none → c = 0)) ∨ ∃ r cap us, e = .returned (.slice (some ⟨r, 0, none⟩) l.length cap) ∧ w.heap.size ≤ r ∧ RowC w' r cap l us ∧ OwnC w.heap.size w' l us)
end Go.Proofs.Ytajneoaljpljpaa
