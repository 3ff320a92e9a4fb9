/-
  The frame of the cards' proofs of layer 29: slices of entries that came in.
-/
import Derived.Test.YtokafgleejcbgaaDoorDirT
import Derived.Test.YtokafgleejcbgaaDoorDirI
import Derived.Deep.SlicePairs
import Derived.Lib.SmallJoins
namespace Go.Proofs.YtokafgleejcbgaaDoor
open Go.ChangeShapes Go.WideShapes Go.ChangeAt Go.RowKit Go.Deep
set_option linter.unusedVariables false

theorem pick29 {α : Type} {m : Nat} {Q : Nat → α → Prop} (z : α) (h : ∀ j, j < m → ∃ x, Q j x) : ∃ f : Nat → α, ∀ j, j < m → Q j (f j) :=
  ⟨fun j => if hj : j < m then Classical.choose (h j hj) else z, fun j hj => by
    simp only [dif_pos hj]
    exact Classical.choose_spec (h j hj)⟩
section
variable {H : Type} {enc : TypeId × Value → H} {W : World} {base b0 : Nat}
set_option maxRecDepth 100000 in
/-- One cell that reads as a slice of entries. -/
theorem esl_cell29 {fuel : Nat} {c : Value} {x : DataW H × List MemPlace} (hf : DataW.trod enc Tryd.prog W base (fun _ => true) true fuel 22 [c] = some x) :
    ∃ l : List En, ESl W (fun k => k < W.heap.size) c l ∧ ∀ x ∈ l, x.1.length ≤ maxLen := by
  rcases open_slice_pairs Tryd.underlying22 Tryd.underlying24 (by kernel_rfl) rfl rfl (by kernel_rfl) (by kernel_rfl) hf with ⟨hcs, _⟩ | ⟨x, len, cap, m, n, V0, V1, D0, D1, P0, P1, hcs, _, hl, hm, hmm, _, hcell⟩
  · simp only [List.cons.injEq, and_true] at hcs
    subst hcs
    exact ⟨[], ESl.nil _ _, fun _ h => by cases h⟩
  · simp only [List.cons.injEq, and_true] at hcs
    subst hcs
    simp only [if_true] at hmm
    subst hmm
    obtain ⟨f, hf2⟩ := pick29 (α := En) (m := m) (Q := fun j p => (V0 j = .string ⟨p.1.toArray⟩ ∧ V1 j = .int .i64 p.2) ∧ p.1.length ≤ maxLen) ([], 0) (fun j hj => by
      obtain ⟨_, _, g0, g1⟩ := hcell j hj
      obtain ⟨s0, e0, _, hs0⟩ := DataW.trod_string Tryd.underlying9 g0
      obtain ⟨k1, e1, _, _⟩ := DataW.trod_int Tryd.underlying3 g1
      simp only [List.cons.injEq, and_true] at e0 e1
      exact ⟨(s0.data.toList, k1), ⟨by rw [e0], e1⟩, by rw [len29]; exact hs0⟩)
    have hll : ((List.range len).map f).length = len := by simp
    refine ⟨(List.range len).map f, ⟨some x, m, by rw [hll], by rw [hll]; exact hl, hm, (fun h => by cases h), fun hp => ?_⟩, fun y hy => ?_⟩
    rotate_left
    · obtain ⟨j, hj, rfl⟩ := List.mem_map.1 hy
      exact (hf2 j (by have := List.mem_range.1 hj; omega)).2
    rw [hll] at hp
    obtain ⟨b, o, spot⟩ := x
    have h0 := (hcell 0 (by omega)).1
    have hspot : spot = none := by simpa [Addr.add] using World.cell?_spot h0
    subst hspot
    have hadd : ∀ j, (⟨b, o, none⟩ : Addr).add j = ⟨b, o + j, none⟩ := fun j => by unfold Addr.add; split <;> simp_all
    have hbl := World.block_lt_of_cell? W _ h0
    refine ⟨b, o, rfl, by simpa [hadd] using hbl, by simpa [hadd] using hbl, fun j hj => ?_⟩
    rw [hll] at hj
    obtain ⟨e0, e1, _, _⟩ := hcell j (by omega)
    obtain ⟨⟨q0, q1⟩, _⟩ := hf2 j (by omega)
    rw [hadd, q0] at e0
    rw [hadd, q1] at e1
    rw [eth_eq (by rw [hll]; exact hj)]
    simp only [List.getElem_map, List.getElem_range]
    exact ⟨e0, e1⟩
theorem esl_open29 {d : DataW H} {p : List MemPlace} {a : Option Addr} {len cap : Nat}
    (h : DataW.Trod enc Tryd.prog W base (fun _ => true) true 22 (.slice a len cap) d p) : ∃ l : List En, ESl W (fun k => k < W.heap.size) (.slice a len cap) l ∧ ∀ x ∈ l, x.1.length ≤ maxLen := by
  obtain ⟨fuel, hf⟩ := h
  exact esl_cell29 (by simpa [Value.cells] using hf)
end
end Go.Proofs.YtokafgleejcbgaaDoor
