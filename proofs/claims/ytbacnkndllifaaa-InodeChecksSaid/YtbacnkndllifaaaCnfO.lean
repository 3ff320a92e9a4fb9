/-
  Copies: of numbers, of configurations.
-/
import Derived.Test.YtbacnkndllifaaaCnfN
namespace Go.Proofs.Ytbacnkndllifaaa
open Go.RowKit
set_option linter.unusedVariables false

/-- The cells of a list of configurations; us: their nodes' slices. -/
def cellC (l : List Cf) (us : Nat → Value) (m : Nat) : Value :=
  if m % 5 = 0 then .int .i64 (nthC l (m / 5)).ch else if m % 5 = 1 then .int .u64 (nthC l (m / 5)).ep else if m % 5 = 2 then us (m / 5) else if m % 5 = 3 then .bool (nthC l (m / 5)).fr else .int .i64 (nthC l (m / 5)).jn
theorem cellC0 (l : List Cf) (us : Nat → Value) (j : Nat) : cellC l us (j * 5) = .int .i64 (nthC l j).ch := by
  unfold cellC
  rw [if_pos (by omega), show j * 5 / 5 = j by omega]
theorem cellC1 (l : List Cf) (us : Nat → Value) (j : Nat) : cellC l us (j * 5 + 1) = .int .u64 (nthC l j).ep := by
  unfold cellC
  rw [if_neg (by omega), if_pos (by omega), show (j * 5 + 1) / 5 = j by omega]
theorem cellC2 (l : List Cf) (us : Nat → Value) (j : Nat) : cellC l us (j * 5 + 2) = us j := by
  unfold cellC
  rw [if_neg (by omega), if_neg (by omega), if_pos (by omega), show (j * 5 + 2) / 5 = j by omega]
theorem cellC3 (l : List Cf) (us : Nat → Value) (j : Nat) : cellC l us (j * 5 + 3) = .bool (nthC l j).fr := by
  unfold cellC
  rw [if_neg (by omega), if_neg (by omega), if_neg (by omega), if_pos (by omega), show (j * 5 + 3) / 5 = j by omega]
theorem cellC4 (l : List Cf) (us : Nat → Value) (j : Nat) : cellC l us (j * 5 + 4) = .int .i64 (nthC l j).jn := by
  unfold cellC
  rw [if_neg (by omega), if_neg (by omega), if_neg (by omega), if_neg (by omega), show (j * 5 + 4) / 5 = j by omega]
def cellsC (l : List Cf) (us : Nat → Value) : List Value := (List.range (l.length * 5)).map (cellC l us)
theorem cellsC_at {l : List Cf} {us : Nat → Value} {m : Nat} (h : m < l.length * 5) : (cellsC l us)[m]? = some (cellC l us m) := by
  unfold cellsC
  rw [List.getElem?_map, List.getElem?_range h]
  rfl
/-- Each one's nodes lie where they are read. -/
def NodesC (w : World) (F : Nat → Prop) (l : List Cf) (us : Nat → Value) : Prop := ∀ j, j < l.length → NSl w F (us j) (nthC l j).ns ∧ 0 ≤ (nthC l j).ep ∧ (nthC l j).ep ≤ topE ∧ (nthC l j).ns.length ≤ 1000
theorem NodesC.kept {S F : Nat → Prop} {w w' : World} {l : List Cf} {us : Nat → Value} (h : NodesC w F l us) (hk : Kept S w w') (hs : ∀ k, k < w.heap.size → F k → ¬ S k) : NodesC w' F l us :=
  fun j hj => ⟨(h j hj).1.kept hk hs, (h j hj).2⟩
/-- The slices of the nodes of configurations that are read. -/
theorem cfs_us {F : Nat → Prop} {w : World} {a : Option Addr} {n cap : Nat} {l : List Cf} (h : CfsAt w F (.slice a n cap) l) :
    ∃ us : Nat → Value, NodesC w F l us ∧ ∀ ad, a = some ad → ∀ m u, (cellsC l us)[m]? = some u → w.cell? (ad.add m) = some u := by
  have key : ∀ j, ∃ u, j < l.length → (NSl w F u (nthC l j).ns ∧ 0 ≤ (nthC l j).ep ∧ (nthC l j).ep ≤ topE ∧ (nthC l j).ns.length ≤ 1000) ∧ ∀ ad, a = some ad → ∀ i, i < 5 → w.cell? (ad.add (j * 5 + i)) = some (cellC l (fun _ => u) (j * 5 + i)) := by
    intro j
    by_cases hj : j < l.length
    · obtain ⟨b, o, ha, _, _, u, e0, e1, e2, e3, e4, hn, hb⟩ := h.at_ hj
      refine ⟨u, fun _ => ⟨⟨hn, hb⟩, fun ad had i hi => ?_⟩⟩
      rw [ha] at had
      injection had with had
      subst had
      have hadd : ∀ m, (⟨b, o, none⟩ : Addr).add m = ⟨b, o + m, none⟩ := fun m => by unfold Addr.add; split <;> simp_all
      rw [hadd]
      rcases (by omega : i = 0 ∨ i = 1 ∨ i = 2 ∨ i = 3 ∨ i = 4) with rfl | rfl | rfl | rfl | rfl
      · rw [Nat.add_zero, cellC0]; exact e0
      · rw [cellC1, ← Nat.add_assoc]; exact e1
      · rw [cellC2, ← Nat.add_assoc]; exact e2
      · rw [cellC3, ← Nat.add_assoc]; exact e3
      · rw [cellC4, ← Nat.add_assoc]; exact e4
    · exact ⟨undef, fun h => absurd h hj⟩
  refine ⟨fun j => Classical.choose (key j), fun j hj => (Classical.choose_spec (key j) hj).1, fun ad had m u hu => ?_⟩
  have hm : m < l.length * 5 := by
    rcases Nat.lt_or_ge m (l.length * 5) with h | h
    · exact h
    · rw [List.getElem?_eq_none (by simpa [cellsC] using h)] at hu; cases hu
  rw [cellsC_at hm] at hu
  injection hu with hu
  have hs := (Classical.choose_spec (key (m / 5)) (by omega)).2 ad had (m % 5) (by omega)
  rw [show m / 5 * 5 + m % 5 = m by omega] at hs
  rw [hs, ← hu]
  rfl
theorem cellsC_one {l : List Cf} {us : Nat → Value} {w : World} {F : Nat → Prop} (h : NodesC w F l us) : ∀ u ∈ cellsC l us, u.oneCell' = true := by
  intro u hu
  unfold cellsC at hu
  obtain ⟨m, hm, rfl⟩ := List.mem_map.1 hu
  rw [List.mem_range] at hm
  unfold cellC
  split
  · rfl
  · split
    · rfl
    · split
      · obtain ⟨a, cap, he, _⟩ := (h (m / 5) (by omega)).1
        rw [he]
        rfl
      · split <;> rfl
end Go.Proofs.Ytbacnkndllifaaa
