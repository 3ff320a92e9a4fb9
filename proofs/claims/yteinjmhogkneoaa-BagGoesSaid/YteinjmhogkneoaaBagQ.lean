/-
  A slice of numbers that came in: opened.
-/
import Derived.Test.YteinjmhogkneoaaFrameP
import Derived.Test.YteinjmhogkneoaaBagG
namespace Go.Proofs.Yteinjmhogkneoaa
open Go.ChangeShapes Go.WideShapes Go.ChangeAt Go.RowKit Go.Deep

theorem ils_open {H : Type} {enc : TypeId × Value → H} {W : World} {base : Nat} {d : DataW H} {p : List MemPlace} {a : Option Addr} {len cap : Nat}
    (h : DataW.Trod enc Try.prog W base (fun _ => true) true 45 (.slice a len cap) d p) :
    ∃ l : List Int, ILs W (.slice a len cap) l := by
  obtain ⟨fuel, hf⟩ := h
  rcases open_ints Try.underlying45 Try.underlying3 (by kernel_rfl) hf with ⟨hcs, _⟩ | ⟨x, l, c, zs, hcs, _, hl, hm, hz, _, hcell, hwz⟩
  · simp [Value.cells] at hcs
    obtain ⟨rfl, rfl, rfl⟩ := hcs
    exact ⟨[], none, 0, rfl, Nat.zero_le _, fun h => absurd h (by simp)⟩
  · simp [Value.cells] at hcs
    obtain ⟨rfl, rfl, rfl⟩ := hcs
    have hzl : zs.length = cap := by simpa using hz
    unfold maxLen at hm
    refine ⟨zs.take len, some x, cap, by rw [List.length_take]; congr 1; omega, by rw [List.length_take]; omega, fun hp => ?_⟩
    rw [List.length_take] at hp
    obtain ⟨b, o, spot⟩ := x
    have h0 := hcell 0 (by omega)
    have hspot : spot = none := by simpa [Addr.add] using World.cell?_spot h0
    subst hspot
    have hadd : ∀ j, (⟨b, o, none⟩ : Addr).add j = ⟨b, o + j, none⟩ := fun j => by unfold Addr.add; split <;> simp_all
    have hbl := World.block_lt_of_cell? W _ h0
    refine ⟨b, o, rfl, by simpa [hadd] using hbl, fun j hj => ?_⟩
    rw [List.length_take] at hj
    rw [← hadd, hcell j (by omega)]
    simp [show j < len by omega]
end Go.Proofs.Yteinjmhogkneoaa
