/-
  A slice of numbers that came in: opened.
-/
import Derived.Test.YtdohnobfaignpaaFrameP
import Derived.Test.YtdohnobfaignpaaBalH
namespace Go.Proofs.Ytdohnobfaignpaa
open Go.ChangeShapes Go.WideShapes Go.ChangeAt Go.RowKit Go.Deep

theorem ini_open {H : Type} {enc : TypeId × Value → H} {W : World} {base : Nat} {d : DataW H} {p : List MemPlace} {a : Option Addr} {len cap : Nat}
    (h : DataW.Trod enc Try.prog W base (fun _ => true) true 32 (.slice a len cap) d p) :
    ∃ l : List Int, RdI W (.slice a len cap) l ∧ (∀ x ∈ l, x ≤ 9223372036854775807) ∧ l.length ≤ 9223372036854775807 := by
  obtain ⟨fuel, hf⟩ := h
  rcases open_ints Try.underlying32 Try.underlying3 (by kernel_rfl) hf with ⟨hcs, _⟩ | ⟨x, l, c, zs, hcs, _, hl, hm, hz, _, hcell, hwz⟩
  · simp [Value.cells] at hcs
    obtain ⟨rfl, rfl, rfl⟩ := hcs
    exact ⟨[], ⟨none, 0, rfl, fun _ => rfl, fun i hi => absurd hi (by simp)⟩, (fun _ h => by cases h), by simp⟩
  · simp [Value.cells] at hcs
    obtain ⟨rfl, rfl, rfl⟩ := hcs
    have hzl : zs.length = cap := by simpa using hz
    unfold maxLen at hm
    refine ⟨zs.take len, ⟨some x, cap, by rw [List.length_take]; congr 1; omega, (fun h => by cases h), fun i hi => ?_⟩, fun y hy => (bounds_i64 (hwz y (List.mem_of_mem_take hy))).2, by rw [List.length_take]; omega⟩
    rw [List.length_take] at hi
    obtain ⟨b, o, spot⟩ := x
    have h0 := hcell 0 (by omega)
    have hspot : spot = none := by simpa [Addr.add] using World.cell?_spot h0
    subst hspot
    have hadd : ∀ j, (⟨b, o, none⟩ : Addr).add j = ⟨b, o + j, none⟩ := fun j => by unfold Addr.add; split <;> simp_all
    have hbl := World.block_lt_of_cell? W _ h0
    refine ⟨b, o, rfl, by simpa [hadd] using hbl, ?_⟩
    rw [← hadd, hcell i (by omega)]
    simp [show i < len by omega]
end Go.Proofs.Ytdohnobfaignpaa
