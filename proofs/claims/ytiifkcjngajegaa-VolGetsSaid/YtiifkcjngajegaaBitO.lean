/-
  Bytes, numbers, two numbers that came in, opened (for layer 27).
-/
import Derived.Test.YtiifkcjngajegaaFrameP
import Derived.Test.YtiifkcjngajegaaBit1
import Derived.Test.YtiifkcjngajegaaCnf1
import Derived.Test.YtiifkcjngajegaaBytes
namespace Go.Proofs.Ytiifkcjngajegaa
open Go.ChangeShapes Go.WideShapes Go.ChangeAt Go.RowKit Go.Deep
set_option linter.unusedVariables false
set_option linter.unusedSimpArgs false

section
variable {H : Type} {enc : TypeId × Value → H} {W : World} {base b0 : Nat}
theorem bsl_cell27 {fuel : Nat} {c : Value} {x : DataW H × List MemPlace} (hf : DataW.trod enc Try.prog W base (fun _ => true) true fuel 22 [c] = some x) :
    ∃ l : List Int, BSl W (fun k => k < W.heap.size) c l := by
  rcases open_ints Try.underlying22 Try.underlying5 (by kernel_rfl) hf with ⟨hcs, _⟩ | ⟨x, len, cap, zs, hcs, _, hl, hm, hz, _, hcell, hwz⟩
  · simp only [List.cons.injEq, and_true] at hcs
    subst hcs
    exact ⟨[], BSl.nil _ _⟩
  · simp only [List.cons.injEq, and_true] at hcs
    subst hcs
    have hzl : zs.length = cap := by simpa using hz
    have hB : IsB zs := fun n hn => by
      have := bounds_u8 (hwz n hn)
      exact ⟨by omega, by omega⟩
    refine ⟨zs.take len, some x, cap, by rw [List.length_take]; congr 1; omega, by rw [List.length_take]; omega, hm, (fun h => by cases h), hB.take _, fun hp => ?_⟩
    rw [List.length_take] at hp
    obtain ⟨b, o, spot⟩ := x
    have h0 := hcell 0 (by omega)
    have hspot : spot = none := by simpa [Addr.add] using World.cell?_spot h0
    subst hspot
    have hadd : ∀ j, (⟨b, o, none⟩ : Addr).add j = ⟨b, o + j, none⟩ := fun j => by unfold Addr.add; split <;> simp_all
    have hbl := World.block_lt_of_cell? W _ h0
    refine ⟨b, o, rfl, by simpa [hadd] using hbl, by simpa [hadd] using hbl, fun j hj => ?_⟩
    rw [List.length_take] at hj
    rw [← hadd, hcell j (by omega)]
    simp [show j < len by omega]
theorem bsl_open27 {d : DataW H} {p : List MemPlace} {a : Option Addr} {len cap : Nat}
    (h : DataW.Trod enc Try.prog W base (fun _ => true) true 22 (.slice a len cap) d p) : ∃ l : List Int, BSl W (fun k => k < W.heap.size) (.slice a len cap) l := by
  obtain ⟨fuel, hf⟩ := h
  exact bsl_cell27 (by simpa [Value.cells] using hf)
theorem nsl_cell27 {fuel : Nat} {c : Value} {x : DataW H × List MemPlace} (hf : DataW.trod enc Try.prog W base (fun _ => true) true fuel 98 [c] = some x) :
    ∃ l : List Int, NSl W (fun k => k < W.heap.size) c l ∧ ∀ x ∈ l, -9223372036854775808 ≤ x ∧ x ≤ 9223372036854775807 := by
  rcases open_ints Try.underlying98 Try.underlying3 (by kernel_rfl) hf with ⟨hcs, _⟩ | ⟨x, len, cap, zs, hcs, _, hl, hm, hz, _, hcell, hwz⟩
  · simp only [List.cons.injEq, and_true] at hcs
    subst hcs
    exact ⟨[], NSl.nil _ _, fun _ h => by cases h⟩
  · simp only [List.cons.injEq, and_true] at hcs
    subst hcs
    have hzl : zs.length = cap := by simpa using hz
    refine ⟨zs.take len, ⟨some x, cap, by rw [List.length_take]; congr 1; omega, by rw [List.length_take]; omega, hm, (fun h => by cases h), fun hp => ?_⟩, fun y hy => bounds_i64 (hwz y (List.mem_of_mem_take hy))⟩
    rw [List.length_take] at hp
    obtain ⟨b, o, spot⟩ := x
    have h0 := hcell 0 (by omega)
    have hspot : spot = none := by simpa [Addr.add] using World.cell?_spot h0
    subst hspot
    have hadd : ∀ j, (⟨b, o, none⟩ : Addr).add j = ⟨b, o + j, none⟩ := fun j => by unfold Addr.add; split <;> simp_all
    have hbl := World.block_lt_of_cell? W _ h0
    refine ⟨b, o, rfl, by simpa [hadd] using hbl, by simpa [hadd] using hbl, fun j hj => ?_⟩
    rw [List.length_take] at hj
    rw [← hadd, hcell j (by omega)]
    simp [show j < len by omega]
theorem nsl_open27 {d : DataW H} {p : List MemPlace} {a : Option Addr} {len cap : Nat}
    (h : DataW.Trod enc Try.prog W base (fun _ => true) true 98 (.slice a len cap) d p) : ∃ l : List Int, NSl W (fun k => k < W.heap.size) (.slice a len cap) l ∧ ∀ x ∈ l, -9223372036854775808 ≤ x ∧ x ≤ 9223372036854775807 := by
  obtain ⟨fuel, hf⟩ := h
  exact nsl_cell27 (by simpa [Value.cells] using hf)
theorem okWide_array27 {P : Program} {t : TypeId} {w : World} {r : Reach} {base n : Nat} {v : Value} {e : TypeId} (ht : P.underlying t = some (.array n e)) (h : Value.okWide P w r base t v) : ∃ cs, v = .agg cs ∧ cs.size = P.cellsOf t := by
  simp only [Value.okWide, ht] at h
  obtain ⟨cs, h1, h2, _⟩ := h
  exact ⟨cs, h1, h2⟩
theorem list2v27 {α : Type} {cs : List α} (h : cs.length = 2) : ∃ c0 c1, cs = [c0, c1] := by
  match cs, h with
  | [c0, c1], _ => exact ⟨c0, c1, rfl⟩
end
end Go.Proofs.Ytiifkcjngajegaa
