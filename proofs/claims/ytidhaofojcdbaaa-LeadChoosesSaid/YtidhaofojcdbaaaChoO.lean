/-
  Commands and votes that came in: opened.
-/
import Derived.Test.YtidhaofojcdbaaaAccO
namespace Go.Proofs.Ytidhaofojcdbaaa
open Go.ChangeShapes Go.WideShapes Go.ChangeAt Go.RowKit Go.Deep
set_option linter.unusedVariables false

theorem array4c {α : Type} {cs : Array α} (h : cs.size = 4) : ∃ c0 c1 c2 c3, cs = #[c0, c1, c2, c3] := by
  obtain ⟨l⟩ := cs
  match l, h with
  | [c0, c1, c2, c3], _ => exact ⟨c0, c1, c2, c3, rfl⟩
set_option maxRecDepth 100000 in
/-- A command by value. -/
theorem cmd_open12 {H : Type} {enc : TypeId × Value → H} {W : World} {base b0 : Nat} {r : Reach} {v : Value} {d : DataW H} {p : List MemPlace} (hv : Value.okWide Try.prog W r b0 39 v)
    (h : DataW.Trod enc Try.prog W base (fun _ => true) true 39 v d p) : ∃ o : Vt, v = .agg #[.int .i64 o.k, .int .i64 o.ch, .int .u64 o.ep, .int .i64 o.nd] ∧ 0 ≤ o.ep ∧ o.ep ≤ 18446744073709551615 := by
  obtain ⟨cs, rfl, hsz⟩ := okWide_struct Try.underlying39 hv
  have hC : Try.prog.cellsOf 39 = 4 := by kernel_rfl
  obtain ⟨c0, c1, c2, c3, rfl⟩ := array4c (hsz.trans hC)
  obtain ⟨fuel, hf⟩ := h
  obtain ⟨k0, k1, k2, k3, rfl, rfl, rfl, rfl, h0, h1⟩ := cmd_cells11 (by simpa [Value.cells] using hf)
  exact ⟨⟨0, 0, k0, k1, k2, k3⟩, rfl, h0, h1⟩
end Go.Proofs.Ytidhaofojcdbaaa
