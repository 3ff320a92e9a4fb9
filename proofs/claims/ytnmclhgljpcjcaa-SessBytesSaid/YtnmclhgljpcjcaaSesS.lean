/-
  Bytes that came in, opened (for SessBytes).
-/
import Derived.Test.YtnmclhgljpcjcaaFrameP
import Derived.Test.YtnmclhgljpcjcaaVerQ
namespace Go.Proofs.Ytnmclhgljpcjcaa
open Go.ChangeShapes Go.WideShapes Go.ChangeAt Go.RowKit Go.Deep

theorem bsl_open16 {H : Type} {enc : TypeId × Value → H} {W : World} {base : Nat} {d : DataW H} {p : List MemPlace} {a : Option Addr} {len cap : Nat}
    (h : DataW.Trod enc Try.prog W base (fun _ => true) true 34 (.slice a len cap) d p) : ∃ l : List Int, BSl W (fun k => k < W.heap.size) (.slice a len cap) l := by
  obtain ⟨fuel, hf⟩ := h
  exact bsl_cell15 (by simpa [Value.cells] using hf)
end Go.Proofs.Ytnmclhgljpcjcaa
