/-
  A frame, and a slice of frames, that came in: opened.
-/
import Derived.Test.YtpcacndbagiajaaOpen
import Derived.Lib.SmallJoins
namespace Go.Proofs.Ytpcacndbagiajaa
open Go.ChangeShapes Go.WideShapes Go.ChangeAt Go.RowKit Go.Deep

section
variable {H : Type} {enc : TypeId × Value → H} {W : World} {base b0 : Nat}
set_option maxRecDepth 100000 in
/-- A frame by value. -/
theorem frm_open {v : Value} {d : DataW H} {p : List MemPlace} (hv : Value.okWide Try.prog W .any b0 76 v)
    (h : DataW.Trod enc Try.prog W base (fun _ => true) true 76 v d p) : ∃ (k : Nat) (b : Value) (l : List Int), v = .agg #[.int .u8 k, b] ∧ k < 256 ∧ BSl W (fun k => k < W.heap.size) b l := by
  obtain ⟨c0, c1, y0, y1, m, rfl, rfl, rfl, hy0, hy1⟩ := Joins.open_agg2 Try.underlying76 (by kernel_rfl) (by kernel_rfl) hv h
  obtain ⟨a, e0, _, wa⟩ := DataW.trod_int Try.underlying5 hy0
  obtain ⟨l, hl⟩ := bsl_cell hy1
  simp only [List.cons.injEq, and_true] at e0
  subst e0
  have hb := bounds_u8 wa
  obtain ⟨k, rfl⟩ := Int.eq_ofNat_of_zero_le hb.1
  exact ⟨k, c1, l, rfl, by omega, hl⟩
end
end Go.Proofs.Ytpcacndbagiajaa
