/-
  Calls of an acceptor that came in, opened: one by value, a slice of them.
-/
import Derived.Test.YtidhaofojcdbaaaFrameP
import Derived.Test.YtidhaofojcdbaaaAccE
import Derived.Lib.SmallJoins
namespace Go.Proofs.Ytidhaofojcdbaaa
open Go.ChangeShapes Go.WideShapes Go.ChangeAt Go.RowKit Go.Deep
set_option linter.unusedVariables false

section
variable {H : Type} {enc : TypeId × Value → H} {W : World} {base b0 : Nat}
theorem array7 {α : Type} {cs : Array α} (h : cs.size = 7) : ∃ c0 c1 c2 c3 c4 c5 c6, cs = #[c0, c1, c2, c3, c4, c5, c6] := by
  obtain ⟨l⟩ := cs
  match l, h with
  | [c0, c1, c2, c3, c4, c5, c6], _ => exact ⟨c0, c1, c2, c3, c4, c5, c6, rfl⟩
set_option maxRecDepth 100000 in
/-- Four cells that read as a command. -/
theorem cmd_cells11 {fuel : Nat} {c0 c1 c2 c3 : Value} {x : DataW H × List MemPlace} (ht : DataW.trod enc Try.prog W base (fun _ => true) true fuel 39 [c0, c1, c2, c3] = some x) :
    ∃ k0 k1 k2 k3 : Int, c0 = .int .i64 k0 ∧ c1 = .int .i64 k1 ∧ c2 = .int .u64 k2 ∧ c3 = .int .i64 k3 ∧ 0 ≤ k2 ∧ k2 ≤ 18446744073709551615 := by
  obtain ⟨xs, n', _, _, _, hxl, hg⟩ := DataW.trod_struct Try.underlying39 ht
  have hxl4 : xs.length = 4 := hxl
  match xs, hxl4 with
  | [y0, y1, y2, y3], _ =>
    have g0 : DataW.trod enc Try.prog W base (fun _ => true) true n' 3 [c0] = some y0 := hg 0 _ rfl
    have g1 : DataW.trod enc Try.prog W base (fun _ => true) true n' 3 [c1] = some y1 := hg 1 _ rfl
    have g2 : DataW.trod enc Try.prog W base (fun _ => true) true n' 37 [c2] = some y2 := hg 2 _ rfl
    have g3 : DataW.trod enc Try.prog W base (fun _ => true) true n' 3 [c3] = some y3 := hg 3 _ rfl
    obtain ⟨k0, e0, _, _⟩ := DataW.trod_int Try.underlying3 g0
    obtain ⟨k1, e1, _, _⟩ := DataW.trod_int Try.underlying3 g1
    obtain ⟨k2, e2, _, w2⟩ := DataW.trod_int Try.underlying37 g2
    obtain ⟨k3, e3, _, _⟩ := DataW.trod_int Try.underlying3 g3
    simp only [List.cons.injEq, and_true] at e0 e1 e2 e3
    subst e0 e1 e2 e3
    have hk2 := bounds_u64 w2
    exact ⟨k0, k1, k2, k3, rfl, rfl, rfl, rfl, hk2.1, hk2.2⟩
/-- The numbers of a call that fit. -/
def OpFit (o : OpV) : Prop := 0 ≤ o.b ∧ o.b ≤ 18446744073709551615 ∧ -9223372036854775808 ≤ o.s ∧ o.s ≤ 9223372036854775807 ∧ 0 ≤ o.ep ∧ o.ep ≤ 18446744073709551615
/-- The value is a slice of n calls. -/
def OpsAt (w : World) (v : Value) (n : Nat) (it : Nat → OpV) : Prop :=
  ∃ a cap, v = .slice a n cap ∧ n ≤ 9223372036854775807 ∧ (0 < n → ∃ b o, a = some ⟨b, o, none⟩ ∧ b < w.heap.size ∧ ∀ j, j < n → w.cell? ⟨b, o + j * 7, none⟩ = some (.int .i64 (it j).kd) ∧ w.cell? ⟨b, o + j * 7 + 1, none⟩ = some (.int .u64 (it j).b) ∧
    w.cell? ⟨b, o + j * 7 + 2, none⟩ = some (.int .i64 (it j).s) ∧ w.cell? ⟨b, o + j * 7 + 3, none⟩ = some (.int .i64 (it j).k) ∧ w.cell? ⟨b, o + j * 7 + 4, none⟩ = some (.int .i64 (it j).ch) ∧ w.cell? ⟨b, o + j * 7 + 5, none⟩ = some (.int .u64 (it j).ep) ∧
    w.cell? ⟨b, o + j * 7 + 6, none⟩ = some (.int .i64 (it j).nd) ∧ OpFit (it j))
theorem list7 {α : Type} {cs : List α} (h : cs.length = 7) : ∃ c0 c1 c2 c3 c4 c5 c6, cs = [c0, c1, c2, c3, c4, c5, c6] := by
  match cs, h with
  | [c0, c1, c2, c3, c4, c5, c6], _ => exact ⟨c0, c1, c2, c3, c4, c5, c6, rfl⟩
end
end Go.Proofs.Ytidhaofojcdbaaa
