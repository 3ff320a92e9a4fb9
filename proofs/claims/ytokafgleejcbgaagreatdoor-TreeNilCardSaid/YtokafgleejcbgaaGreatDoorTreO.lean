/-
  The frame of the cards' proofs of layer 31: a call by value.
-/
import Derived.Test.YtokafgleejcbgaaGreatDoorTreN
import Derived.Test.YtokafgleejcbgaaGreatDoorDirV
namespace Go.Proofs.YtokafgleejcbgaaGreatDoor
open Go.ChangeShapes Go.WideShapes Go.ChangeAt Go.RowKit Go.Deep
set_option linter.unusedVariables false

theorem list6v31 {cs : List Value} (h : cs.length = 6) : ∃ a b c d e f, cs = [a, b, c, d, e, f] := by
  match cs, h with
  | [a, b, c, d, e, f], _ => exact ⟨a, b, c, d, e, f, rfl⟩
section
variable {H : Type} {enc : TypeId × Value → H} {W : World} {base b0 : Nat}
/-- A call by value. -/
structure CallP where
  k : Int
  s : ByteArray
  q : ByteArray
  o : Int
  n : Int
  d : Value
set_option maxRecDepth 100000 in
theorem call_open31 {r : Reach} {v : Value} {d : DataW H} {p : List MemPlace} (hv : Value.okWide Tryz.prog W r b0 24 v)
    (h : DataW.Trod enc Tryz.prog W base (fun _ => true) true 24 v d p) : ∃ c : CallP, v = callV c.k c.s c.q c.o c.n c.d := by
  obtain ⟨cs, rfl, hsz⟩ := okWide_struct Tryz.underlying24 hv
  have hC : Tryz.prog.cellsOf 24 = 6 := by kernel_rfl
  obtain ⟨l⟩ := cs
  obtain ⟨c0, c1, c2, c3, c4, c5, rfl⟩ := list6v31 (cs := l) (hsz.trans hC)
  obtain ⟨fuel, hf⟩ := h
  obtain ⟨xs, n', _, _, _, hxl, hg⟩ := DataW.trod_struct Tryz.underlying24 (by simpa [Value.cells] using hf)
  have hxl6 : xs.length = 6 := hxl
  match xs, hxl6 with
  | [y0, y1, y2, y3, y4, y5], _ =>
    have g0 : DataW.trod enc Tryz.prog W base (fun _ => true) true n' 3 [c0] = some y0 := hg 0 _ rfl
    have g1 : DataW.trod enc Tryz.prog W base (fun _ => true) true n' 9 [c1] = some y1 := hg 1 _ rfl
    have g2 : DataW.trod enc Tryz.prog W base (fun _ => true) true n' 9 [c2] = some y2 := hg 2 _ rfl
    have g3 : DataW.trod enc Tryz.prog W base (fun _ => true) true n' 3 [c3] = some y3 := hg 3 _ rfl
    have g4 : DataW.trod enc Tryz.prog W base (fun _ => true) true n' 3 [c4] = some y4 := hg 4 _ rfl
    obtain ⟨k0, e0, _, w0⟩ := DataW.trod_int Tryz.underlying3 g0
    obtain ⟨s1, e1, _, hs1⟩ := DataW.trod_string Tryz.underlying9 g1
    obtain ⟨s2, e2, _, hs2⟩ := DataW.trod_string Tryz.underlying9 g2
    obtain ⟨k3, e3, _, w3⟩ := DataW.trod_int Tryz.underlying3 g3
    obtain ⟨k4, e4, _, w4⟩ := DataW.trod_int Tryz.underlying3 g4
    simp only [List.cons.injEq, and_true] at e0 e1 e2 e3 e4
    subst e0 e1 e2 e3 e4
    exact ⟨⟨k0, s1, s2, k3, k4, c5⟩, rfl⟩
end
theorem TreeNil_v (W : World) (v : Value) (c : CallP) (kind : Int) (h : v = callV c.k c.s c.q c.o c.n c.d) (hv : Lng W) : Calls Tryz.prog 3 #[v, .int .i64 kind] W fun e W' => e = .returned (.bool true) ∧ Kept NoB W W' := by
  subst h
  exact TreeNil_any W c.k c.s c.q c.o c.n c.d kind hv
end Go.Proofs.YtokafgleejcbgaaGreatDoor
