/-
  A slice of calls of a bag that came in: opened.
-/
import Derived.Test.YteinjmhogkneoaaFrameP
import Derived.Test.YteinjmhogkneoaaBagR
namespace Go.Proofs.Yteinjmhogkneoaa
open Go.ChangeShapes Go.WideShapes Go.ChangeAt Go.RowKit Go.Deep

section
variable {H : Type} {enc : TypeId × Value → H} {W : World} {base : Nat}
set_option maxRecDepth 100000 in
theorem ops_open {d : DataW H} {p : List MemPlace} {a : Option Addr} {len cap : Nat}
    (h : DataW.Trod enc Try.prog W base (fun _ => true) true 22 (.slice a len cap) d p) : ∃ it : Nat → Op', OpsAt W (.slice a len cap) len it := by
  obtain ⟨fuel, hf⟩ := h
  rcases open_slice Try.underlying22 hf with ⟨hcs, _⟩ | ⟨x, l, c, m, n, D, Pl, hcs, _, hl, hm, hmm, _, hi⟩
  · simp [Value.cells] at hcs
    obtain ⟨rfl, rfl, rfl⟩ := hcs
    exact ⟨fun _ => ⟨0, 0, 0⟩, none, 0, rfl, Nat.zero_le _, fun h => absurd h (by omega)⟩
  · simp [Value.cells] at hcs
    obtain ⟨rfl, rfl, rfl⟩ := hcs
    simp only [if_true] at hmm
    subst hmm
    have hC : Try.prog.cellsOf 31 = 3 := by kernel_rfl
    rw [hC] at hi
    unfold maxLen at hm
    have key : ∀ j, j < m → ∃ it : Op', (W.cell? (x.add (j * 3)) = some (.int .i64 it.kind) ∧ W.cell? ((x.add (j * 3)).add 1) = some (.int .i64 it.i) ∧ W.cell? ((x.add (j * 3)).add 2) = some (.int .i64 it.v)) ∧ (-9223372036854775808 ≤ it.v ∧ it.v ≤ 9223372036854775807) := by
      intro j hj
      obtain ⟨cs', hc, ht⟩ := hi j hj
      obtain ⟨_, hlen, hat⟩ := World.cells?_some hc
      obtain ⟨xs, n', _, _, _, hxl, hg⟩ := DataW.trod_struct Try.underlying31 ht
      have hxl3 : xs.length = 3 := hxl
      match cs', hlen with
      | [c0, c1, c2], _ =>
        match xs, hxl3 with
        | [y0, y1, y2], _ =>
          have g0 : DataW.trod enc Try.prog W base (fun _ => true) true n' 3 [c0] = some y0 := hg 0 _ rfl
          have g1 : DataW.trod enc Try.prog W base (fun _ => true) true n' 3 [c1] = some y1 := hg 1 _ rfl
          have g2 : DataW.trod enc Try.prog W base (fun _ => true) true n' 3 [c2] = some y2 := hg 2 _ rfl
          obtain ⟨k0, e0, _, _⟩ := DataW.trod_int Try.underlying3 g0
          obtain ⟨k1, e1, _, _⟩ := DataW.trod_int Try.underlying3 g1
          obtain ⟨k2, e2, _, w2⟩ := DataW.trod_int Try.underlying3 g2
          simp only [List.cons.injEq, and_true] at e0 e1 e2
          subst e0 e1 e2
          have a0 : ∀ y : Addr, y.add 0 = y := fun y => by unfold Addr.add; split <;> simp_all
          refine ⟨⟨k0, k1, k2⟩, ⟨?_, ?_, ?_⟩, bounds_i64 w2⟩
          · have := hat 0 (by omega)
            rw [a0] at this
            exact this
          · exact hat 1 (by omega)
          · exact hat 2 (by omega)
    obtain ⟨it, hit⟩ := pick_all ⟨0, 0, 0⟩ key
    refine ⟨it, some x, m, rfl, by omega, fun hp => ?_⟩
    obtain ⟨⟨h0, _⟩, _⟩ := hit 0 (by omega)
    obtain ⟨b, o, spot⟩ := x
    have hspot : spot = none := by simpa [Addr.add] using World.cell?_spot h0
    subst hspot
    have hb := World.block_lt_of_cell? W _ h0
    rw [addr_add] at hb
    refine ⟨b, o, rfl, hb, fun j hj => ?_⟩
    obtain ⟨⟨e0, e1, e2⟩, _⟩ := hit j (by omega)
    simp only [addr_add] at e0 e1 e2
    exact ⟨e0, e1, e2⟩
end
end Go.Proofs.Yteinjmhogkneoaa
