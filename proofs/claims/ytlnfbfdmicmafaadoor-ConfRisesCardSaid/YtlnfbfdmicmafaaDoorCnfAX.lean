/-
  A slice of commands that came in: opened.
-/
import Derived.Test.YtlnfbfdmicmafaaDoorCnfAV
import Derived.Test.YtlnfbfdmicmafaaDoorCnfAO
namespace Go.Proofs.YtlnfbfdmicmafaaDoor
open Go.ChangeShapes Go.WideShapes Go.ChangeAt Go.RowKit Go.Deep
set_option linter.unusedVariables false

set_option maxRecDepth 100000 in
theorem cmr_open {H : Type} {enc : TypeId × Value → H} {W : World} {base : Nat} {d : DataW H} {p : List MemPlace} {a : Option Addr} {len cap : Nat}
    (h : DataW.Trod enc Tryd.prog W base (fun _ => true) true 38 (.slice a len cap) d p) : ∃ it : Nat → CmQ, CmR W (.slice a len cap) len it := by
  obtain ⟨fuel, hf⟩ := h
  rcases open_slice Tryd.underlying38 hf with ⟨hcs, _⟩ | ⟨x, l, c, m, n, D, Pl, hcs, _, hl, hm, hmm, _, hi⟩
  · simp [Value.cells] at hcs
    obtain ⟨rfl, rfl, rfl⟩ := hcs
    exact ⟨fun _ => ⟨0, 0, 0, 0⟩, none, 0, rfl, Nat.zero_le _, fun h => absurd h (by omega)⟩
  · simp [Value.cells] at hcs
    obtain ⟨rfl, rfl, rfl⟩ := hcs
    simp only [if_true] at hmm
    subst hmm
    have hC : Tryd.prog.cellsOf 42 = 4 := by kernel_rfl
    rw [hC] at hi
    unfold maxLen at hm
    have key : ∀ j, j < m → ∃ it : CmQ, W.cell? (x.add (j * 4)) = some (.int .i64 it.k) ∧ W.cell? ((x.add (j * 4)).add 1) = some (.int .i64 it.ch) ∧ W.cell? ((x.add (j * 4)).add 2) = some (.int .u64 it.ep) ∧
        W.cell? ((x.add (j * 4)).add 3) = some (.int .i64 it.nd) ∧ 0 ≤ it.ep := by
      intro j hj
      obtain ⟨cs', hc, ht⟩ := hi j hj
      obtain ⟨_, hlen, hat⟩ := World.cells?_some hc
      obtain ⟨xs, n', _, _, _, hxl, hg⟩ := DataW.trod_struct Tryd.underlying42 ht
      have hxl4 : xs.length = 4 := hxl
      match cs', hlen with
      | [c0, c1, c2, c3], _ =>
        match xs, hxl4 with
        | [y0, y1, y2, y3], _ =>
          have g0 : DataW.trod enc Tryd.prog W base (fun _ => true) true n' 3 [c0] = some y0 := hg 0 _ rfl
          have g1 : DataW.trod enc Tryd.prog W base (fun _ => true) true n' 3 [c1] = some y1 := hg 1 _ rfl
          have g2 : DataW.trod enc Tryd.prog W base (fun _ => true) true n' 23 [c2] = some y2 := hg 2 _ rfl
          have g3 : DataW.trod enc Tryd.prog W base (fun _ => true) true n' 3 [c3] = some y3 := hg 3 _ rfl
          obtain ⟨k0, e0, _, _⟩ := DataW.trod_int Tryd.underlying3 g0
          obtain ⟨k1, e1, _, _⟩ := DataW.trod_int Tryd.underlying3 g1
          obtain ⟨k2, e2, _, w2⟩ := DataW.trod_int Tryd.underlying23 g2
          obtain ⟨k3, e3, _, _⟩ := DataW.trod_int Tryd.underlying3 g3
          simp only [List.cons.injEq, and_true] at e0 e1 e2 e3
          subst e0 e1 e2 e3
          have hk2 := bounds_u64 w2
          have a0 : ∀ y : Addr, y.add 0 = y := fun y => by unfold Addr.add; split <;> simp_all
          refine ⟨⟨k0, k1, k2, k3⟩, ?_, hat 1 (by omega), hat 2 (by omega), hat 3 (by omega), hk2.1⟩
          have := hat 0 (by omega)
          rw [a0] at this
          exact this
    obtain ⟨it, hit⟩ := pick_all9 (⟨0, 0, 0, 0⟩ : CmQ) key
    refine ⟨it, some x, m, rfl, by omega, fun hp => ?_⟩
    obtain ⟨h0, _⟩ := hit 0 (by omega)
    obtain ⟨b, o, spot⟩ := x
    have hspot : spot = none := by simpa [Addr.add] using World.cell?_spot h0
    subst hspot
    have hb := World.block_lt_of_cell? W _ h0
    rw [addr_add9] at hb
    refine ⟨b, o, rfl, hb, fun j hj => ?_⟩
    obtain ⟨e0, e1, e2, e3, h2⟩ := hit j (by omega)
    simp only [addr_add9] at e0 e1 e2 e3
    exact ⟨e0, e1, e2, e3, h2⟩
end Go.Proofs.YtlnfbfdmicmafaaDoor
