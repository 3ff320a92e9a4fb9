/-
  Slices of items and of asks that came in: opened.
-/
import Derived.Test.YtgkkiijoblphfaaFrame
import Derived.Test.YtgkkiijoblphfaaItems
import Derived.Deep.Slices
import Derived.Deep.Fields
import Derived.ChangeSame
namespace Go.Proofs.Ytgkkiijoblphfaa
open Go.ChangeShapes Go.WideShapes Go.ChangeAt Go.RowKit Go.Deep

theorem addr_add (b o j : Nat) : (⟨b, o, none⟩ : Addr).add j = ⟨b, o + j, none⟩ := by unfold Addr.add; split <;> simp_all

theorem pick_all {α : Type} {m : Nat} {Q : Nat → α → Prop} (z : α) (h : ∀ j, j < m → ∃ x, Q j x) : ∃ f : Nat → α, ∀ j, j < m → Q j (f j) :=
  ⟨fun j => if hj : j < m then Classical.choose (h j hj) else z, fun j hj => by
    simp only [dif_pos hj]
    exact Classical.choose_spec (h j hj)⟩

section
variable {H : Type} {enc : TypeId × Value → H} {W : World} {base : Nat}
/-- One cell that reads as a slice of bytes. -/
theorem bsl_cell {fuel : Nat} {c : Value} {x : DataW H × List MemPlace} (h : DataW.trod enc Try.prog W base (fun _ => true) true fuel 22 [c] = some x) :
    ∃ l : List Int, BSl W (fun k => k < W.heap.size) c l := by
  rcases open_ints Try.underlying22 Try.underlying5 (by kernel_rfl) h with ⟨hcs, _⟩ | ⟨a, len, cap, _, hcs, _⟩
  · simp only [List.cons.injEq, and_true] at hcs
    subst hcs
    exact ⟨[], BSl.nil _ _⟩
  · simp only [List.cons.injEq, and_true] at hcs
    subst hcs
    exact bsl_open (d := x.1) (p := x.2) ⟨fuel, by simpa [Value.cells] using h⟩

set_option maxRecDepth 100000 in
theorem aks_open {d : DataW H} {p : List MemPlace} {a : Option Addr} {len cap : Nat}
    (h : DataW.Trod enc Try.prog W base (fun _ => true) true 23 (.slice a len cap) d p) : ∃ it : Nat → Ask', AksAt W (.slice a len cap) len it := by
  obtain ⟨fuel, hf⟩ := h
  rcases open_slice Try.underlying23 hf with ⟨hcs, _⟩ | ⟨x, l, c, m, n, D, Pl, hcs, _, hl, hm, hmm, _, hi⟩
  · simp [Value.cells] at hcs
    obtain ⟨rfl, rfl, rfl⟩ := hcs
    exact ⟨fun _ => ⟨0, 0, 0⟩, none, 0, rfl, Nat.zero_le _, fun h => absurd h (by omega)⟩
  · simp [Value.cells] at hcs
    obtain ⟨rfl, rfl, rfl⟩ := hcs
    simp only [if_true] at hmm
    subst hmm
    have hC : Try.prog.cellsOf 32 = 3 := by kernel_rfl
    rw [hC] at hi
    unfold maxLen at hm
    have key : ∀ j, j < m → ∃ it : Ask', W.cell? (x.add (j * 3)) = some (.int .i64 it.kind) ∧ W.cell? ((x.add (j * 3)).add 1) = some (.int .i64 it.width) ∧ W.cell? ((x.add (j * 3)).add 2) = some (.int .u64 it.most) ∧
        0 ≤ it.most ∧ it.width ≤ 9223372036854775807 := by
      intro j hj
      obtain ⟨cs', hc, ht⟩ := hi j hj
      obtain ⟨_, hlen, hat⟩ := World.cells?_some hc
      obtain ⟨xs, n', _, _, _, hxl, hg⟩ := DataW.trod_struct Try.underlying32 ht
      have hxl4 : xs.length = 3 := hxl
      match cs', hlen with
      | [c0, c1, c2], _ =>
        match xs, hxl4 with
        | [y0, y1, y2], _ =>
          have g0 : DataW.trod enc Try.prog W base (fun _ => true) true n' 3 [c0] = some y0 := hg 0 _ rfl
          have g1 : DataW.trod enc Try.prog W base (fun _ => true) true n' 3 [c1] = some y1 := hg 1 _ rfl
          have g2 : DataW.trod enc Try.prog W base (fun _ => true) true n' 30 [c2] = some y2 := hg 2 _ rfl
          obtain ⟨k0, e0, _, _⟩ := DataW.trod_int Try.underlying3 g0
          obtain ⟨k1, e1, _, w1⟩ := DataW.trod_int Try.underlying3 g1
          obtain ⟨k2, e2, _, w2⟩ := DataW.trod_int Try.underlying30 g2
          simp only [List.cons.injEq, and_true] at e0 e1 e2
          subst e0 e1 e2
          have a0 : ∀ y : Addr, y.add 0 = y := fun y => by unfold Addr.add; split <;> simp_all
          refine ⟨⟨k0, k1, k2⟩, ?_, ?_, ?_, (bounds_u64 w2).1, (bounds_i64 w1).2⟩
          · have := hat 0 (by omega)
            rw [a0] at this
            exact this
          · exact hat 1 (by omega)
          · exact hat 2 (by omega)
    obtain ⟨it, hit⟩ := pick_all ⟨0, 0, 0⟩ key
    refine ⟨it, some x, m, rfl, by omega, fun hp => ?_⟩
    obtain ⟨h0, _⟩ := hit 0 (by omega)
    obtain ⟨b, o, spot⟩ := x
    have hspot : spot = none := by simpa [Addr.add] using World.cell?_spot h0
    subst hspot
    have hb := World.block_lt_of_cell? W _ h0
    rw [addr_add] at hb
    refine ⟨b, o, rfl, hb, fun j hj => ?_⟩
    obtain ⟨e0, e1, e2, hb3, hn⟩ := hit j (by omega)
    simp only [addr_add] at e0 e1 e2
    exact ⟨e0, e1, e2, hb3, hn⟩
end
end Go.Proofs.Ytgkkiijoblphfaa
