/-
  Commands that came in, in a slice: opened, with both bounds of their epochs.
-/
import Derived.Test.YtidhaofojcdbaaaChoP
import Derived.Test.YtidhaofojcdbaaaCnfAV
namespace Go.Proofs.Ytidhaofojcdbaaa
open Go.ChangeShapes Go.WideShapes Go.ChangeAt Go.RowKit Go.Deep
set_option linter.unusedVariables false

/-- The value is a slice of n commands, of any kind. -/
def Cm2 (w : World) (v : Value) (n : Nat) (it : Nat → Vt) : Prop :=
  ∃ a cap, v = .slice a n cap ∧ n ≤ 9223372036854775807 ∧ (0 < n → ∃ b o, a = some ⟨b, o, none⟩ ∧ b < w.heap.size ∧ ∀ j, j < n → CmC w b (o + j * 4) (it j).k (it j).ch (it j).ep (it j).nd ∧ 0 ≤ (it j).ep ∧ (it j).ep ≤ 18446744073709551615)
set_option maxRecDepth 100000 in
theorem cm2_open {H : Type} {enc : TypeId × Value → H} {W : World} {base : Nat} {d : DataW H} {p : List MemPlace} {a : Option Addr} {len cap : Nat}
    (h : DataW.Trod enc Try.prog W base (fun _ => true) true 53 (.slice a len cap) d p) : ∃ it : Nat → Vt, Cm2 W (.slice a len cap) len it := by
  obtain ⟨fuel, hf⟩ := h
  rcases open_slice Try.underlying53 hf with ⟨hcs, _⟩ | ⟨x, l, c, m, n, D, Pl, hcs, _, hl, hm, hmm, _, hi⟩
  · simp [Value.cells] at hcs
    obtain ⟨rfl, rfl, rfl⟩ := hcs
    exact ⟨fun _ => vt0, none, 0, rfl, Nat.zero_le _, fun h => absurd h (by omega)⟩
  · simp [Value.cells] at hcs
    obtain ⟨rfl, rfl, rfl⟩ := hcs
    simp only [if_true] at hmm
    subst hmm
    have hC : Try.prog.cellsOf 39 = 4 := by kernel_rfl
    rw [hC] at hi
    unfold maxLen at hm
    have key : ∀ j, j < m → ∃ it : Vt, W.cell? (x.add (j * 4)) = some (.int .i64 it.k) ∧ W.cell? ((x.add (j * 4)).add 1) = some (.int .i64 it.ch) ∧ W.cell? ((x.add (j * 4)).add 2) = some (.int .u64 it.ep) ∧
        W.cell? ((x.add (j * 4)).add 3) = some (.int .i64 it.nd) ∧ 0 ≤ it.ep ∧ it.ep ≤ 18446744073709551615 := by
      intro j hj
      obtain ⟨cs', hc, ht⟩ := hi j hj
      obtain ⟨_, hlen, hat⟩ := World.cells?_some hc
      match cs', hlen with
      | [c0, c1, c2, c3], _ =>
        obtain ⟨k0, k1, k2, k3, rfl, rfl, rfl, rfl, h5, h6⟩ := cmd_cells11 ht
        have a0 : ∀ y : Addr, y.add 0 = y := fun y => by unfold Addr.add; split <;> simp_all
        refine ⟨⟨0, 0, k0, k1, k2, k3⟩, ?_, hat 1 (by omega), hat 2 (by omega), hat 3 (by omega), h5, h6⟩
        have := hat 0 (by omega)
        rw [a0] at this
        exact this
    obtain ⟨it, hit⟩ := pick_all vt0 key
    refine ⟨it, some x, m, rfl, by omega, fun hp => ?_⟩
    obtain ⟨h0, _⟩ := hit 0 (by omega)
    obtain ⟨b, o, spot⟩ := x
    have hspot : spot = none := by simpa [Addr.add] using World.cell?_spot h0
    subst hspot
    have hb := World.block_lt_of_cell? W _ h0
    rw [addr_add] at hb
    refine ⟨b, o, rfl, hb, fun j hj => ?_⟩
    obtain ⟨e0, e1, e2, e3, h2⟩ := hit j (by omega)
    simp only [addr_add] at e0 e1 e2 e3
    exact ⟨⟨e0, e1, e2, e3⟩, h2⟩
end Go.Proofs.Ytidhaofojcdbaaa
