/-
  Votes that came in, opened: a slice of them.
-/
import Derived.Test.YtidhaofojcdbaaaChoO
import Derived.Test.YtidhaofojcdbaaaAccG
namespace Go.Proofs.Ytidhaofojcdbaaa
open Go.ChangeShapes Go.WideShapes Go.ChangeAt Go.RowKit Go.Deep
set_option linter.unusedVariables false

section
variable {H : Type} {enc : TypeId × Value → H} {W : World} {base b0 : Nat}
/-- The numbers of a vote that fit. -/
def VtFit (o : Vt) : Prop := 0 ≤ o.b ∧ o.b ≤ 18446744073709551615 ∧ -9223372036854775808 ≤ o.s ∧ o.s ≤ 9223372036854775807 ∧ 0 ≤ o.ep ∧ o.ep ≤ 18446744073709551615
set_option maxRecDepth 100000 in
/-- Six cells that read as a vote. -/
theorem vt_cells12 {fuel : Nat} {c0 c1 c2 c3 c4 c5 : Value} {x : DataW H × List MemPlace} (ht : DataW.trod enc Try.prog W base (fun _ => true) true fuel 48 [c0, c1, c2, c3, c4, c5] = some x) :
    ∃ o : Vt, c0 = .int .i64 o.s ∧ c1 = .int .u64 o.b ∧ c2 = .int .i64 o.k ∧ c3 = .int .i64 o.ch ∧ c4 = .int .u64 o.ep ∧ c5 = .int .i64 o.nd ∧ VtFit o := by
  obtain ⟨xs, n', _, _, _, hxl, hg⟩ := DataW.trod_struct Try.underlying48 ht
  have hxl3 : xs.length = 3 := hxl
  match xs, hxl3 with
  | [y0, y1, y2], _ =>
    have g0 : DataW.trod enc Try.prog W base (fun _ => true) true n' 3 [c0] = some y0 := hg 0 _ rfl
    have g1 : DataW.trod enc Try.prog W base (fun _ => true) true n' 37 [c1] = some y1 := hg 1 _ rfl
    have g2 : DataW.trod enc Try.prog W base (fun _ => true) true n' 39 [c2, c3, c4, c5] = some y2 := hg 2 _ rfl
    obtain ⟨k0, e0, _, w0⟩ := DataW.trod_int Try.underlying3 g0
    obtain ⟨k1, e1, _, w1⟩ := DataW.trod_int Try.underlying37 g1
    obtain ⟨k2, k3, k4, k5, rfl, rfl, rfl, rfl, h5, h6⟩ := cmd_cells11 g2
    simp only [List.cons.injEq, and_true] at e0 e1
    subst e0 e1
    have hk1 := bounds_u64 w1
    have hk0 := bounds_i64 w0
    exact ⟨⟨k0, k1, k2, k3, k4, k5⟩, rfl, rfl, rfl, rfl, rfl, rfl, hk1.1, hk1.2, hk0.1, hk0.2, h5, h6⟩
/-- The value is a slice of n votes, of any kind. -/
def VtsAt (w : World) (v : Value) (n : Nat) (it : Nat → Vt) : Prop :=
  ∃ a cap, v = .slice a n cap ∧ n ≤ 9223372036854775807 ∧ (0 < n → ∃ b o, a = some ⟨b, o, none⟩ ∧ b < w.heap.size ∧ ∀ j, j < n → VtAt w b (o + j * 6) (it j) ∧ VtFit (it j))
theorem list6v {α : Type} {cs : List α} (h : cs.length = 6) : ∃ c0 c1 c2 c3 c4 c5, cs = [c0, c1, c2, c3, c4, c5] := by
  match cs, h with
  | [c0, c1, c2, c3, c4, c5], _ => exact ⟨c0, c1, c2, c3, c4, c5, rfl⟩
set_option maxRecDepth 100000 in
theorem vts_open {d : DataW H} {p : List MemPlace} {a : Option Addr} {len cap : Nat}
    (h : DataW.Trod enc Try.prog W base (fun _ => true) true 28 (.slice a len cap) d p) : ∃ it : Nat → Vt, VtsAt W (.slice a len cap) len it := by
  obtain ⟨fuel, hf⟩ := h
  rcases open_slice Try.underlying28 hf with ⟨hcs, _⟩ | ⟨x, l, c, m, n, D, Pl, hcs, _, hl, hm, hmm, _, hi⟩
  · simp [Value.cells] at hcs
    obtain ⟨rfl, rfl, rfl⟩ := hcs
    exact ⟨fun _ => vt0, none, 0, rfl, Nat.zero_le _, fun h => absurd h (by omega)⟩
  · simp [Value.cells] at hcs
    obtain ⟨rfl, rfl, rfl⟩ := hcs
    simp only [if_true] at hmm
    subst hmm
    have hC : Try.prog.cellsOf 48 = 6 := by kernel_rfl
    rw [hC] at hi
    unfold maxLen at hm
    have key : ∀ j, j < m → ∃ it : Vt, W.cell? (x.add (j * 6)) = some (.int .i64 it.s) ∧ W.cell? ((x.add (j * 6)).add 1) = some (.int .u64 it.b) ∧ W.cell? ((x.add (j * 6)).add 2) = some (.int .i64 it.k) ∧
        W.cell? ((x.add (j * 6)).add 3) = some (.int .i64 it.ch) ∧ W.cell? ((x.add (j * 6)).add 4) = some (.int .u64 it.ep) ∧ W.cell? ((x.add (j * 6)).add 5) = some (.int .i64 it.nd) ∧ VtFit it := by
      intro j hj
      obtain ⟨cs', hc, ht⟩ := hi j hj
      obtain ⟨_, hlen, hat⟩ := World.cells?_some hc
      obtain ⟨c0, c1, c2, c3, c4, c5, rfl⟩ := list6v hlen
      obtain ⟨o, rfl, rfl, rfl, rfl, rfl, rfl, hfit⟩ := vt_cells12 ht
      have a0 : ∀ y : Addr, y.add 0 = y := fun y => by unfold Addr.add; split <;> simp_all
      have h0 := hat 0 (by omega)
      rw [a0] at h0
      exact ⟨o, h0, hat 1 (by omega), hat 2 (by omega), hat 3 (by omega), hat 4 (by omega), hat 5 (by omega), hfit⟩
    obtain ⟨it, hit⟩ := pick_all vt0 key
    refine ⟨it, some x, m, rfl, by omega, fun hp => ?_⟩
    obtain ⟨h0, _⟩ := hit 0 (by omega)
    obtain ⟨b, o, spot⟩ := x
    have hspot : spot = none := by simpa [Addr.add] using World.cell?_spot h0
    subst hspot
    have hb := World.block_lt_of_cell? W _ h0
    rw [addr_add] at hb
    refine ⟨b, o, rfl, hb, fun j hj => ?_⟩
    obtain ⟨e0, e1, e2, e3, e4, e5, hf⟩ := hit j (by omega)
    simp only [addr_add] at e0 e1 e2 e3 e4 e5
    exact ⟨⟨e0, e1, e2, e3, e4, e5⟩, hf⟩
end
end Go.Proofs.Ytidhaofojcdbaaa
