/-
  Rows of clients that came in, opened (by wip/mkses.py).
-/
import Derived.Test.YtnmclhgljpcjcaaFrameP
import Derived.Test.YtnmclhgljpcjcaaSesD
import Derived.Lib.SmallJoins
namespace Go.Proofs.Ytnmclhgljpcjcaa
open Go.ChangeShapes Go.WideShapes Go.ChangeAt Go.RowKit Go.Deep
set_option linter.unusedVariables false

section
variable {H : Type} {enc : TypeId × Value → H} {W : World} {base b0 : Nat}
set_option maxRecDepth 100000 in
/-- Five cells that read as a row. -/
theorem rw_cells16 {fuel : Nat} {c0 c1 c2 c3 c4 : Value} {x : DataW H × List MemPlace} (ht : DataW.trod enc Try.prog W base (fun _ => true) true fuel 74 [c0, c1, c2, c3, c4] = some x) :
    ∃ o : Rw, c0 = .int .i64 o.s ∧ c1 = .int .u64 o.b ∧ c2 = .int .u64 o.k ∧ c3 = .int .i64 o.ch ∧ c4 = .int .u64 o.ep ∧ FitR o := by
  obtain ⟨xs, n', _, _, _, hxl, hg⟩ := DataW.trod_struct Try.underlying74 ht
  have hxl3 : xs.length = 5 := hxl
  match xs, hxl3 with
  | [y0, y1, y2, y3, y4], _ =>
    have g0 : DataW.trod enc Try.prog W base (fun _ => true) true n' 3 [c0] = some y0 := hg 0 _ rfl
    have g1 : DataW.trod enc Try.prog W base (fun _ => true) true n' 33 [c1] = some y1 := hg 1 _ rfl
    have g2 : DataW.trod enc Try.prog W base (fun _ => true) true n' 33 [c2] = some y2 := hg 2 _ rfl
    have g3 : DataW.trod enc Try.prog W base (fun _ => true) true n' 39 [c3] = some y3 := hg 3 _ rfl
    have g4 : DataW.trod enc Try.prog W base (fun _ => true) true n' 33 [c4] = some y4 := hg 4 _ rfl
    obtain ⟨k0, e0, _, w0⟩ := DataW.trod_int Try.underlying3 g0
    obtain ⟨k1, e1, _, w1⟩ := DataW.trod_int Try.underlying33 g1
    obtain ⟨k2, e2, _, w2⟩ := DataW.trod_int Try.underlying33 g2
    obtain ⟨k3, e3, _, w3⟩ := DataW.trod_int Try.underlying39 g3
    obtain ⟨k4, e4, _, w4⟩ := DataW.trod_int Try.underlying33 g4
    simp only [List.cons.injEq, and_true] at e0 e1 e2 e3 e4
    subst e0 e1 e2 e3 e4
    have hk1 := bounds_u64 w1
    have hk2 := bounds_u64 w2
    have hk4 := bounds_u64 w4
    exact ⟨⟨k0, k1, k2, k3, k4⟩, rfl, rfl, rfl, rfl, rfl, hk1.1, hk1.2, hk2.1, hk2.2, hk4.1, hk4.2⟩
theorem array5r {α : Type} {cs : Array α} (h : cs.size = 5) : ∃ c0 c1 c2 c3 c4, cs = #[c0, c1, c2, c3, c4] := by
  obtain ⟨l⟩ := cs
  match l, h with
  | [c0, c1, c2, c3, c4], _ => exact ⟨c0, c1, c2, c3, c4, rfl⟩
set_option maxRecDepth 100000 in
/-- A row by value. -/
theorem rw_open {r : Reach} {v : Value} {d : DataW H} {p : List MemPlace} (hv : Value.okWide Try.prog W r b0 74 v)
    (h : DataW.Trod enc Try.prog W base (fun _ => true) true 74 v d p) : ∃ o : Rw, v = .agg #[.int .i64 o.s, .int .u64 o.b, .int .u64 o.k, .int .i64 o.ch, .int .u64 o.ep] ∧ FitR o := by
  obtain ⟨cs, rfl, hsz⟩ := okWide_struct Try.underlying74 hv
  have hC : Try.prog.cellsOf 74 = 5 := by kernel_rfl
  obtain ⟨c0, c1, c2, c3, c4, rfl⟩ := array5r (hsz.trans hC)
  obtain ⟨fuel, hf⟩ := h
  obtain ⟨o, rfl, rfl, rfl, rfl, rfl, hfit⟩ := rw_cells16 (by simpa [Value.cells] using hf)
  exact ⟨o, rfl, hfit⟩
/-- The value is a slice of n votes, of any kind. -/
def RwsAt (w : World) (v : Value) (n : Nat) (it : Nat → Rw) : Prop :=
  ∃ a cap, v = .slice a n cap ∧ n ≤ 9223372036854775807 ∧ (0 < n → ∃ b o, a = some ⟨b, o, none⟩ ∧ b < w.heap.size ∧ ∀ j, j < n → RwAt w b (o + j * 5) (it j) ∧ FitR (it j))
theorem list5r {α : Type} {cs : List α} (h : cs.length = 5) : ∃ c0 c1 c2 c3 c4, cs = [c0, c1, c2, c3, c4] := by
  match cs, h with
  | [c0, c1, c2, c3, c4], _ => exact ⟨c0, c1, c2, c3, c4, rfl⟩
set_option maxRecDepth 100000 in
theorem rws_open {d : DataW H} {p : List MemPlace} {a : Option Addr} {len cap : Nat}
    (h : DataW.Trod enc Try.prog W base (fun _ => true) true 68 (.slice a len cap) d p) : ∃ it : Nat → Rw, RwsAt W (.slice a len cap) len it := by
  obtain ⟨fuel, hf⟩ := h
  rcases open_slice Try.underlying68 hf with ⟨hcs, _⟩ | ⟨x, l, c, m, n, D, Pl, hcs, _, hl, hm, hmm, _, hi⟩
  · simp [Value.cells] at hcs
    obtain ⟨rfl, rfl, rfl⟩ := hcs
    exact ⟨fun _ => rw0, none, 0, rfl, Nat.zero_le _, fun h => absurd h (by omega)⟩
  · simp [Value.cells] at hcs
    obtain ⟨rfl, rfl, rfl⟩ := hcs
    simp only [if_true] at hmm
    subst hmm
    have hC : Try.prog.cellsOf 74 = 5 := by kernel_rfl
    rw [hC] at hi
    unfold maxLen at hm
    have key : ∀ j, j < m → ∃ it : Rw, W.cell? (x.add (j * 5)) = some (.int .i64 it.s) ∧ W.cell? ((x.add (j * 5)).add 1) = some (.int .u64 it.b) ∧ W.cell? ((x.add (j * 5)).add 2) = some (.int .u64 it.k) ∧
        W.cell? ((x.add (j * 5)).add 3) = some (.int .i64 it.ch) ∧ W.cell? ((x.add (j * 5)).add 4) = some (.int .u64 it.ep) ∧ FitR it := by
      intro j hj
      obtain ⟨cs', hc, ht⟩ := hi j hj
      obtain ⟨_, hlen, hat⟩ := World.cells?_some hc
      obtain ⟨c0, c1, c2, c3, c4, rfl⟩ := list5r hlen
      obtain ⟨o, rfl, rfl, rfl, rfl, rfl, hfit⟩ := rw_cells16 ht
      have a0 : ∀ y : Addr, y.add 0 = y := fun y => by unfold Addr.add; split <;> simp_all
      have h0 := hat 0 (by omega)
      rw [a0] at h0
      exact ⟨o, h0, hat 1 (by omega), hat 2 (by omega), hat 3 (by omega), hat 4 (by omega), hfit⟩
    obtain ⟨it, hit⟩ := pick_all rw0 key
    refine ⟨it, some x, m, rfl, by omega, fun hp => ?_⟩
    obtain ⟨h0, _⟩ := hit 0 (by omega)
    obtain ⟨b, o, spot⟩ := x
    have hspot : spot = none := by simpa [Addr.add] using World.cell?_spot h0
    subst hspot
    have hb := World.block_lt_of_cell? W _ h0
    rw [addr_add] at hb
    refine ⟨b, o, rfl, hb, fun j hj => ?_⟩
    obtain ⟨e0, e1, e2, e3, e4, hf⟩ := hit j (by omega)
    simp only [addr_add] at e0 e1 e2 e3 e4
    exact ⟨⟨e0, e1, e2, e3, e4⟩, hf⟩
end
end Go.Proofs.Ytnmclhgljpcjcaa
