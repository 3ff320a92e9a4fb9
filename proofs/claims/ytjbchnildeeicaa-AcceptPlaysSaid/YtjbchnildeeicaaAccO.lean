/-
  Calls of an acceptor that came in, opened: one by value, a slice of them.
-/
import Derived.Test.YtjbchnildeeicaaFrameP
import Derived.Test.YtjbchnildeeicaaAccE
import Derived.Lib.SmallJoins
namespace Go.Proofs.Ytjbchnildeeicaa
open Go.ChangeShapes Go.WideShapes Go.ChangeAt Go.RowKit Go.Deep
set_option linter.unusedVariables false

section
variable {H : Type} {enc : TypeId × Value → H} {W : World} {base b0 : Nat}
theorem array7 {α : Type} {cs : Array α} (h : cs.size = 7) : ∃ c0 c1 c2 c3 c4 c5 c6, cs = #[c0, c1, c2, c3, c4, c5, c6] := by
  obtain ⟨l⟩ := cs
  match l, h with
  | [c0, c1, c2, c3, c4, c5, c6], _ => exact ⟨c0, c1, c2, c3, c4, c5, c6, rfl⟩
set_option maxRecDepth 100000 in
/-- Four cells that read as a command. -/
theorem cmd_cells11 {fuel : Nat} {c0 c1 c2 c3 : Value} {x : DataW H × List MemPlace} (ht : DataW.trod enc Try.prog W base (fun _ => true) true fuel 32 [c0, c1, c2, c3] = some x) :
    ∃ k0 k1 k2 k3 : Int, c0 = .int .i64 k0 ∧ c1 = .int .i64 k1 ∧ c2 = .int .u64 k2 ∧ c3 = .int .i64 k3 ∧ 0 ≤ k2 ∧ k2 ≤ 18446744073709551615 := by
  obtain ⟨xs, n', _, _, _, hxl, hg⟩ := DataW.trod_struct Try.underlying32 ht
  have hxl4 : xs.length = 4 := hxl
  match xs, hxl4 with
  | [y0, y1, y2, y3], _ =>
    have g0 : DataW.trod enc Try.prog W base (fun _ => true) true n' 3 [c0] = some y0 := hg 0 _ rfl
    have g1 : DataW.trod enc Try.prog W base (fun _ => true) true n' 3 [c1] = some y1 := hg 1 _ rfl
    have g2 : DataW.trod enc Try.prog W base (fun _ => true) true n' 25 [c2] = some y2 := hg 2 _ rfl
    have g3 : DataW.trod enc Try.prog W base (fun _ => true) true n' 3 [c3] = some y3 := hg 3 _ rfl
    obtain ⟨k0, e0, _, _⟩ := DataW.trod_int Try.underlying3 g0
    obtain ⟨k1, e1, _, _⟩ := DataW.trod_int Try.underlying3 g1
    obtain ⟨k2, e2, _, w2⟩ := DataW.trod_int Try.underlying25 g2
    obtain ⟨k3, e3, _, _⟩ := DataW.trod_int Try.underlying3 g3
    simp only [List.cons.injEq, and_true] at e0 e1 e2 e3
    subst e0 e1 e2 e3
    have hk2 := bounds_u64 w2
    exact ⟨k0, k1, k2, k3, rfl, rfl, rfl, rfl, hk2.1, hk2.2⟩
/-- The numbers of a call that fit. -/
def OpFit (o : OpV) : Prop := 0 ≤ o.b ∧ o.b ≤ 18446744073709551615 ∧ -9223372036854775808 ≤ o.s ∧ o.s ≤ 9223372036854775807 ∧ 0 ≤ o.ep ∧ o.ep ≤ 18446744073709551615
set_option maxRecDepth 100000 in
/-- Seven cells that read as a call. -/
theorem op_cells {fuel : Nat} {c0 c1 c2 c3 c4 c5 c6 : Value} {x : DataW H × List MemPlace} (ht : DataW.trod enc Try.prog W base (fun _ => true) true fuel 34 [c0, c1, c2, c3, c4, c5, c6] = some x) :
    ∃ o : OpV, c0 = .int .i64 o.kd ∧ c1 = .int .u64 o.b ∧ c2 = .int .i64 o.s ∧ c3 = .int .i64 o.k ∧ c4 = .int .i64 o.ch ∧ c5 = .int .u64 o.ep ∧ c6 = .int .i64 o.nd ∧ OpFit o := by
  obtain ⟨xs, n', _, _, _, hxl, hg⟩ := DataW.trod_struct Try.underlying34 ht
  have hxl4 : xs.length = 4 := hxl
  match xs, hxl4 with
  | [y0, y1, y2, y3], _ =>
    have g0 : DataW.trod enc Try.prog W base (fun _ => true) true n' 3 [c0] = some y0 := hg 0 _ rfl
    have g1 : DataW.trod enc Try.prog W base (fun _ => true) true n' 25 [c1] = some y1 := hg 1 _ rfl
    have g2 : DataW.trod enc Try.prog W base (fun _ => true) true n' 3 [c2] = some y2 := hg 2 _ rfl
    have g3 : DataW.trod enc Try.prog W base (fun _ => true) true n' 32 [c3, c4, c5, c6] = some y3 := hg 3 _ rfl
    obtain ⟨k0, e0, _, _⟩ := DataW.trod_int Try.underlying3 g0
    obtain ⟨k1, e1, _, w1⟩ := DataW.trod_int Try.underlying25 g1
    obtain ⟨k2, e2, _, w2⟩ := DataW.trod_int Try.underlying3 g2
    obtain ⟨k3, k4, k5, k6, rfl, rfl, rfl, rfl, h5, h6⟩ := cmd_cells11 g3
    simp only [List.cons.injEq, and_true] at e0 e1 e2
    subst e0 e1 e2
    have hk1 := bounds_u64 w1
    have hk2 := bounds_i64 w2
    exact ⟨⟨k0, k1, k2, k3, k4, k5, k6⟩, rfl, rfl, rfl, rfl, rfl, rfl, rfl, hk1.1, hk1.2, hk2.1, hk2.2, h5, h6⟩
set_option maxRecDepth 100000 in
/-- A call by value. -/
theorem op_open {r : Reach} {v : Value} {d : DataW H} {p : List MemPlace} (hv : Value.okWide Try.prog W r b0 34 v)
    (h : DataW.Trod enc Try.prog W base (fun _ => true) true 34 v d p) : ∃ o : OpV, v = .agg #[.int .i64 o.kd, .int .u64 o.b, .int .i64 o.s, .int .i64 o.k, .int .i64 o.ch, .int .u64 o.ep, .int .i64 o.nd] ∧ OpFit o := by
  obtain ⟨cs, rfl, hsz⟩ := okWide_struct Try.underlying34 hv
  have hC : Try.prog.cellsOf 34 = 7 := by kernel_rfl
  obtain ⟨c0, c1, c2, c3, c4, c5, c6, rfl⟩ := array7 (hsz.trans hC)
  obtain ⟨fuel, hf⟩ := h
  obtain ⟨o, rfl, rfl, rfl, rfl, rfl, rfl, rfl, hfit⟩ := op_cells (by simpa [Value.cells] using hf)
  exact ⟨o, rfl, hfit⟩
/-- The value is a slice of n calls. -/
def OpsAt (w : World) (v : Value) (n : Nat) (it : Nat → OpV) : Prop :=
  ∃ a cap, v = .slice a n cap ∧ n ≤ 9223372036854775807 ∧ (0 < n → ∃ b o, a = some ⟨b, o, none⟩ ∧ b < w.heap.size ∧ ∀ j, j < n → w.cell? ⟨b, o + j * 7, none⟩ = some (.int .i64 (it j).kd) ∧ w.cell? ⟨b, o + j * 7 + 1, none⟩ = some (.int .u64 (it j).b) ∧
    w.cell? ⟨b, o + j * 7 + 2, none⟩ = some (.int .i64 (it j).s) ∧ w.cell? ⟨b, o + j * 7 + 3, none⟩ = some (.int .i64 (it j).k) ∧ w.cell? ⟨b, o + j * 7 + 4, none⟩ = some (.int .i64 (it j).ch) ∧ w.cell? ⟨b, o + j * 7 + 5, none⟩ = some (.int .u64 (it j).ep) ∧
    w.cell? ⟨b, o + j * 7 + 6, none⟩ = some (.int .i64 (it j).nd) ∧ OpFit (it j))
theorem list7 {α : Type} {cs : List α} (h : cs.length = 7) : ∃ c0 c1 c2 c3 c4 c5 c6, cs = [c0, c1, c2, c3, c4, c5, c6] := by
  match cs, h with
  | [c0, c1, c2, c3, c4, c5, c6], _ => exact ⟨c0, c1, c2, c3, c4, c5, c6, rfl⟩
set_option maxRecDepth 100000 in
theorem ops_open {d : DataW H} {p : List MemPlace} {a : Option Addr} {len cap : Nat}
    (h : DataW.Trod enc Try.prog W base (fun _ => true) true 22 (.slice a len cap) d p) : ∃ it : Nat → OpV, OpsAt W (.slice a len cap) len it := by
  obtain ⟨fuel, hf⟩ := h
  rcases open_slice Try.underlying22 hf with ⟨hcs, _⟩ | ⟨x, l, c, m, n, D, Pl, hcs, _, hl, hm, hmm, _, hi⟩
  · simp [Value.cells] at hcs
    obtain ⟨rfl, rfl, rfl⟩ := hcs
    exact ⟨fun _ => ⟨0, 0, 0, 0, 0, 0, 0⟩, none, 0, rfl, Nat.zero_le _, fun h => absurd h (by omega)⟩
  · simp [Value.cells] at hcs
    obtain ⟨rfl, rfl, rfl⟩ := hcs
    simp only [if_true] at hmm
    subst hmm
    have hC : Try.prog.cellsOf 34 = 7 := by kernel_rfl
    rw [hC] at hi
    unfold maxLen at hm
    have key : ∀ j, j < m → ∃ it : OpV, W.cell? (x.add (j * 7)) = some (.int .i64 it.kd) ∧ W.cell? ((x.add (j * 7)).add 1) = some (.int .u64 it.b) ∧ W.cell? ((x.add (j * 7)).add 2) = some (.int .i64 it.s) ∧
        W.cell? ((x.add (j * 7)).add 3) = some (.int .i64 it.k) ∧ W.cell? ((x.add (j * 7)).add 4) = some (.int .i64 it.ch) ∧ W.cell? ((x.add (j * 7)).add 5) = some (.int .u64 it.ep) ∧ W.cell? ((x.add (j * 7)).add 6) = some (.int .i64 it.nd) ∧ OpFit it := by
      intro j hj
      obtain ⟨cs', hc, ht⟩ := hi j hj
      obtain ⟨_, hlen, hat⟩ := World.cells?_some hc
      obtain ⟨c0, c1, c2, c3, c4, c5, c6, rfl⟩ := list7 hlen
      obtain ⟨o, rfl, rfl, rfl, rfl, rfl, rfl, rfl, hfit⟩ := op_cells ht
      have a0 : ∀ y : Addr, y.add 0 = y := fun y => by unfold Addr.add; split <;> simp_all
      have h0 := hat 0 (by omega)
      rw [a0] at h0
      exact ⟨o, h0, hat 1 (by omega), hat 2 (by omega), hat 3 (by omega), hat 4 (by omega), hat 5 (by omega), hat 6 (by omega), hfit⟩
    obtain ⟨it, hit⟩ := pick_all ⟨0, 0, 0, 0, 0, 0, 0⟩ key
    refine ⟨it, some x, m, rfl, by omega, fun hp => ?_⟩
    obtain ⟨h0, _⟩ := hit 0 (by omega)
    obtain ⟨b, o, spot⟩ := x
    have hspot : spot = none := by simpa [Addr.add] using World.cell?_spot h0
    subst hspot
    have hb := World.block_lt_of_cell? W _ h0
    rw [addr_add] at hb
    refine ⟨b, o, rfl, hb, fun j hj => ?_⟩
    obtain ⟨e0, e1, e2, e3, e4, e5, e6, hf⟩ := hit j (by omega)
    simp only [addr_add] at e0 e1 e2 e3 e4 e5 e6
    exact ⟨e0, e1, e2, e3, e4, e5, e6, hf⟩
end
end Go.Proofs.Ytjbchnildeeicaa
