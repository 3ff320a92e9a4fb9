/-
  Versions, calls and a slice of calls that came in: opened.
-/
import Derived.Test.YtnmclhgljpcjcaaFrameP
import Derived.Test.YtnmclhgljpcjcaaVerB
import Derived.Lib.SmallJoins
namespace Go.Proofs.Ytnmclhgljpcjcaa
open Go.ChangeShapes Go.WideShapes Go.ChangeAt Go.RowKit Go.Deep
set_option linter.unusedVariables false

section
variable {H : Type} {enc : TypeId × Value → H} {W : World} {base b0 : Nat}
/-- One cell that reads as a slice of bytes. -/
theorem bsl_cell15 {fuel : Nat} {c : Value} {x : DataW H × List MemPlace} (hf : DataW.trod enc Try.prog W base (fun _ => true) true fuel 34 [c] = some x) :
    ∃ l : List Int, BSl W (fun k => k < W.heap.size) c l := by
  rcases open_ints Try.underlying34 Try.underlying5 (by kernel_rfl) hf with ⟨hcs, _⟩ | ⟨x, len, cap, zs, hcs, _, hl, hm, hz, _, hcell, hwz⟩
  · simp only [List.cons.injEq, and_true] at hcs
    subst hcs
    exact ⟨[], BSl.nil _ _⟩
  · simp only [List.cons.injEq, and_true] at hcs
    subst hcs
    have hzl : zs.length = cap := by simpa using hz
    have hB : IsB zs := fun n hn => by
      have := bounds_u8 (hwz n hn)
      exact ⟨by omega, by omega⟩
    refine ⟨zs.take len, some x, cap, by rw [List.length_take]; congr 1; omega, by rw [List.length_take]; omega, hm, (fun h => by cases h), hB.take _, fun hp => ?_⟩
    rw [List.length_take] at hp
    obtain ⟨b, o, spot⟩ := x
    have h0 := hcell 0 (by omega)
    have hspot : spot = none := by simpa [Addr.add] using World.cell?_spot h0
    subst hspot
    have hadd : ∀ j, (⟨b, o, none⟩ : Addr).add j = ⟨b, o + j, none⟩ := fun j => by unfold Addr.add; split <;> simp_all
    have hbl := World.block_lt_of_cell? W _ h0
    refine ⟨b, o, rfl, by simpa [hadd] using hbl, by simpa [hadd] using hbl, fun j hj => ?_⟩
    rw [List.length_take] at hj
    rw [← hadd, hcell j (by omega)]
    simp [show j < len by omega]
theorem list3v {α : Type} {cs : List α} (h : cs.length = 3) : ∃ c0 c1 c2, cs = [c0, c1, c2] := by
  match cs, h with
  | [c0, c1, c2], _ => exact ⟨c0, c1, c2, rfl⟩
theorem list6o {α : Type} {cs : List α} (h : cs.length = 6) : ∃ c0 c1 c2 c3 c4 c5, cs = [c0, c1, c2, c3, c4, c5] := by
  match cs, h with
  | [c0, c1, c2, c3, c4, c5], _ => exact ⟨c0, c1, c2, c3, c4, c5, rfl⟩
set_option maxRecDepth 100000 in
/-- Three cells that read as a version. -/
theorem ver_cells15 {fuel : Nat} {c0 c1 c2 : Value} {x : DataW H × List MemPlace} (ht : DataW.trod enc Try.prog W base (fun _ => true) true fuel 36 [c0, c1, c2] = some x) :
    ∃ o : Vn, c0 = .int .u64 o.r ∧ c1 = .int .u64 o.q ∧ BSl W (fun k => k < W.heap.size) c2 o.d ∧ FitV o := by
  obtain ⟨xs, n', _, _, _, hxl, hg⟩ := DataW.trod_struct Try.underlying36 ht
  have hxl3 : xs.length = 3 := hxl
  match xs, hxl3 with
  | [y0, y1, y2], _ =>
    have g0 : DataW.trod enc Try.prog W base (fun _ => true) true n' 33 [c0] = some y0 := hg 0 _ rfl
    have g1 : DataW.trod enc Try.prog W base (fun _ => true) true n' 33 [c1] = some y1 := hg 1 _ rfl
    have g2 : DataW.trod enc Try.prog W base (fun _ => true) true n' 34 [c2] = some y2 := hg 2 _ rfl
    obtain ⟨k0, e0, _, w0⟩ := DataW.trod_int Try.underlying33 g0
    obtain ⟨k1, e1, _, w1⟩ := DataW.trod_int Try.underlying33 g1
    obtain ⟨l, hl⟩ := bsl_cell15 g2
    simp only [List.cons.injEq, and_true] at e0 e1
    subst e0 e1
    have hk0 := bounds_u64 w0
    have hk1 := bounds_u64 w1
    exact ⟨⟨k0, k1, l⟩, rfl, rfl, hl, hk0.1, hk0.2, hk1.1, hk1.2⟩
set_option maxRecDepth 100000 in
/-- A version by value. -/
theorem ver_open {r : Reach} {v : Value} {d : DataW H} {p : List MemPlace} (hv : Value.okWide Try.prog W r b0 36 v)
    (h : DataW.Trod enc Try.prog W base (fun _ => true) true 36 v d p) : ∃ o : Vn, VnV W (fun k => k < W.heap.size) v o ∧ FitV o := by
  obtain ⟨cs, rfl, hsz⟩ := okWide_struct Try.underlying36 hv
  have hC : Try.prog.cellsOf 36 = 3 := by kernel_rfl
  obtain ⟨l⟩ := cs
  obtain ⟨c0, c1, c2, rfl⟩ := list3v (cs := l) (hsz.trans hC)
  obtain ⟨fuel, hf⟩ := h
  obtain ⟨o, rfl, rfl, hb, hfit⟩ := ver_cells15 (by simpa [Value.cells] using hf)
  exact ⟨o, ⟨c2, rfl, hb⟩, hfit⟩
/-- A call that came in. -/
structure Op15 where
  k : Int
  v : Vn
  ver : Int
  done : Int
def op0 : Op15 := ⟨0, vn0, 0, 0⟩
def FitO (o : Op15) : Prop := FitV o.v ∧ 0 ≤ o.ver ∧ o.ver ≤ 18446744073709551615 ∧ 0 ≤ o.done ∧ o.done ≤ 18446744073709551615
set_option maxRecDepth 100000 in
theorem op_cells15 {fuel : Nat} {c0 c1 c2 c3 c4 c5 : Value} {x : DataW H × List MemPlace} (ht : DataW.trod enc Try.prog W base (fun _ => true) true fuel 38 [c0, c1, c2, c3, c4, c5] = some x) :
    ∃ o : Op15, c0 = .int .i64 o.k ∧ c1 = .int .u64 o.v.r ∧ c2 = .int .u64 o.v.q ∧ BSl W (fun k => k < W.heap.size) c3 o.v.d ∧ c4 = .int .u64 o.ver ∧ c5 = .int .u64 o.done ∧ FitO o := by
  obtain ⟨xs, n', _, _, _, hxl, hg⟩ := DataW.trod_struct Try.underlying38 ht
  have hxl3 : xs.length = 4 := hxl
  match xs, hxl3 with
  | [y0, y1, y2, y3], _ =>
    have g0 : DataW.trod enc Try.prog W base (fun _ => true) true n' 3 [c0] = some y0 := hg 0 _ rfl
    have g1 : DataW.trod enc Try.prog W base (fun _ => true) true n' 36 [c1, c2, c3] = some y1 := hg 1 _ rfl
    have g2 : DataW.trod enc Try.prog W base (fun _ => true) true n' 33 [c4] = some y2 := hg 2 _ rfl
    have g3 : DataW.trod enc Try.prog W base (fun _ => true) true n' 33 [c5] = some y3 := hg 3 _ rfl
    obtain ⟨k0, e0, _, w0⟩ := DataW.trod_int Try.underlying3 g0
    obtain ⟨o, rfl, rfl, hb, hf⟩ := ver_cells15 g1
    obtain ⟨k2, e2, _, w2⟩ := DataW.trod_int Try.underlying33 g2
    obtain ⟨k3, e3, _, w3⟩ := DataW.trod_int Try.underlying33 g3
    simp only [List.cons.injEq, and_true] at e0 e2 e3
    subst e0 e2 e3
    have hk2 := bounds_u64 w2
    have hk3 := bounds_u64 w3
    exact ⟨⟨k0, o, k2, k3⟩, rfl, rfl, rfl, hb, rfl, rfl, hf, hk2.1, hk2.2, hk3.1, hk3.2⟩
/-- The value is a call. -/
def OpV (w : World) (v : Value) (o : Op15) : Prop := ∃ u, v = .agg #[.int .i64 o.k, .int .u64 o.v.r, .int .u64 o.v.q, u, .int .u64 o.ver, .int .u64 o.done] ∧ BSl w (fun k => k < w.heap.size) u o.v.d ∧ FitO o
set_option maxRecDepth 100000 in
/-- A call by value. -/
theorem op_open {r : Reach} {v : Value} {d : DataW H} {p : List MemPlace} (hv : Value.okWide Try.prog W r b0 38 v)
    (h : DataW.Trod enc Try.prog W base (fun _ => true) true 38 v d p) : ∃ o : Op15, OpV W v o := by
  obtain ⟨cs, rfl, hsz⟩ := okWide_struct Try.underlying38 hv
  have hC : Try.prog.cellsOf 38 = 6 := by kernel_rfl
  obtain ⟨l⟩ := cs
  obtain ⟨c0, c1, c2, c3, c4, c5, rfl⟩ := list6o (cs := l) (hsz.trans hC)
  obtain ⟨fuel, hf⟩ := h
  obtain ⟨o, rfl, rfl, rfl, hb, rfl, rfl, hfit⟩ := op_cells15 (by simpa [Value.cells] using hf)
  exact ⟨o, c3, rfl, hb, hfit⟩
/-- The value is a slice of n calls. -/
def OpsAt (w : World) (v : Value) (n : Nat) (it : Nat → Op15) : Prop :=
  ∃ a cap, v = .slice a n cap ∧ n ≤ 9223372036854775807 ∧ (0 < n → ∃ b o, a = some ⟨b, o, none⟩ ∧ b < w.heap.size ∧ ∀ j, j < n → w.cell? ⟨b, o + j * 6, none⟩ = some (.int .i64 (it j).k) ∧ VnAt w (fun k => k < w.heap.size) b (o + j * 6 + 1) (it j).v ∧ w.cell? ⟨b, o + j * 6 + 4, none⟩ = some (.int .u64 (it j).ver) ∧ w.cell? ⟨b, o + j * 6 + 5, none⟩ = some (.int .u64 (it j).done) ∧ FitO (it j))
set_option maxRecDepth 100000 in
theorem ops_open {d : DataW H} {p : List MemPlace} {a : Option Addr} {len cap : Nat}
    (h : DataW.Trod enc Try.prog W base (fun _ => true) true 29 (.slice a len cap) d p) : ∃ it : Nat → Op15, OpsAt W (.slice a len cap) len it := by
  obtain ⟨fuel, hf⟩ := h
  rcases open_slice Try.underlying29 hf with ⟨hcs, _⟩ | ⟨x, l, c, m, n, D, Pl, hcs, _, hl, hm, hmm, _, hi⟩
  · simp [Value.cells] at hcs
    obtain ⟨rfl, rfl, rfl⟩ := hcs
    exact ⟨fun _ => op0, none, 0, rfl, Nat.zero_le _, fun h => absurd h (by omega)⟩
  · simp [Value.cells] at hcs
    obtain ⟨rfl, rfl, rfl⟩ := hcs
    simp only [if_true] at hmm
    subst hmm
    have hC : Try.prog.cellsOf 38 = 6 := by kernel_rfl
    rw [hC] at hi
    unfold maxLen at hm
    have key : ∀ j, j < m → ∃ it : Op15, W.cell? (x.add (j * 6)) = some (.int .i64 it.k) ∧ W.cell? ((x.add (j * 6)).add 1) = some (.int .u64 it.v.r) ∧ W.cell? ((x.add (j * 6)).add 2) = some (.int .u64 it.v.q) ∧
        (∃ u, W.cell? ((x.add (j * 6)).add 3) = some u ∧ BSl W (fun k => k < W.heap.size) u it.v.d) ∧ W.cell? ((x.add (j * 6)).add 4) = some (.int .u64 it.ver) ∧ W.cell? ((x.add (j * 6)).add 5) = some (.int .u64 it.done) ∧ FitO it := by
      intro j hj
      obtain ⟨cs', hc, ht⟩ := hi j hj
      obtain ⟨_, hlen, hat⟩ := World.cells?_some hc
      obtain ⟨c0, c1, c2, c3, c4, c5, rfl⟩ := list6o hlen
      obtain ⟨o, rfl, rfl, rfl, hb, rfl, rfl, hfit⟩ := op_cells15 ht
      have a0 : ∀ y : Addr, y.add 0 = y := fun y => by unfold Addr.add; split <;> simp_all
      have h0 := hat 0 (by omega)
      rw [a0] at h0
      exact ⟨o, h0, hat 1 (by omega), hat 2 (by omega), ⟨c3, hat 3 (by omega), hb⟩, hat 4 (by omega), hat 5 (by omega), hfit⟩
    obtain ⟨it, hit⟩ := pick_all op0 key
    refine ⟨it, some x, m, rfl, by omega, fun hp => ?_⟩
    obtain ⟨h0, _⟩ := hit 0 (by omega)
    obtain ⟨b, o, spot⟩ := x
    have hspot : spot = none := by simpa [Addr.add] using World.cell?_spot h0
    subst hspot
    have hb := World.block_lt_of_cell? W _ h0
    rw [addr_add] at hb
    refine ⟨b, o, rfl, hb, fun j hj => ?_⟩
    obtain ⟨e0, e1, e2, ⟨u, e3, hd⟩, e4, e5, hf⟩ := hit j (by omega)
    simp only [addr_add] at e0 e1 e2 e3 e4 e5
    exact ⟨e0, ⟨u, e1, e2, e3, hd⟩, e4, e5, hf⟩
end
end Go.Proofs.Ytnmclhgljpcjcaa
