/-
  An update, an operation on a block and a slice of updates that came in: opened.
-/
import Derived.Test.YtclfecninhipnaaGreatDoorFrameP
import Derived.Test.YtclfecninhipnaaGreatDoorUpd1
import Derived.Lib.SmallJoins
namespace Go.Proofs.YtclfecninhipnaaGreatDoor
open Go.ChangeShapes Go.WideShapes Go.ChangeAt Go.RowKit Go.Deep
set_option linter.unusedVariables false

section
variable {H : Type} {enc : TypeId × Value → H} {W : World} {base b0 : Nat}
/-- One cell that reads as a slice of bytes. -/
theorem bsl_cell17 {fuel : Nat} {c : Value} {x : DataW H × List MemPlace} (hf : DataW.trod enc Tryz.prog W base (fun _ => true) true fuel 24 [c] = some x) :
    ∃ l : List Int, BSl W (fun k => k < W.heap.size) c l := by
  rcases open_ints Tryz.underlying24 Tryz.underlying5 (by kernel_rfl) hf with ⟨hcs, _⟩ | ⟨x, len, cap, zs, hcs, _, hl, hm, hz, _, hcell, hwz⟩
  · simp only [List.cons.injEq, and_true] at hcs
    subst hcs
    exact ⟨[], BSl.nil _ _⟩
  · simp only [List.cons.injEq, and_true] at hcs
    subst hcs
    have hzl : zs.length = cap := by simpa using hz
    have hB : IsB zs := fun n hn => by
      have := bounds_u8 (hwz n hn)
      exact ⟨by omega, by omega⟩
    refine ⟨zs.take len, some x, cap, by rw [List.length_take]; congr 1; omega, by rw [List.length_take]; omega, hm, (fun h => by cases h), hB.take _, fun hp => ?_⟩
    rw [List.length_take] at hp
    obtain ⟨b, o, spot⟩ := x
    have h0 := hcell 0 (by omega)
    have hspot : spot = none := by simpa [Addr.add] using World.cell?_spot h0
    subst hspot
    have hadd : ∀ j, (⟨b, o, none⟩ : Addr).add j = ⟨b, o + j, none⟩ := fun j => by unfold Addr.add; split <;> simp_all
    have hbl := World.block_lt_of_cell? W _ h0
    refine ⟨b, o, rfl, by simpa [hadd] using hbl, by simpa [hadd] using hbl, fun j hj => ?_⟩
    rw [List.length_take] at hj
    rw [← hadd, hcell j (by omega)]
    simp [show j < len by omega]

theorem list7u {α : Type} {cs : List α} (h : cs.length = 7) : ∃ c0 c1 c2 c3 c4 c5 c6, cs = [c0, c1, c2, c3, c4, c5, c6] := by
  match cs, h with
  | [c0, c1, c2, c3, c4, c5, c6], _ => exact ⟨_, _, _, _, _, _, _, rfl⟩
theorem list5u {α : Type} {cs : List α} (h : cs.length = 5) : ∃ c0 c1 c2 c3 c4, cs = [c0, c1, c2, c3, c4] := by
  match cs, h with
  | [c0, c1, c2, c3, c4], _ => exact ⟨_, _, _, _, _, rfl⟩
theorem pick_all17 {α : Type} {m : Nat} {Q : Nat → α → Prop} (z : α) (h : ∀ j, j < m → ∃ x, Q j x) : ∃ f : Nat → α, ∀ j, j < m → Q j (f j) :=
  ⟨fun j => if hj : j < m then Classical.choose (h j hj) else z, fun j hj => by
    simp only [dif_pos hj]
    exact Classical.choose_spec (h j hj)⟩
set_option maxRecDepth 100000 in
theorem upd_cells {fuel : Nat} {c0 c1 c2 c3 c4 c5 c6 : Value} {x : DataW H × List MemPlace} (ht : DataW.trod enc Tryz.prog W base (fun _ => true) true fuel 84 [c0, c1, c2, c3, c4, c5, c6] = some x) :
    ∃ o : Up, c0 = .int .u64 o.q ∧ c1 = .int .i64 o.c ∧ c2 = .int .u64 o.n ∧ c3 = .int .i64 o.k ∧ c4 = .int .u32 o.key ∧ c5 = .int .u64 o.r ∧ BSl W (fun k => k < W.heap.size) c6 o.d ∧ FitU o := by
  obtain ⟨xs, n', _, _, _, hxl, hg⟩ := DataW.trod_struct Tryz.underlying84 ht
  have hxl7 : xs.length = 7 := hxl
  match xs, hxl7 with
  | [y0, y1, y2, y3, y4, y5, y6], _ =>
    have g0 : DataW.trod enc Tryz.prog W base (fun _ => true) true n' 23 [c0] = some y0 := hg 0 _ rfl
    have g1 : DataW.trod enc Tryz.prog W base (fun _ => true) true n' 3 [c1] = some y1 := hg 1 _ rfl
    have g2 : DataW.trod enc Tryz.prog W base (fun _ => true) true n' 23 [c2] = some y2 := hg 2 _ rfl
    have g3 : DataW.trod enc Tryz.prog W base (fun _ => true) true n' 3 [c3] = some y3 := hg 3 _ rfl
    have g4 : DataW.trod enc Tryz.prog W base (fun _ => true) true n' 22 [c4] = some y4 := hg 4 _ rfl
    have g5 : DataW.trod enc Tryz.prog W base (fun _ => true) true n' 23 [c5] = some y5 := hg 5 _ rfl
    have g6 : DataW.trod enc Tryz.prog W base (fun _ => true) true n' 24 [c6] = some y6 := hg 6 _ rfl
    obtain ⟨k0, e0, _, w0⟩ := DataW.trod_int Tryz.underlying23 g0
    obtain ⟨k1, e1, _, w1⟩ := DataW.trod_int Tryz.underlying3 g1
    obtain ⟨k2, e2, _, w2⟩ := DataW.trod_int Tryz.underlying23 g2
    obtain ⟨k3, e3, _, w3⟩ := DataW.trod_int Tryz.underlying3 g3
    obtain ⟨k4, e4, _, w4⟩ := DataW.trod_int Tryz.underlying22 g4
    obtain ⟨k5, e5, _, w5⟩ := DataW.trod_int Tryz.underlying23 g5
    obtain ⟨l, hl⟩ := bsl_cell17 g6
    simp only [List.cons.injEq, and_true] at e0 e1 e2 e3 e4 e5
    subst e0 e1 e2 e3 e4 e5
    have hk0 := bounds_u64 w0
    have hk2 := bounds_u64 w2
    have hk4 := bounds_u32 w4
    have hk5 := bounds_u64 w5
    exact ⟨⟨k0, k1, k2, k3, k4, k5, l⟩, rfl, rfl, rfl, rfl, rfl, rfl, hl, hk0.1, hk0.2, hk2.1, hk2.2, hk4.1, hk4.2, hk5.1, hk5.2⟩
set_option maxRecDepth 100000 in
/-- An update by value. -/
theorem upd_open {r : Reach} {v : Value} {d : DataW H} {p : List MemPlace} (hv : Value.okWide Tryz.prog W r b0 84 v)
    (h : DataW.Trod enc Tryz.prog W base (fun _ => true) true 84 v d p) : ∃ o : Up, UpV W (fun k => k < W.heap.size) v o ∧ FitU o := by
  obtain ⟨cs, rfl, hsz⟩ := okWide_struct Tryz.underlying84 hv
  have hC : Tryz.prog.cellsOf 84 = 7 := by kernel_rfl
  obtain ⟨l⟩ := cs
  obtain ⟨c0, c1, c2, c3, c4, c5, c6, rfl⟩ := list7u (cs := l) (hsz.trans hC)
  obtain ⟨fuel, hf⟩ := h
  obtain ⟨o, rfl, rfl, rfl, rfl, rfl, rfl, hb, hfit⟩ := upd_cells (by simpa [Value.cells] using hf)
  exact ⟨o, ⟨c6, rfl, hb⟩, hfit⟩
set_option maxRecDepth 100000 in
/-- A slice of updates. -/
theorem us_open {d : DataW H} {p : List MemPlace} {a : Option Addr} {len cap : Nat}
    (h : DataW.Trod enc Tryz.prog W base (fun _ => true) true 46 (.slice a len cap) d p) : ∃ l : List Up, UsAt W (fun k => k < W.heap.size) (.slice a len cap) l ∧ FitsU l := by
  obtain ⟨fuel, hf⟩ := h
  rcases open_slice Tryz.underlying46 hf with ⟨hcs, _⟩ | ⟨x, l, c, m, n, D, Pl, hcs, _, hl, hm, hmm, _, hi⟩
  · simp [Value.cells] at hcs
    obtain ⟨rfl, rfl, rfl⟩ := hcs
    exact ⟨[], UsAt.nil _ _, fun x h => by cases h⟩
  · simp [Value.cells] at hcs
    obtain ⟨rfl, rfl, rfl⟩ := hcs
    simp only [if_true] at hmm
    subst hmm
    have hC : Tryz.prog.cellsOf 84 = 7 := by kernel_rfl
    rw [hC] at hi
    have key : ∀ j, j < m → ∃ it : Up, W.cell? (x.add (j * 7)) = some (.int .u64 it.q) ∧ W.cell? ((x.add (j * 7)).add 1) = some (.int .i64 it.c) ∧ W.cell? ((x.add (j * 7)).add 2) = some (.int .u64 it.n) ∧ W.cell? ((x.add (j * 7)).add 3) = some (.int .i64 it.k) ∧ W.cell? ((x.add (j * 7)).add 4) = some (.int .u32 it.key) ∧ W.cell? ((x.add (j * 7)).add 5) = some (.int .u64 it.r) ∧
        (∃ u, W.cell? ((x.add (j * 7)).add 6) = some u ∧ BSl W (fun k => k < W.heap.size) u it.d) ∧ FitU it := by
      intro j hj
      obtain ⟨cs', hc, ht⟩ := hi j hj
      obtain ⟨_, hlen, hat⟩ := World.cells?_some hc
      obtain ⟨c0, c1, c2, c3, c4, c5, c6, rfl⟩ := list7u hlen
      obtain ⟨o, rfl, rfl, rfl, rfl, rfl, rfl, hb, hfit⟩ := upd_cells ht
      have a0 : ∀ y : Addr, y.add 0 = y := fun y => by unfold Addr.add; split <;> simp_all
      have h0 := hat 0 (by omega)
      rw [a0] at h0
      exact ⟨o, h0, hat 1 (by omega), hat 2 (by omega), hat 3 (by omega), hat 4 (by omega), hat 5 (by omega), ⟨c6, hat 6 (by omega), hb⟩, hfit⟩
    obtain ⟨it, hit⟩ := pick_all17 up0 key
    have hll : ((List.range len).map it).length = len := by simp
    have hnth : ∀ j, j < len → nthU ((List.range len).map it) j = it j := fun j hj => by rw [nthU_at (by rw [hll]; exact hj)]; simp
    refine ⟨(List.range len).map it, ⟨some x, m, by rw [hll], by rw [hll]; exact hl, hm, (fun h => by cases h), fun hp => ?_⟩, fun y hy => ?_⟩
    · rw [hll] at hp
      obtain ⟨h0, _⟩ := hit 0 (by omega)
      obtain ⟨b, o, spot⟩ := x
      have hspot : spot = none := by simpa [Addr.add] using World.cell?_spot h0
      subst hspot
      have hb := World.block_lt_of_cell? W _ h0
      rw [addr_add17] at hb
      refine ⟨b, o, rfl, hb, hb, fun j hj => ?_⟩
      rw [hll] at hj
      obtain ⟨e0, e1, e2, e3, e4, e5, ⟨u, e6, hd⟩, hf⟩ := hit j (by omega)
      simp only [addr_add17] at e0 e1 e2 e3 e4 e5 e6
      rw [hnth j hj]
      exact ⟨u, e0, e1, e2, e3, e4, e5, e6, hd⟩
    · obtain ⟨j, hj, rfl⟩ := List.mem_map.1 hy
      rw [List.mem_range] at hj
      exact (hit j (by omega)).2.2.2.2.2.2.2
end
end Go.Proofs.YtclfecninhipnaaGreatDoor
