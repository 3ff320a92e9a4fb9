/-
  A letter that came in, opened.
-/
import Derived.Test.YtcbenminaakahaaGreatDoorUpd1
import Derived.Test.YtcbenminaakahaaGreatDoorRol1
import Derived.Test.YtcbenminaakahaaGreatDoorLckM
namespace Go.Proofs.YtcbenminaakahaaGreatDoor
open Go.ChangeShapes Go.WideShapes Go.ChangeAt Go.RowKit Go.Deep
set_option linter.unusedVariables false

section
variable {H : Type} {enc : TypeId × Value → H} {W : World} {base b0 : Nat}
set_option maxRecDepth 100000 in
theorem vt_cells10 {fuel : Nat} {c0 c1 c2 c3 c4 c5 : Value} {x : DataW H × List MemPlace} (ht : DataW.trod enc Tryz.prog W base (fun _ => true) true fuel 113 [c0, c1, c2, c3, c4, c5] = some x) :
    ∃ o : Vt, c0 = .int .i64 o.s ∧ c1 = .int .u64 o.b ∧ c2 = .int .i64 o.k ∧ c3 = .int .i64 o.ch ∧ c4 = .int .u64 o.ep ∧ c5 = .int .i64 o.nd ∧ VtNm o := by
  obtain ⟨xs, n', _, _, _, hxl, hg⟩ := DataW.trod_struct Tryz.underlying113 ht
  have hxl3 : xs.length = 3 := hxl
  match xs, hxl3 with
  | [y0, y1, y2], _ =>
    have g0 : DataW.trod enc Tryz.prog W base (fun _ => true) true n' 3 [c0] = some y0 := hg 0 _ rfl
    have g1 : DataW.trod enc Tryz.prog W base (fun _ => true) true n' 22 [c1] = some y1 := hg 1 _ rfl
    have g2 : DataW.trod enc Tryz.prog W base (fun _ => true) true n' 26 [c2, c3, c4, c5] = some y2 := hg 2 _ rfl
    obtain ⟨ys, m', _, _, _, hyl, hh⟩ := DataW.trod_struct Tryz.underlying26 g2
    have hyl4 : ys.length = 4 := hyl
    match ys, hyl4 with
    | [z0, z1, z2, z3], _ =>
      have q0 : DataW.trod enc Tryz.prog W base (fun _ => true) true m' 3 [c2] = some z0 := hh 0 _ rfl
      have q1 : DataW.trod enc Tryz.prog W base (fun _ => true) true m' 3 [c3] = some z1 := hh 1 _ rfl
      have q2 : DataW.trod enc Tryz.prog W base (fun _ => true) true m' 22 [c4] = some z2 := hh 2 _ rfl
      have q3 : DataW.trod enc Tryz.prog W base (fun _ => true) true m' 3 [c5] = some z3 := hh 3 _ rfl
      obtain ⟨k0, e0, _, w0⟩ := DataW.trod_int Tryz.underlying3 g0
      obtain ⟨k1, e1, _, w1⟩ := DataW.trod_int Tryz.underlying22 g1
      obtain ⟨k2, e2, _, w2⟩ := DataW.trod_int Tryz.underlying3 q0
      obtain ⟨k3, e3, _, w3⟩ := DataW.trod_int Tryz.underlying3 q1
      obtain ⟨k4, e4, _, w4⟩ := DataW.trod_int Tryz.underlying22 q2
      obtain ⟨k5, e5, _, w5⟩ := DataW.trod_int Tryz.underlying3 q3
      simp only [List.cons.injEq, and_true] at e0 e1 e2 e3 e4 e5
      subst e0 e1 e2 e3 e4 e5
      have h1 := bounds_u64 w1
      have h4 := bounds_u64 w4
      exact ⟨⟨k0, k1, k2, k3, k4, k5⟩, rfl, rfl, rfl, rfl, rfl, rfl, h1.1, h1.2, h4.1⟩
theorem list6w {α : Type} {cs : List α} (h : cs.length = 6) : ∃ c0 c1 c2 c3 c4 c5, cs = [c0, c1, c2, c3, c4, c5] := by
  match cs, h with
  | [c0, c1, c2, c3, c4, c5], _ => exact ⟨_, _, _, _, _, _, rfl⟩
/-- One cell that reads as a slice of votes. -/
theorem vts_cell10 {fuel : Nat} {c : Value} {x : DataW H × List MemPlace} (hf : DataW.trod enc Tryz.prog W base (fun _ => true) true fuel 30 [c] = some x) :
    ∃ l : List Vt, VRd W (fun k => k < W.heap.size) c l ∧ ∀ v ∈ l, VtNm v := by
  rcases open_slice Tryz.underlying30 hf with ⟨hcs, _⟩ | ⟨x, len, c, m, n, D, Pl, hcs, _, hl, hm, hmm, _, hi⟩
  · simp only [List.cons.injEq, and_true] at hcs
    subst hcs
    exact ⟨[], VRd.nil _ _, fun x h => by cases h⟩
  · simp only [List.cons.injEq, and_true] at hcs
    subst hcs
    simp only [if_true] at hmm
    subst hmm
    have hC : Tryz.prog.cellsOf 113 = 6 := by kernel_rfl
    rw [hC] at hi
    have key : ∀ j, j < m → ∃ it : Vt, W.cell? (x.add (j * 6)) = some (.int .i64 it.s) ∧ W.cell? ((x.add (j * 6)).add 1) = some (.int .u64 it.b) ∧ W.cell? ((x.add (j * 6)).add 2) = some (.int .i64 it.k) ∧ W.cell? ((x.add (j * 6)).add 3) = some (.int .i64 it.ch) ∧ W.cell? ((x.add (j * 6)).add 4) = some (.int .u64 it.ep) ∧ W.cell? ((x.add (j * 6)).add 5) = some (.int .i64 it.nd) ∧ VtNm it := by
      intro j hj
      obtain ⟨cs', hc, ht⟩ := hi j hj
      obtain ⟨_, hlen, hat⟩ := World.cells?_some hc
      obtain ⟨c0, c1, c2, c3, c4, c5, rfl⟩ := list6w hlen
      obtain ⟨o, rfl, rfl, rfl, rfl, rfl, rfl, hfit⟩ := vt_cells10 ht
      have a0 : ∀ y : Addr, y.add 0 = y := fun y => by unfold Addr.add; split <;> simp_all
      have h0 := hat 0 (by omega)
      rw [a0] at h0
      exact ⟨o, h0, hat 1 (by omega), hat 2 (by omega), hat 3 (by omega), hat 4 (by omega), hat 5 (by omega), hfit⟩
    obtain ⟨it, hit⟩ := pick_all17 vt0 key
    have hll : ((List.range len).map it).length = len := by simp
    refine ⟨(List.range len).map it, ⟨some x, m, by rw [hll], by rw [hll]; exact hl, hm, (fun h => by cases h), fun hp => ?_⟩, fun y hy => ?_⟩
    · rw [hll] at hp
      obtain ⟨h0, _⟩ := hit 0 (by omega)
      obtain ⟨b, o, spot⟩ := x
      have hspot : spot = none := by simpa [Addr.add] using World.cell?_spot h0
      subst hspot
      have hb := World.block_lt_of_cell? W _ h0
      rw [addr_add17] at hb
      refine ⟨b, o, rfl, hb, hb, fun j hj => ?_⟩
      rw [hll] at hj
      obtain ⟨e0, e1, e2, e3, e4, e5, hf⟩ := hit j (by omega)
      simp only [addr_add17] at e0 e1 e2 e3 e4 e5
      rw [List.getElem_map, List.getElem_range]
      exact ⟨e0, e1, e2, e3, e4, e5⟩
    · obtain ⟨j, hj, rfl⟩ := List.mem_map.1 hy
      rw [List.mem_range] at hj
      exact (hit j (by omega)).2.2.2.2.2.2
/-- One cell that reads as a slice of updates. -/
theorem us_cell10 {fuel : Nat} {c : Value} {x : DataW H × List MemPlace} (hf : DataW.trod enc Tryz.prog W base (fun _ => true) true fuel 31 [c] = some x) :
    ∃ l : List Up, UsAt W (fun k => k < W.heap.size) c l := by
  have h1 : ∃ a len cap, c = .slice a len cap := by
    rcases open_slice Tryz.underlying31 hf with ⟨hcs, _⟩ | ⟨x, l, c, m, n, D, Pl, hcs, _⟩
    · simp only [List.cons.injEq, and_true] at hcs
      exact ⟨_, _, _, hcs⟩
    · simp only [List.cons.injEq, and_true] at hcs
      exact ⟨_, _, _, hcs⟩
  obtain ⟨a, len, cap, rfl⟩ := h1
  obtain ⟨d, p⟩ := x
  obtain ⟨l, hl, _⟩ := us_open (enc := enc) (W := W) (base := base) (d := d) (p := p) ⟨fuel, by simpa [Value.cells] using hf⟩
  exact ⟨l, hl⟩
/-- A letter by value. -/
def LtV (w : World) (v : Value) (y : LV × LC) : Prop := v = .agg (lcs y.1) ∧ LtM w (fun k => k < w.heap.size) y.1 y.2
theorem array25 {α : Type} {cs : Array α} (h : cs.size = 25) : ∃ c0 c1 c2 c3 c4 c5 c6 c7 c8 c9 c10 c11 c12 c13 c14 c15 c16 c17 c18 c19 c20 c21 c22 c23 c24, cs = #[c0, c1, c2, c3, c4, c5, c6, c7, c8, c9, c10, c11, c12, c13, c14, c15, c16, c17, c18, c19, c20, c21, c22, c23, c24] := by
  obtain ⟨l⟩ := cs
  match l, h with
  | [c0, c1, c2, c3, c4, c5, c6, c7, c8, c9, c10, c11, c12, c13, c14, c15, c16, c17, c18, c19, c20, c21, c22, c23, c24], _ => exact ⟨c0, c1, c2, c3, c4, c5, c6, c7, c8, c9, c10, c11, c12, c13, c14, c15, c16, c17, c18, c19, c20, c21, c22, c23, c24, rfl⟩
set_option maxRecDepth 100000 in
set_option maxHeartbeats 2000000 in
theorem lt_open {r : Reach} {v : Value} {d : DataW H} {p : List MemPlace} (hv : Value.okWide Tryz.prog W r b0 34 v)
    (h : DataW.Trod enc Tryz.prog W base (fun _ => true) true 34 v d p) : ∃ y : LV × LC, LtV W v y := by
  obtain ⟨cs, rfl, hsz⟩ := okWide_struct Tryz.underlying34 hv
  have hC : Tryz.prog.cellsOf 34 = 25 := by kernel_rfl
  obtain ⟨c0, c1, c2, c3, c4, c5, c6, c7, c8, c9, c10, c11, c12, c13, c14, c15, c16, c17, c18, c19, c20, c21, c22, c23, c24, rfl⟩ := array25 (hsz.trans hC)
  obtain ⟨fuel, hf⟩ := h
  obtain ⟨xs, n', _, _, _, hxl, hg⟩ := DataW.trod_struct Tryz.underlying34 (by simpa [Value.cells] using hf)
  have hxl18 : xs.length = 18 := hxl
  match xs, hxl18 with
  | [y0, y1, y2, y3, y4, y5, y6, y7, y8, y9, y10, y11, y12, y13, y14, y15, y16, y17], _ =>
    have g0 : DataW.trod enc Tryz.prog W base (fun _ => true) true n' 3 [c0] = some y0 := hg 0 _ rfl
    have g1 : DataW.trod enc Tryz.prog W base (fun _ => true) true n' 3 [c1] = some y1 := hg 1 _ rfl
    have g2 : DataW.trod enc Tryz.prog W base (fun _ => true) true n' 3 [c2] = some y2 := hg 2 _ rfl
    have g3 : DataW.trod enc Tryz.prog W base (fun _ => true) true n' 3 [c3] = some y3 := hg 3 _ rfl
    have g4 : DataW.trod enc Tryz.prog W base (fun _ => true) true n' 22 [c4] = some y4 := hg 4 _ rfl
    have g5 : DataW.trod enc Tryz.prog W base (fun _ => true) true n' 22 [c5] = some y5 := hg 5 _ rfl
    have g6 : DataW.trod enc Tryz.prog W base (fun _ => true) true n' 22 [c6] = some y6 := hg 6 _ rfl
    have g7 : DataW.trod enc Tryz.prog W base (fun _ => true) true n' 22 [c7] = some y7 := hg 7 _ rfl
    have g8 : DataW.trod enc Tryz.prog W base (fun _ => true) true n' 22 [c8] = some y8 := hg 8 _ rfl
    have g9 : DataW.trod enc Tryz.prog W base (fun _ => true) true n' 22 [c9] = some y9 := hg 9 _ rfl
    have g10 : DataW.trod enc Tryz.prog W base (fun _ => true) true n' 3 [c10] = some y10 := hg 10 _ rfl
    have g11 : DataW.trod enc Tryz.prog W base (fun _ => true) true n' 23 [c11] = some y11 := hg 11 _ rfl
    have g12 : DataW.trod enc Tryz.prog W base (fun _ => true) true n' 24 [c12] = some y12 := hg 12 _ rfl
    have g13 : DataW.trod enc Tryz.prog W base (fun _ => true) true n' 26 [c13, c14, c15, c16] = some y13 := hg 13 _ rfl
    have g14 : DataW.trod enc Tryz.prog W base (fun _ => true) true n' 29 [c17, c18, c19, c20, c21] = some y14 := hg 14 _ rfl
    have g15 : DataW.trod enc Tryz.prog W base (fun _ => true) true n' 30 [c22] = some y15 := hg 15 _ rfl
    have g16 : DataW.trod enc Tryz.prog W base (fun _ => true) true n' 31 [c23] = some y16 := hg 16 _ rfl
    have g17 : DataW.trod enc Tryz.prog W base (fun _ => true) true n' 32 [c24] = some y17 := hg 17 _ rfl
    obtain ⟨k0, e0, _, w0⟩ := DataW.trod_int Tryz.underlying3 g0
    obtain ⟨k1, e1, _, w1⟩ := DataW.trod_int Tryz.underlying3 g1
    obtain ⟨k2, e2, _, w2⟩ := DataW.trod_int Tryz.underlying3 g2
    obtain ⟨k3, e3, _, w3⟩ := DataW.trod_int Tryz.underlying3 g3
    obtain ⟨k4, e4, _, w4⟩ := DataW.trod_int Tryz.underlying22 g4
    obtain ⟨k5, e5, _, w5⟩ := DataW.trod_int Tryz.underlying22 g5
    obtain ⟨k6, e6, _, w6⟩ := DataW.trod_int Tryz.underlying22 g6
    obtain ⟨k7, e7, _, w7⟩ := DataW.trod_int Tryz.underlying22 g7
    obtain ⟨k8, e8, _, w8⟩ := DataW.trod_int Tryz.underlying22 g8
    obtain ⟨k9, e9, _, w9⟩ := DataW.trod_int Tryz.underlying22 g9
    obtain ⟨k10, e10, _, w10⟩ := DataW.trod_int Tryz.underlying3 g10
    obtain ⟨k11, e11, _, w11⟩ := DataW.trod_int Tryz.underlying23 g11
    obtain ⟨k12, e12, _, w12⟩ := DataW.trod_int Tryz.underlying24 g12
    obtain ⟨zs, m', _, _, _, hzl, hh⟩ := DataW.trod_struct Tryz.underlying26 g13
    have hzl4 : zs.length = 4 := hzl
    match zs, hzl4 with
    | [z0, z1, z2, z3], _ =>
      have q0 : DataW.trod enc Tryz.prog W base (fun _ => true) true m' 3 [c13] = some z0 := hh 0 _ rfl
      have q1 : DataW.trod enc Tryz.prog W base (fun _ => true) true m' 3 [c14] = some z1 := hh 1 _ rfl
      have q2 : DataW.trod enc Tryz.prog W base (fun _ => true) true m' 22 [c15] = some z2 := hh 2 _ rfl
      have q3 : DataW.trod enc Tryz.prog W base (fun _ => true) true m' 3 [c16] = some z3 := hh 3 _ rfl
      obtain ⟨r0, f0, _, _⟩ := DataW.trod_int Tryz.underlying3 q0
      obtain ⟨r1, f1, _, _⟩ := DataW.trod_int Tryz.underlying3 q1
      obtain ⟨r2, f2, _, v2⟩ := DataW.trod_int Tryz.underlying22 q2
      obtain ⟨r3, f3, _, _⟩ := DataW.trod_int Tryz.underlying3 q3
      obtain ⟨cf, rfl, rfl, hns, rfl, rfl, hp0, hp1⟩ := cf_cells g14
      obtain ⟨vs, hvs, hvn⟩ := vts_cell10 g15
      obtain ⟨us, hus⟩ := us_cell10 g16
      obtain ⟨ds, hds⟩ := bsl_cell17 g17
      simp only [List.cons.injEq, and_true] at e0 e1 e2 e3 e4 e5 e6 e7 e8 e9 e10 e11 e12 f0 f1 f2 f3
      subst e0 e1 e2 e3 e4 e5 e6 e7 e8 e9 e10 e11 e12 f0 f1 f2 f3
      have hb := bounds_u64 w5
      exact ⟨(⟨k0, k1, k2, k3, k4, k5, k6, k7, k8, k9, k10, k11, k12, r0, r1, r2, r3, cf.ch, cf.ep, c19, cf.fr, cf.jn, c22, c23, c24⟩, ⟨cf.ns, vs, us, ds⟩), rfl, hns.mono (fun k hk _ => hk), hvs, hus, hds, hvn, hb.1, hb.2, (bounds_u64 v2).1, hp0, hp1⟩
/-- A letter's slices are slices. -/
theorem LtM.forms {w : World} {K : Nat → Prop} {x : LV} {c : LC} (h : LtM w K x c) : ∃ ga gm gcp va vm vcp ua um ucp dda dm dcp, x.gn = .slice ga gm gcp ∧ x.vo = .slice va vm vcp ∧ x.up = .slice ua um ucp ∧ x.da = .slice dda dm dcp := by
  obtain ⟨ga, gcp, e1, _⟩ := h.ns
  obtain ⟨va, vcp, e2⟩ := h.vs.form
  obtain ⟨ua, ucp, e3⟩ := h.us.form
  obtain ⟨dda, dcp, e4, _⟩ := h.ds
  exact ⟨_, _, _, _, _, _, _, _, _, _, _, _, e1, e2, e3, e4⟩
end
end Go.Proofs.YtcbenminaakahaaGreatDoor
