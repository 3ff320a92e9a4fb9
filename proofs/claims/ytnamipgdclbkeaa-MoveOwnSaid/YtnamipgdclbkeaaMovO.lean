/-
  Bytes and a slice of parts that came in: opened.
-/
import Derived.Test.YtnamipgdclbkeaaFrameP
import Derived.Test.YtnamipgdclbkeaaBytes
import Derived.Lib.SmallJoins
namespace Go.Proofs.Ytnamipgdclbkeaa
open Go.ChangeShapes Go.WideShapes Go.ChangeAt Go.RowKit Go.Deep
set_option linter.unusedVariables false

/-- A part that came in. -/
structure Pt21 where
  q : Int
  i : Int
  n : Int
  b : List Int
def pt0 : Pt21 := ⟨0, 0, 0, []⟩
/-- A slice of parts, in memory. -/
def PtsAt (w : World) (v : Value) (n : Nat) (it : Nat → Pt21) : Prop :=
  ∃ a cap, v = .slice a n cap ∧ n ≤ 9223372036854775807 ∧ (0 < n → ∃ b o, a = some ⟨b, o, none⟩ ∧ b < w.heap.size ∧ ∀ j, j < n →
    w.cell? ⟨b, o + j * 4, none⟩ = some (.int .u64 (it j).q) ∧ w.cell? ⟨b, o + j * 4 + 1, none⟩ = some (.int .i64 (it j).i) ∧ w.cell? ⟨b, o + j * 4 + 2, none⟩ = some (.int .i64 (it j).n) ∧
      (∃ u, w.cell? ⟨b, o + j * 4 + 3, none⟩ = some u ∧ BSl w (fun k => k < w.heap.size) u (it j).b) ∧ 0 ≤ (it j).q ∧ (it j).q < 18446744073709551616)
section
variable {H : Type} {enc : TypeId × Value → H} {W : World} {base b0 : Nat}
/-- One cell that reads as a slice of bytes. -/
theorem bsl_cell21 {fuel : Nat} {c : Value} {x : DataW H × List MemPlace} (hf : DataW.trod enc Try.prog W base (fun _ => true) true fuel 23 [c] = some x) :
    ∃ l : List Int, BSl W (fun k => k < W.heap.size) c l := by
  rcases open_ints Try.underlying23 Try.underlying5 (by kernel_rfl) hf with ⟨hcs, _⟩ | ⟨x, len, cap, zs, hcs, _, hl, hm, hz, _, hcell, hwz⟩
  · simp only [List.cons.injEq, and_true] at hcs
    subst hcs
    exact ⟨[], BSl.nil _ _⟩
  · simp only [List.cons.injEq, and_true] at hcs
    subst hcs
    have hzl : zs.length = cap := by simpa using hz
    have hB : IsB zs := fun n hn => by
      have := bounds_u8 (hwz n hn)
      exact ⟨by omega, by omega⟩
    refine ⟨zs.take len, some x, cap, by rw [List.length_take]; congr 1; omega, by rw [List.length_take]; omega, hm, (fun h => by cases h), hB.take _, fun hp => ?_⟩
    rw [List.length_take] at hp
    obtain ⟨b, o, spot⟩ := x
    have h0 := hcell 0 (by omega)
    have hspot : spot = none := by simpa [Addr.add] using World.cell?_spot h0
    subst hspot
    have hadd : ∀ j, (⟨b, o, none⟩ : Addr).add j = ⟨b, o + j, none⟩ := fun j => by unfold Addr.add; split <;> simp_all
    have hbl := World.block_lt_of_cell? W _ h0
    refine ⟨b, o, rfl, by simpa [hadd] using hbl, by simpa [hadd] using hbl, fun j hj => ?_⟩
    rw [List.length_take] at hj
    rw [← hadd, hcell j (by omega)]
    simp [show j < len by omega]
theorem bsl_open21 {d : DataW H} {p : List MemPlace} {a : Option Addr} {len cap : Nat}
    (h : DataW.Trod enc Try.prog W base (fun _ => true) true 23 (.slice a len cap) d p) : ∃ l : List Int, BSl W (fun k => k < W.heap.size) (.slice a len cap) l := by
  obtain ⟨fuel, hf⟩ := h
  exact bsl_cell21 (by simpa [Value.cells] using hf)
theorem list4p {α : Type} {cs : List α} (h : cs.length = 4) : ∃ c0 c1 c2 c3, cs = [c0, c1, c2, c3] := by
  match cs, h with
  | [c0, c1, c2, c3], _ => exact ⟨c0, c1, c2, c3, rfl⟩
set_option maxRecDepth 100000 in
theorem pt_cells {fuel : Nat} {c0 c1 c2 c3 : Value} {x : DataW H × List MemPlace} (ht : DataW.trod enc Try.prog W base (fun _ => true) true fuel 42 [c0, c1, c2, c3] = some x) :
    ∃ o : Pt21, c0 = .int .u64 o.q ∧ c1 = .int .i64 o.i ∧ c2 = .int .i64 o.n ∧ BSl W (fun k => k < W.heap.size) c3 o.b ∧ 0 ≤ o.q ∧ o.q < 18446744073709551616 := by
  obtain ⟨xs, n', _, _, _, hxl, hg⟩ := DataW.trod_struct Try.underlying42 ht
  have hxl3 : xs.length = 4 := hxl
  match xs, hxl3 with
  | [y0, y1, y2, y3], _ =>
    have g0 : DataW.trod enc Try.prog W base (fun _ => true) true n' 22 [c0] = some y0 := hg 0 _ rfl
    have g1 : DataW.trod enc Try.prog W base (fun _ => true) true n' 3 [c1] = some y1 := hg 1 _ rfl
    have g2 : DataW.trod enc Try.prog W base (fun _ => true) true n' 3 [c2] = some y2 := hg 2 _ rfl
    have g3 : DataW.trod enc Try.prog W base (fun _ => true) true n' 23 [c3] = some y3 := hg 3 _ rfl
    obtain ⟨k0, e0, _, w0⟩ := DataW.trod_int Try.underlying22 g0
    obtain ⟨k1, e1, _, w1⟩ := DataW.trod_int Try.underlying3 g1
    obtain ⟨k2, e2, _, w2⟩ := DataW.trod_int Try.underlying3 g2
    obtain ⟨l, hl⟩ := bsl_cell21 g3
    simp only [List.cons.injEq, and_true] at e0 e1 e2
    subst e0 e1 e2
    have hk0 := bounds_u64 w0
    exact ⟨⟨k0, k1, k2, l⟩, rfl, rfl, rfl, hl, hk0.1, by show k0 < _; omega⟩
theorem pick_all21 {α : Type} {m : Nat} {Q : Nat → α → Prop} (z : α) (h : ∀ j, j < m → ∃ x, Q j x) : ∃ f : Nat → α, ∀ j, j < m → Q j (f j) :=
  ⟨fun j => if hj : j < m then Classical.choose (h j hj) else z, fun j hj => by
    simp only [dif_pos hj]
    exact Classical.choose_spec (h j hj)⟩
set_option maxRecDepth 100000 in
theorem pts_open {d : DataW H} {p : List MemPlace} {a : Option Addr} {len cap : Nat}
    (h : DataW.Trod enc Try.prog W base (fun _ => true) true 35 (.slice a len cap) d p) : ∃ it : Nat → Pt21, PtsAt W (.slice a len cap) len it := by
  obtain ⟨fuel, hf⟩ := h
  rcases open_slice Try.underlying35 hf with ⟨hcs, _⟩ | ⟨x, l, c, m, n, D, Pl, hcs, _, hl, hm, hmm, _, hi⟩
  · simp [Value.cells] at hcs
    obtain ⟨rfl, rfl, rfl⟩ := hcs
    exact ⟨fun _ => pt0, none, 0, rfl, Nat.zero_le _, fun h => absurd h (by omega)⟩
  · simp [Value.cells] at hcs
    obtain ⟨rfl, rfl, rfl⟩ := hcs
    simp only [if_true] at hmm
    subst hmm
    have hC : Try.prog.cellsOf 42 = 4 := by kernel_rfl
    rw [hC] at hi
    unfold maxLen at hm
    have key : ∀ j, j < m → ∃ it : Pt21, W.cell? (x.add (j * 4)) = some (.int .u64 it.q) ∧ W.cell? ((x.add (j * 4)).add 1) = some (.int .i64 it.i) ∧ W.cell? ((x.add (j * 4)).add 2) = some (.int .i64 it.n) ∧
        (∃ u, W.cell? ((x.add (j * 4)).add 3) = some u ∧ BSl W (fun k => k < W.heap.size) u it.b) ∧ 0 ≤ it.q ∧ it.q < 18446744073709551616 := by
      intro j hj
      obtain ⟨cs', hc, ht⟩ := hi j hj
      obtain ⟨_, hlen, hat⟩ := World.cells?_some hc
      obtain ⟨c0, c1, c2, c3, rfl⟩ := list4p hlen
      obtain ⟨o, rfl, rfl, rfl, hb, hfit⟩ := pt_cells ht
      have a0 : ∀ y : Addr, y.add 0 = y := fun y => by unfold Addr.add; split <;> simp_all
      have h0 := hat 0 (by omega)
      rw [a0] at h0
      exact ⟨o, h0, hat 1 (by omega), hat 2 (by omega), ⟨c3, hat 3 (by omega), hb⟩, hfit⟩
    obtain ⟨it, hit⟩ := pick_all21 pt0 key
    refine ⟨it, some x, m, rfl, by omega, fun hp => ?_⟩
    obtain ⟨h0, _⟩ := hit 0 (by omega)
    obtain ⟨b, o, spot⟩ := x
    have hspot : spot = none := by simpa [Addr.add] using World.cell?_spot h0
    subst hspot
    have hb := World.block_lt_of_cell? W _ h0
    have addr : ∀ b o j : Nat, (⟨b, o, none⟩ : Addr).add j = ⟨b, o + j, none⟩ := fun b o j => by unfold Addr.add; split <;> simp_all
    rw [addr] at hb
    refine ⟨b, o, rfl, hb, fun j hj => ?_⟩
    obtain ⟨e0, e1, e2, ⟨u, e3, hd⟩, hf⟩ := hit j (by omega)
    simp only [addr] at e0 e1 e2 e3
    exact ⟨e0, e1, e2, ⟨u, e3, hd⟩, hf⟩
end
end Go.Proofs.Ytnamipgdclbkeaa
