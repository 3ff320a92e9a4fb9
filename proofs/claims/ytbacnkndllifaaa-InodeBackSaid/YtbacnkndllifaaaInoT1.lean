/-
  An inode that came in: opened. InodeBack, of an inode that came in.
-/
import Derived.Test.YtbacnkndllifaaaFrameP
import Derived.Test.YtbacnkndllifaaaInoQ1
import Derived.Test.YtbacnkndllifaaaBitO
import Derived.Deep.SlicePairs
import Derived.Lib.SmallJoins
namespace Go.Proofs.Ytbacnkndllifaaa
open Go.ChangeShapes Go.WideShapes Go.ChangeAt Go.RowKit Go.Deep
set_option linter.unusedVariables false

theorem pick28 {α : Type} {m : Nat} {Q : Nat → α → Prop} (z : α) (h : ∀ j, j < m → ∃ x, Q j x) : ∃ f : Nat → α, ∀ j, j < m → Q j (f j) :=
  ⟨fun j => if hj : j < m then Classical.choose (h j hj) else z, fun j hj => by
    simp only [dif_pos hj]
    exact Classical.choose_spec (h j hj)⟩
theorem list3v28 {α : Type} {cs : List α} (h : cs.length = 3) : ∃ c0 c1 c2, cs = [c0, c1, c2] := by
  match cs, h with
  | [c0, c1, c2], _ => exact ⟨c0, c1, c2, rfl⟩
section
variable {H : Type} {enc : TypeId × Value → H} {W : World} {base b0 : Nat}
set_option maxRecDepth 100000 in
/-- One cell that reads as a slice of extents. -/
theorem xsl_cell28 {fuel : Nat} {c : Value} {x : DataW H × List MemPlace} (hf : DataW.trod enc Try.prog W base (fun _ => true) true fuel 41 [c] = some x) :
    ∃ l : List Xt, XSl W (fun k => k < W.heap.size) c l := by
  rcases open_slice_pairs Try.underlying41 Try.underlying80 (by kernel_rfl) rfl rfl (by kernel_rfl) (by kernel_rfl) hf with ⟨hcs, _⟩ | ⟨x, len, cap, m, n, V0, V1, D0, D1, P0, P1, hcs, _, hl, hm, hmm, _, hcell⟩
  · simp only [List.cons.injEq, and_true] at hcs
    subst hcs
    exact ⟨[], XSl.nil _ _⟩
  · simp only [List.cons.injEq, and_true] at hcs
    subst hcs
    simp only [if_true] at hmm
    subst hmm
    obtain ⟨f, hf2⟩ := pick28 (α := Xt) (m := m) (Q := fun j p => V0 j = .int .i64 p.1 ∧ V1 j = .int .i64 p.2) (0, 0) (fun j hj => by
      obtain ⟨_, _, g0, g1⟩ := hcell j hj
      obtain ⟨k0, e0, _, _⟩ := DataW.trod_int Try.underlying3 g0
      obtain ⟨k1, e1, _, _⟩ := DataW.trod_int Try.underlying3 g1
      simp only [List.cons.injEq, and_true] at e0 e1
      exact ⟨(k0, k1), e0, e1⟩)
    have hll : ((List.range len).map f).length = len := by simp
    refine ⟨(List.range len).map f, some x, m, by rw [hll], by rw [hll]; exact hl, hm, (fun h => by cases h), fun hp => ?_⟩
    rw [hll] at hp
    obtain ⟨b, o, spot⟩ := x
    have h0 := (hcell 0 (by omega)).1
    have hspot : spot = none := by simpa [Addr.add] using World.cell?_spot h0
    subst hspot
    have hadd : ∀ j, (⟨b, o, none⟩ : Addr).add j = ⟨b, o + j, none⟩ := fun j => by unfold Addr.add; split <;> simp_all
    have hbl := World.block_lt_of_cell? W _ h0
    refine ⟨b, o, rfl, by simpa [hadd] using hbl, by simpa [hadd] using hbl, fun j hj => ?_⟩
    rw [hll] at hj
    obtain ⟨e0, e1, _, _⟩ := hcell j (by omega)
    obtain ⟨q0, q1⟩ := hf2 j (by omega)
    rw [hadd, q0] at e0
    rw [hadd, q1] at e1
    rw [xth_eq (by rw [hll]; exact hj)]
    simp only [List.getElem_map, List.getElem_range]
    exact ⟨e0, e1⟩
/-- The value is an inode. -/
def InoV (w : World) (v : Value) (o : Int × Int × List Xt) : Prop := ∃ u, v = iv28 o.1 o.2.1 u ∧ XSl w (fun k => k < w.heap.size) u o.2.2 ∧ (-9223372036854775808 ≤ o.1 ∧ o.1 ≤ 9223372036854775807) ∧ -9223372036854775808 ≤ o.2.1 ∧ o.2.1 ≤ 9223372036854775807
set_option maxRecDepth 100000 in
/-- An inode by value. -/
theorem ino_open {r : Reach} {v : Value} {d : DataW H} {p : List MemPlace} (hv : Value.okWide Try.prog W r b0 43 v)
    (h : DataW.Trod enc Try.prog W base (fun _ => true) true 43 v d p) : ∃ o : Int × Int × List Xt, InoV W v o := by
  obtain ⟨cs, rfl, hsz⟩ := okWide_struct Try.underlying43 hv
  have hC : Try.prog.cellsOf 43 = 3 := by kernel_rfl
  obtain ⟨l⟩ := cs
  obtain ⟨c0, c1, c2, rfl⟩ := list3v28 (cs := l) (hsz.trans hC)
  obtain ⟨fuel, hf⟩ := h
  obtain ⟨xs, n', _, _, _, hxl, hg⟩ := DataW.trod_struct Try.underlying43 (by simpa [Value.cells] using hf)
  have hxl3 : xs.length = 3 := hxl
  match xs, hxl3 with
  | [y0, y1, y2], _ =>
    have g0 : DataW.trod enc Try.prog W base (fun _ => true) true n' 3 [c0] = some y0 := hg 0 _ rfl
    have g1 : DataW.trod enc Try.prog W base (fun _ => true) true n' 3 [c1] = some y1 := hg 1 _ rfl
    have g2 : DataW.trod enc Try.prog W base (fun _ => true) true n' 41 [c2] = some y2 := hg 2 _ rfl
    obtain ⟨k0, e0, _, w0⟩ := DataW.trod_int Try.underlying3 g0
    obtain ⟨k1, e1, _, w1⟩ := DataW.trod_int Try.underlying3 g1
    obtain ⟨l, hl⟩ := xsl_cell28 g2
    simp only [List.cons.injEq, and_true] at e0 e1
    subst e0 e1
    exact ⟨(k0, k1, l), c2, rfl, hl, bounds_i64 w0, bounds_i64 w1⟩
end
theorem InodeTurns_v (W : World) (x v : Value) (o : Int × Int × List Xt) (z : Int) (bs : List Int) (h : InoV W x o) (z0 : -9223372036854775808 ≤ z) (z1 : z ≤ 9223372036854775807) (hv : NSl W (fun k => k < W.heap.size) v bs) (hb : ∀ x ∈ bs, -9223372036854775808 ≤ x ∧ x ≤ 9223372036854775807) :
    Calls Try.prog 10 #[x, .int .i64 z, v] W fun e W' => e = .returned (.bool true) ∧ Kept NoB W W' := by
  obtain ⟨u, rfl, hx, _, s0, s1⟩ := h
  exact InodeTurns_any _ _ z u v _ bs W hx hv s0 s1 z0 z1 hb
end Go.Proofs.Ytbacnkndllifaaa
namespace Go.Proofs.Ytbacnkndllifaaa
open Go.RowKit
theorem InodeBack_v (W : World) (x v : Value) (o : Int × Int × List Xt) (z : Int) (bs : List Int) (h : InoV W x o) (z0 : -9223372036854775808 ≤ z) (z1 : z ≤ 9223372036854775807) (hv : NSl W (fun k => k < W.heap.size) v bs) (hb : ∀ x ∈ bs, -9223372036854775808 ≤ x ∧ x ≤ 9223372036854775807) :
    Calls Try.prog 11 #[x, .int .i64 z, v] W fun e W' => e = .returned (.bool true) ∧ Kept NoB W W' := by
  obtain ⟨u, rfl, hx, _, s0, s1⟩ := h
  exact InodeBack_any _ _ z u v _ bs W hx hv s0 s1 z0 z1 hb
end Go.Proofs.Ytbacnkndllifaaa
