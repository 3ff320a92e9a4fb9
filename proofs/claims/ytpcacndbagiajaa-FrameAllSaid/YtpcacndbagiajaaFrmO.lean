/-
  A frame, and a slice of frames, that came in: opened.
-/
import Derived.Test.YtpcacndbagiajaaOpen
import Derived.Lib.SmallJoins
namespace Go.Proofs.Ytpcacndbagiajaa
open Go.ChangeShapes Go.WideShapes Go.ChangeAt Go.RowKit Go.Deep

section
variable {H : Type} {enc : TypeId × Value → H} {W : World} {base b0 : Nat}
set_option maxRecDepth 100000 in
/-- A frame by value. -/
theorem frm_open {v : Value} {d : DataW H} {p : List MemPlace} (hv : Value.okWide Try.prog W .any b0 76 v)
    (h : DataW.Trod enc Try.prog W base (fun _ => true) true 76 v d p) : ∃ (k : Nat) (b : Value) (l : List Int), v = .agg #[.int .u8 k, b] ∧ k < 256 ∧ BSl W (fun k => k < W.heap.size) b l := by
  obtain ⟨c0, c1, y0, y1, m, rfl, rfl, rfl, hy0, hy1⟩ := Joins.open_agg2 Try.underlying76 (by kernel_rfl) (by kernel_rfl) hv h
  obtain ⟨a, e0, _, wa⟩ := DataW.trod_int Try.underlying5 hy0
  obtain ⟨l, hl⟩ := bsl_cell hy1
  simp only [List.cons.injEq, and_true] at e0
  subst e0
  have hb := bounds_u8 wa
  obtain ⟨k, rfl⟩ := Int.eq_ofNat_of_zero_le hb.1
  exact ⟨k, c1, l, rfl, by omega, hl⟩

/-- A frame that came in: its kind, its body. -/
structure Fm where
  k : Nat
  l : List Int
/-- The value is a slice of n frames. -/
def FmsAt (w : World) (v : Value) (n : Nat) (it : Nat → Fm) : Prop :=
  ∃ a cap, v = .slice a n cap ∧ n ≤ 9223372036854775807 ∧ (0 < n → ∃ b o, a = some ⟨b, o, none⟩ ∧ b < w.heap.size ∧ ∀ j, j < n → w.cell? ⟨b, o + j * 2, none⟩ = some (.int .u8 (it j).k) ∧ (it j).k < 256 ∧
    ∃ bv, w.cell? ⟨b, o + j * 2 + 1, none⟩ = some bv ∧ BSl w (fun k => k < w.heap.size) bv (it j).l)

set_option maxRecDepth 100000 in
theorem fms_open {d : DataW H} {p : List MemPlace} {a : Option Addr} {len cap : Nat}
    (h : DataW.Trod enc Try.prog W base (fun _ => true) true 96 (.slice a len cap) d p) : ∃ it : Nat → Fm, FmsAt W (.slice a len cap) len it := by
  obtain ⟨fuel, hf⟩ := h
  rcases open_slice Try.underlying96 hf with ⟨hcs, _⟩ | ⟨x, l, c, m, n, D, Pl, hcs, _, hl, hm, hmm, _, hi⟩
  · simp [Value.cells] at hcs
    obtain ⟨rfl, rfl, rfl⟩ := hcs
    exact ⟨fun _ => ⟨0, []⟩, none, 0, rfl, Nat.zero_le _, fun h => absurd h (by omega)⟩
  · simp [Value.cells] at hcs
    obtain ⟨rfl, rfl, rfl⟩ := hcs
    simp only [if_true] at hmm
    subst hmm
    have hC : Try.prog.cellsOf 76 = 2 := by kernel_rfl
    rw [hC] at hi
    unfold maxLen at hm
    have key : ∀ j, j < m → ∃ it : Fm, W.cell? (x.add (j * 2)) = some (.int .u8 it.k) ∧ it.k < 256 ∧ ∃ bv, W.cell? ((x.add (j * 2)).add 1) = some bv ∧ BSl W (fun k => k < W.heap.size) bv it.l := by
      intro j hj
      obtain ⟨cs', hc, ht⟩ := hi j hj
      obtain ⟨_, hlen, hat⟩ := World.cells?_some hc
      obtain ⟨xs, n', _, _, _, hxl, hg⟩ := DataW.trod_struct Try.underlying76 ht
      have hxl2 : xs.length = 2 := hxl
      match cs', hlen with
      | [c0, c1], _ =>
        match xs, hxl2 with
        | [y0, y1], _ =>
          have g0 : DataW.trod enc Try.prog W base (fun _ => true) true n' 5 [c0] = some y0 := hg 0 _ rfl
          have g1 : DataW.trod enc Try.prog W base (fun _ => true) true n' 22 [c1] = some y1 := hg 1 _ rfl
          obtain ⟨k0, e0, _, w0⟩ := DataW.trod_int Try.underlying5 g0
          obtain ⟨bl, hbl⟩ := bsl_cell g1
          simp only [List.cons.injEq, and_true] at e0
          subst e0
          have hk := bounds_u8 w0
          obtain ⟨k, rfl⟩ := Int.eq_ofNat_of_zero_le hk.1
          have a0 : ∀ y : Addr, y.add 0 = y := fun y => by unfold Addr.add; split <;> simp_all
          refine ⟨⟨k, bl⟩, ?_, by show k < 256; omega, c1, ?_, hbl⟩
          · have := hat 0 (by omega)
            rw [a0] at this
            exact this
          · exact hat 1 (by omega)
    obtain ⟨it, hit⟩ := pick_all ⟨0, []⟩ key
    refine ⟨it, some x, m, rfl, by omega, fun hp => ?_⟩
    obtain ⟨h0, _⟩ := hit 0 (by omega)
    obtain ⟨b, o, spot⟩ := x
    have hspot : spot = none := by simpa [Addr.add] using World.cell?_spot h0
    subst hspot
    have hb := World.block_lt_of_cell? W _ h0
    rw [addr_add] at hb
    refine ⟨b, o, rfl, hb, fun j hj => ?_⟩
    obtain ⟨e0, e1, bv, e2, e3⟩ := hit j (by omega)
    simp only [addr_add] at e0 e2
    exact ⟨e0, e1, bv, e2, e3⟩
end
end Go.Proofs.Ytpcacndbagiajaa
