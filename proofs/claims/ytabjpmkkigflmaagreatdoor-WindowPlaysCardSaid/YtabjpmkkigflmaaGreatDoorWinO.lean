/-
  A slice of a window's calls that came in: opened.
-/
import Derived.Test.YtabjpmkkigflmaaGreatDoorUpdO
import Derived.Test.YtabjpmkkigflmaaGreatDoorWinK
namespace Go.Proofs.YtabjpmkkigflmaaGreatDoor
open Go.ChangeShapes Go.WideShapes Go.ChangeAt Go.RowKit Go.Deep
set_option linter.unusedVariables false

section
variable {H : Type} {enc : TypeId × Value → H} {W : World} {base b0 : Nat}
theorem list11 {α : Type} {cs : List α} (h : cs.length = 11) : ∃ c0 c1 c2 c3 c4 c5 c6 c7 c8 c9 c10, cs = [c0, c1, c2, c3, c4, c5, c6, c7, c8, c9, c10] := by
  match cs, h with
  | [c0, c1, c2, c3, c4, c5, c6, c7, c8, c9, c10], _ => exact ⟨_, _, _, _, _, _, _, _, _, _, _, rfl⟩
set_option maxRecDepth 100000 in
theorem ops_open {d : DataW H} {p : List MemPlace} {a : Option Addr} {len cap : Nat}
    (h : DataW.Trod enc Tryz.prog W base (fun _ => true) true 23 (.slice a len cap) d p) : ∃ it : Nat → Opr, OpsAt W (fun k => k < W.heap.size) (.slice a len cap) len it := by
  obtain ⟨fuel, hf⟩ := h
  rcases open_slice Tryz.underlying23 hf with ⟨hcs, _⟩ | ⟨x, l, c, m, n, D, Pl, hcs, _, hl, hm, hmm, _, hi⟩
  · simp [Value.cells] at hcs
    obtain ⟨rfl, rfl, rfl⟩ := hcs
    exact ⟨fun _ => ⟨0, 0, up0, 0, 0⟩, none, 0, rfl, Nat.le_refl _, Nat.zero_le _, fun h => absurd h (by omega)⟩
  · simp [Value.cells] at hcs
    obtain ⟨rfl, rfl, rfl⟩ := hcs
    simp only [if_true] at hmm
    subst hmm
    have hC : Tryz.prog.cellsOf 36 = 11 := by kernel_rfl
    rw [hC] at hi
    have key : ∀ j, j < m → ∃ it : Opr, ∃ b o, x.add (j * 11) = ⟨b, o, none⟩ ∧ OprC W (fun k => k < W.heap.size) b o it := by
      intro j hj
      obtain ⟨cs', hc, ht⟩ := hi j hj
      obtain ⟨_, hlen, hat⟩ := World.cells?_some hc
      obtain ⟨c0, c1, c2, c3, c4, c5, c6, c7, c8, c9, c10, rfl⟩ := list11 hlen
      obtain ⟨xs, n', _, _, _, hxl, hg⟩ := DataW.trod_struct Tryz.underlying36 ht
      have hxl5 : xs.length = 5 := hxl
      match xs, hxl5 with
      | [y0, y1, y2, y3, y4], _ =>
        have g0 : DataW.trod enc Tryz.prog W base (fun _ => true) true n' 3 [c0] = some y0 := hg 0 _ rfl
        have g1 : DataW.trod enc Tryz.prog W base (fun _ => true) true n' 5 [c1] = some y1 := hg 1 _ rfl
        have g2 : DataW.trod enc Tryz.prog W base (fun _ => true) true n' 34 [c2, c3, c4, c5, c6, c7, c8] = some y2 := hg 2 _ rfl
        have g3 : DataW.trod enc Tryz.prog W base (fun _ => true) true n' 5 [c9] = some y3 := hg 3 _ rfl
        have g4 : DataW.trod enc Tryz.prog W base (fun _ => true) true n' 3 [c10] = some y4 := hg 4 _ rfl
        obtain ⟨k0, e0, _, _⟩ := DataW.trod_int Tryz.underlying3 g0
        obtain ⟨k1, e1, _, w1⟩ := DataW.trod_int Tryz.underlying5 g1
        obtain ⟨o, e2, e3, e4, e5, e6, e7, hb, hfit⟩ := upd_cells g2
        obtain ⟨k3, e8, _, w3⟩ := DataW.trod_int Tryz.underlying5 g3
        obtain ⟨k4, e9, _, _⟩ := DataW.trod_int Tryz.underlying3 g4
        simp only [List.cons.injEq, and_true] at e0 e1 e8 e9
        subst e0 e1 e2 e3 e4 e5 e6 e7 e8 e9
        have b1 := bounds_u8 w1
        have b3 := bounds_u8 w3
        have a0 : ∀ y : Addr, y.add 0 = y := fun y => by unfold Addr.add; split <;> simp_all
        obtain ⟨z, hz⟩ : ∃ z, z = x.add (j * 11) := ⟨_, rfl⟩
        rw [← hz] at hat
        have h0 := hat 0 (by omega)
        rw [a0] at h0
        obtain ⟨b, q, spot⟩ := z
        have hspot : spot = none := by simpa using World.cell?_spot h0
        subst hspot
        have h1 := hat 1 (by omega)
        have h2 := hat 2 (by omega)
        have h3 := hat 3 (by omega)
        have h4 := hat 4 (by omega)
        have h5 := hat 5 (by omega)
        have h6 := hat 6 (by omega)
        have h7 := hat 7 (by omega)
        have h8 := hat 8 (by omega)
        have h9 := hat 9 (by omega)
        have h10 := hat 10 (by omega)
        simp only [addr_add17] at h1 h2 h3 h4 h5 h6 h7 h8 h9 h10
        exact ⟨⟨k0, k1, o, k3, k4⟩, b, q, hz.symm, h0, h1, ⟨c8, h2, h3, h4, h5, h6, h7, h8, hb⟩, h9, h10, (by show 0 ≤ k1; omega), (by show k1 ≤ 255; omega), (by show 0 ≤ k3; omega), (by show k3 ≤ 255; omega), hfit⟩
    obtain ⟨it, hit⟩ := pick_all17 (⟨0, 0, up0, 0, 0⟩ : Opr) key
    refine ⟨it, some x, m, rfl, hl, hm, fun hp => ?_⟩
    obtain ⟨b1, o1, hx0, hc0⟩ := hit 0 (by omega)
    obtain ⟨b, o, spot⟩ := x
    have hspot : spot = none := by
      have := hx0
      unfold Addr.add at this
      split at this <;> simp_all
    subst hspot
    rw [addr_add17] at hx0
    injection hx0 with hb0 ho0 _
    subst hb0
    refine ⟨b, o, rfl, World.block_lt_of_cell? W _ hc0.c0, fun j hj => ?_⟩
    obtain ⟨b2, o2, hx, hc⟩ := hit j (by omega)
    rw [addr_add17] at hx
    injection hx with hb0 ho0 _
    subst hb0 ho0
    exact hc
end
end Go.Proofs.YtabjpmkkigflmaaGreatDoor
