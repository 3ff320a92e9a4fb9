/-
  A slice of calls of craq that came in: opened.
-/
import Derived.Test.YtnnmkmipeoajjaaGreatDoorUpdO
import Derived.Test.YtnnmkmipeoajjaaGreatDoorCrqM
namespace Go.Proofs.YtnnmkmipeoajjaaGreatDoor
open Go.ChangeShapes Go.WideShapes Go.ChangeAt Go.RowKit Go.Deep
set_option linter.unusedVariables false

section
variable {H : Type} {enc : TypeId × Value → H} {W : World} {base b0 : Nat}
theorem list4q {α : Type} {cs : List α} (h : cs.length = 4) : ∃ c0 c1 c2 c3, cs = [c0, c1, c2, c3] := by
  match cs, h with
  | [c0, c1, c2, c3], _ => exact ⟨_, _, _, _, rfl⟩
set_option maxRecDepth 100000 in
theorem ops22_open {d : DataW H} {p : List MemPlace} {a : Option Addr} {len cap : Nat}
    (h : DataW.Trod enc Tryz.prog W base (fun _ => true) true 22 (.slice a len cap) d p) : ∃ it : Nat → Op22, Ops22 W (.slice a len cap) len it := by
  obtain ⟨fuel, hf⟩ := h
  rcases open_slice Tryz.underlying22 hf with ⟨hcs, _⟩ | ⟨x, l, c, m, n, D, Pl, hcs, _, hl, hm, hmm, _, hi⟩
  · simp [Value.cells] at hcs
    obtain ⟨rfl, rfl, rfl⟩ := hcs
    exact ⟨fun _ => ⟨0, 0, 0, 0⟩, none, 0, rfl, Nat.le_refl _, Nat.zero_le _, fun h => absurd h (by omega)⟩
  · simp [Value.cells] at hcs
    obtain ⟨rfl, rfl, rfl⟩ := hcs
    simp only [if_true] at hmm
    subst hmm
    have hC : Tryz.prog.cellsOf 31 = 4 := by kernel_rfl
    rw [hC] at hi
    have key : ∀ j, j < m → ∃ it : Op22, ∃ b o, x.add (j * 4) = ⟨b, o, none⟩ ∧ Op22C W b o it := by
      intro j hj
      obtain ⟨cs', hc, ht⟩ := hi j hj
      obtain ⟨_, hlen, hat⟩ := World.cells?_some hc
      obtain ⟨c0, c1, c2, c3, rfl⟩ := list4q hlen
      obtain ⟨xs, n', _, _, _, hxl, hg⟩ := DataW.trod_struct Tryz.underlying31 ht
      have hxl5 : xs.length = 4 := hxl
      match xs, hxl5 with
      | [y0, y1, y2, y3], _ =>
        have g0 : DataW.trod enc Tryz.prog W base (fun _ => true) true n' 3 [c0] = some y0 := hg 0 _ rfl
        have g1 : DataW.trod enc Tryz.prog W base (fun _ => true) true n' 3 [c1] = some y1 := hg 1 _ rfl
        have g2 : DataW.trod enc Tryz.prog W base (fun _ => true) true n' 25 [c2] = some y2 := hg 2 _ rfl
        have g3 : DataW.trod enc Tryz.prog W base (fun _ => true) true n' 29 [c3] = some y3 := hg 3 _ rfl
        obtain ⟨k0, e0, _, _⟩ := DataW.trod_int Tryz.underlying3 g0
        obtain ⟨k1, e1, _, _⟩ := DataW.trod_int Tryz.underlying3 g1
        obtain ⟨k2, e2, _, w2⟩ := DataW.trod_int Tryz.underlying25 g2
        obtain ⟨k3, e3, _, w3⟩ := DataW.trod_int Tryz.underlying29 g3
        simp only [List.cons.injEq, and_true] at e0 e1 e2 e3
        subst e0 e1 e2 e3
        have b2 := bounds_u64 w2
        have b3 := bounds_u32 w3
        have a0 : ∀ y : Addr, y.add 0 = y := fun y => by unfold Addr.add; split <;> simp_all
        obtain ⟨z, hz⟩ : ∃ z, z = x.add (j * 4) := ⟨_, rfl⟩
        rw [← hz] at hat
        have h0 := hat 0 (by omega)
        rw [a0] at h0
        obtain ⟨b, q, spot⟩ := z
        have hspot : spot = none := by simpa using World.cell?_spot h0
        subst hspot
        have h1 := hat 1 (by omega)
        have h2 := hat 2 (by omega)
        have h3 := hat 3 (by omega)
        simp only [addr_add17] at h1 h2 h3
        exact ⟨⟨k0, k1, k2, k3⟩, b, q, hz.symm, h0, h1, h2, h3, (by show 0 ≤ k2; omega), (by show 0 ≤ k3; omega)⟩
    obtain ⟨it, hit⟩ := pick_all17 (⟨0, 0, 0, 0⟩ : Op22) key
    refine ⟨it, some x, m, rfl, hl, hm, fun hp => ?_⟩
    obtain ⟨b1, o1, hx0, hc0⟩ := hit 0 (by omega)
    obtain ⟨b, o, spot⟩ := x
    have hspot : spot = none := by
      have := hx0
      unfold Addr.add at this
      split at this <;> simp_all
    subst hspot
    rw [addr_add17] at hx0
    injection hx0 with hb0 ho0 _
    subst hb0
    refine ⟨b, o, rfl, World.block_lt_of_cell? W _ hc0.c0, fun j hj => ?_⟩
    obtain ⟨b2, o2, hx, hc⟩ := hit j (by omega)
    rw [addr_add17] at hx
    injection hx with hb0 ho0 _
    subst hb0 ho0
    exact hc
end
end Go.Proofs.YtnnmkmipeoajjaaGreatDoor
