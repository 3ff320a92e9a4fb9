/-
  Configurations and numbers that came in, opened (for a seat of plain rows).
-/
import Derived.Test.YtabmipjpgofgpaaGreatDoorFrameP
import Derived.Test.YtabmipjpgofgpaaGreatDoorCnf3
namespace Go.Proofs.YtabmipjpgofgpaaGreatDoor
open Go.ChangeShapes Go.WideShapes Go.ChangeAt Go.RowKit Go.Deep
set_option linter.unusedVariables false

theorem addr_add9 (b o j : Nat) : (⟨b, o, none⟩ : Addr).add j = ⟨b, o + j, none⟩ := by unfold Addr.add; split <;> simp_all
theorem pick_all9 {α : Type} {m : Nat} {Q : Nat → α → Prop} (z : α) (h : ∀ j, j < m → ∃ x, Q j x) : ∃ f : Nat → α, ∀ j, j < m → Q j (f j) :=
  ⟨fun j => if hj : j < m then Classical.choose (h j hj) else z, fun j hj => by
    simp only [dif_pos hj]
    exact Classical.choose_spec (h j hj)⟩
section
variable {H : Type} {enc : TypeId × Value → H} {W : World} {base b0 : Nat}
/-- A slice of numbers in a cell. -/
theorem nsl_cell {fuel : Nat} {c : Value} {x : DataW H × List MemPlace} (h : DataW.trod enc Tryz.prog W base (fun _ => true) true fuel 61 [c] = some x) : ∃ l : List Int, NSl W (fun _ => True) c l := by
  rcases open_ints Tryz.underlying61 Tryz.underlying3 (by kernel_rfl) h with ⟨hcs, _⟩ | ⟨x, len, cap, zs, hcs, _, hl, hm, hz, _, hcell, hwz⟩
  · simp only [List.cons.injEq, and_true] at hcs
    subst hcs
    exact ⟨[], NSl.nil _ _⟩
  · simp only [List.cons.injEq, and_true] at hcs
    subst hcs
    have hzl : zs.length = cap := by simpa using hz
    have e : (zs.take len).length = len := by rw [List.length_take]; omega
    refine ⟨zs.take len, some x, cap, by rw [e], by omega, hm, (fun h => by cases h), fun hp => ?_⟩
    rw [e] at hp
    obtain ⟨b, o, spot⟩ := x
    have h0 := hcell 0 (by omega)
    have hspot : spot = none := by simpa [Addr.add] using World.cell?_spot h0
    subst hspot
    have hbl := World.block_lt_of_cell? W _ h0
    rw [addr_add9] at hbl
    refine ⟨b, o, rfl, trivial, hbl, fun j hj => ?_⟩
    rw [e] at hj
    rw [← addr_add9, hcell j (by omega)]
    simp [show j < len by omega]
theorem array5 {α : Type} {cs : Array α} (h : cs.size = 5) : ∃ c0 c1 c2 c3 c4, cs = #[c0, c1, c2, c3, c4] := by
  obtain ⟨l⟩ := cs
  match l, h with
  | [c0, c1, c2, c3, c4], _ => exact ⟨c0, c1, c2, c3, c4, rfl⟩
set_option maxRecDepth 100000 in
/-- Five cells that read as a configuration. -/
theorem cf_cells {fuel : Nat} {c0 c1 c2 c3 c4 : Value} {x : DataW H × List MemPlace} (ht : DataW.trod enc Tryz.prog W base (fun _ => true) true fuel 63 [c0, c1, c2, c3, c4] = some x) :
    ∃ c : Cf, c0 = .int .i64 c.ch ∧ c1 = .int .u64 c.ep ∧ NSl W (fun _ => True) c2 c.ns ∧ c3 = .bool c.fr ∧ c4 = .int .i64 c.jn ∧ 0 ≤ c.ep ∧ c.ep ≤ topE := by
  obtain ⟨xs, n', _, _, _, hxl, hg⟩ := DataW.trod_struct Tryz.underlying63 ht
  have hxl5 : xs.length = 5 := hxl
  match xs, hxl5 with
  | [y0, y1, y2, y3, y4], _ =>
    have g0 : DataW.trod enc Tryz.prog W base (fun _ => true) true n' 3 [c0] = some y0 := hg 0 _ rfl
    have g1 : DataW.trod enc Tryz.prog W base (fun _ => true) true n' 23 [c1] = some y1 := hg 1 _ rfl
    have g2 : DataW.trod enc Tryz.prog W base (fun _ => true) true n' 61 [c2] = some y2 := hg 2 _ rfl
    have g3 : DataW.trod enc Tryz.prog W base (fun _ => true) true n' 4 [c3] = some y3 := hg 3 _ rfl
    have g4 : DataW.trod enc Tryz.prog W base (fun _ => true) true n' 3 [c4] = some y4 := hg 4 _ rfl
    obtain ⟨k0, e0, _, _⟩ := DataW.trod_int Tryz.underlying3 g0
    obtain ⟨k1, e1, _, w1⟩ := DataW.trod_int Tryz.underlying23 g1
    obtain ⟨l, hl⟩ := nsl_cell g2
    obtain ⟨k3, e3, _⟩ := DataW.trod_bool Tryz.underlying4 g3
    obtain ⟨k4, e4, _, _⟩ := DataW.trod_int Tryz.underlying3 g4
    simp only [List.cons.injEq, and_true] at e0 e1 e3 e4
    subst e0 e1 e3 e4
    have hk := bounds_u64 w1
    exact ⟨⟨k0, k1, l, k3, k4⟩, rfl, rfl, hl, rfl, rfl, hk.1, hk.2⟩
set_option maxRecDepth 100000 in
/-- A configuration by value. -/
theorem cf_open {r : Reach} {v : Value} {d : DataW H} {p : List MemPlace} (hv : Value.okWide Tryz.prog W r b0 63 v)
    (h : DataW.Trod enc Tryz.prog W base (fun _ => true) true 63 v d p) : ∃ c : Cf, CfR W (fun _ => True) v c := by
  obtain ⟨cs, rfl, hsz⟩ := okWide_struct Tryz.underlying63 hv
  have hC : Tryz.prog.cellsOf 63 = 5 := by kernel_rfl
  obtain ⟨c0, c1, c2, c3, c4, rfl⟩ := array5 (hsz.trans hC)
  obtain ⟨fuel, hf⟩ := h
  obtain ⟨c, rfl, rfl, hn, rfl, rfl, h0, h1⟩ := cf_cells (by simpa [Value.cells] using hf)
  exact ⟨c, c2, rfl, hn, h0, h1⟩
/-- A slice of numbers. -/
theorem ns_open {d : DataW H} {p : List MemPlace} {a : Option Addr} {len cap : Nat}
    (h : DataW.Trod enc Tryz.prog W base (fun _ => true) true 61 (.slice a len cap) d p) : ∃ l : List Int, NSl W (fun _ => True) (.slice a len cap) l := by
  obtain ⟨fuel, hf⟩ := h
  exact nsl_cell (by simpa [Value.cells] using hf)
end
end Go.Proofs.YtabmipjpgofgpaaGreatDoor
