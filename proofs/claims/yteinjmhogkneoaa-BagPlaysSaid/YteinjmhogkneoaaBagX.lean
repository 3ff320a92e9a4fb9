/-
  The chapter's answers on bags (catenaryref06): Has, At, Upto, Odd.
-/
import Derived.Test.YteinjmhogkneoaaBagK
namespace Go.Proofs.Yteinjmhogkneoaa
open Go.RowKit
set_option linter.unusedVariables false

/-- The reference's items: a row of its own, from B on. -/
def RRow (B : Nat) (w : World) (a : Option Addr) (c : Nat) (l : List It) : Prop := w.ownsRow B 56 2 (.slice a l.length c) l.length (cel l)
theorem RRow.no {B : Nat} {w w' : World} {a : Option Addr} {c : Nat} {l : List It} (h : RRow B w a c l) (hk : Kept NoB w w') : RRow B w' a c l := row_kept h hk (fun _ _ h => h)
theorem RRow.alloc {B : Nat} {w : World} {a : Option Addr} {c : Nat} {l : List It} (h : RRow B w a c l) (o : Obj) : RRow B (w.alloc o) a c l := h.no ((Kept.refl NoB w).alloc o)
theorem RRow.drew {B : Nat} {w : World} {a : Option Addr} {c : Nat} {l : List It} (h : RRow B w a c l) : RRow B w.drew a c l := h
theorem RRow.kept {S : Nat → Prop} {B : Nat} {w w' : World} {a : Option Addr} {c : Nat} {l : List It} (h : RRow B w a c l) (hk : Kept S w w') (hS : ∀ (k : Nat) (cs : Array Value) (fr : Nat × Nat), w.heap[k]? = some (.cells cs 56 fr) → ¬ S k) : RRow B w' a c l := by
  refine row_kept h hk (fun k hk => ?_)
  rcases h.2 with ⟨hv, _⟩ | ⟨r, cap, cur, hv, _, hh, _⟩
  · rw [hv] at hk; cases hk
  · rw [hv] at hk
    injection hk with hk
    subst hk
    exact hS _ _ _ hh
theorem RRow.items {B : Nat} {w : World} {l : List It} {a : Option Addr} {c : Nat} (h : RRow B w a c l) (h0 : 0 < l.length) :
    ∃ r, a = some ⟨r, 0, none⟩ ∧ r < w.heap.size ∧ (∀ i, i < l.length → w.cell? ⟨r, i * 2, none⟩ = some (.int .i64 (nth l i).1) ∧ w.cell? ⟨r, i * 2 + 1, none⟩ = some (.int .i64 (nth l i).2)) ∧ l.length ≤ c ∧ c ≤ maxLen ∧ ∀ j u, (cel l)[j]? = some u → w.cell? ⟨r, j, none⟩ = some u := by
  obtain ⟨r, cap, hv, hB, hlt⟩ := World.ownsRow.form h h0
  injection hv with hv
  subst hv
  have hat : ∀ j, j < l.length * 2 → w.cell? ⟨r, j, none⟩ = (cel l)[j]? := fun j hj => World.ownsRow.cellAt h j hj
  refine ⟨r, rfl, hlt, fun i hi => ?_, ?_⟩
  · obtain ⟨h1, h2⟩ := cel_at l i hi
    exact ⟨(hat (i * 2) (by omega)).trans h1, (hat (i * 2 + 1) (by omega)).trans h2⟩
  · rcases h.2 with ⟨hn, _⟩ | ⟨r', cap', cur, hv, _, hh, h1, h2, h3, h4⟩
    · cases hn
    · injection hv with hv1 hv2 hv3
      injection hv1 with hv1
      injection hv1 with hv1
      subst hv1 hv3
      refine ⟨h1, h2, fun j u hu => ?_⟩
      have hj : j < (cel l).length := by
        rcases Nat.lt_or_ge j (cel l).length with h | h
        · exact h
        · rw [List.getElem?_eq_none h] at hu; cases hu
      rw [cel_len] at hj
      exact (hat j hj).trans hu

/-- A bag of the reference, as a value. -/
abbrev rbv (most last : Int) (a : Option Addr) (n c : Nat) : Value := .agg #[.int .i64 most, .int .i64 last, .slice a n c]
theorem RHas_yes (most last : Int) (a : Option Addr) (n c i : Nat) (w : World) (hi : i < n) : Calls Try.prog 28 #[rbv most last a n c, .int .i64 i] w fun e w' => e = .returned (.bool true) ∧ Kept NoB w w' := by
  have h1 : (i : Int) < (n : Int) := by omega
  go_enter Try.func28, Try.ntmps28
  go_wp2
  go_ret
  exact ⟨rfl, (Kept.refl _ _).alloc _⟩
theorem RHas_no (most last : Int) (a : Option Addr) (n c : Nat) (i : Int) (w : World) (hi : i < 0 ∨ (n : Int) ≤ i) : Calls Try.prog 28 #[rbv most last a n c, .int .i64 i] w fun e w' => e = .returned (.bool false) ∧ Kept NoB w w' := by
  by_cases h0 : i < 0
  · clear hi
    go_enter Try.func28, Try.ntmps28
    go_wp2
    go_ret
    exact ⟨rfl, (Kept.refl _ _).alloc _⟩
  · have h1 : 0 ≤ i := by omega
    have h2 : decide (i < (n : Int)) = false := by simp; omega
    clear hi h0
    go_enter Try.func28, Try.ntmps28
    go_wp2
    go_ret
    exact ⟨rfl, (Kept.refl _ _).alloc _⟩
set_option maxRecDepth 100000 in
theorem RAt_yes (B : Nat) (most last : Int) (a : Option Addr) (c i : Nat) (l : List It) (w : World) (h : RRow B w a c l) (hi : i < l.length) : Calls Try.prog 25 #[rbv most last a l.length c, .int .i64 i] w fun e w' =>
    e = .returned (.tuple #[.agg #[.int .i64 (nth l i).1, .int .i64 (nth l i).2], .bool true]) ∧ Kept NoB w w' := by
  have h2 := (h.alloc (.cells #[.int .i64 most, .int .i64 last, .slice a l.length c] 27)).alloc (.cells #[.int .i64 0, .int .i64 0] 56)
  have hz := heap_alloc_new w (.cells #[.int .i64 most, .int .i64 last, .slice a l.length c] 27)
  have hi1 : (i : Int) < (l.length : Int) := by omega
  obtain ⟨x, hx⟩ : ∃ x, x = (nth l i).1 := ⟨_, rfl⟩
  obtain ⟨y, hy⟩ : ∃ y, y = (nth l i).2 := ⟨_, rfl⟩
  rw [← hx, ← hy]
  have HB := Lib.hid (blk_alloc hz (.cells #[.int .i64 0, .int .i64 0] 56))
  have hy2 := heap_alloc_new (w.alloc (.cells #[.int .i64 most, .int .i64 last, .slice a l.length c] 27)) (.cells #[.int .i64 0, .int .i64 0] 56)
  rw [show (w.alloc (.cells #[.int .i64 most, .int .i64 last, .slice a l.length c] 27)).heap.size = w.heap.size + 1 by simp] at hy2
  have HY2 := Lib.hid hy2
  have HK := Lib.hid (((Kept.refl NoB w).alloc (.cells #[.int .i64 most, .int .i64 last, .slice a l.length c] 27)).alloc (.cells #[.int .i64 0, .int .i64 0] 56))
  obtain ⟨r, rfl, _, hc, _⟩ := h2.items (by omega)
  obtain ⟨e0, e1⟩ := hc i hi
  rw [← hx] at e0
  rw [← hy] at e1
  clear h h2 hz hc hx hy hy2
  go_enter Try.func25, Try.ntmps25
  go_wp2_with fail
  refine (RHas_yes most last _ l.length c i _ hi).mono ?_
  rintro e w2 ⟨rfl, hk2⟩
  have b0 := hk2.heap (fun h => h) HB.out
  have b1 := hk2.heap (fun h => h) HY2.out
  have k2 : w2.cell? ⟨w.heap.size, 2, none⟩ = some (.slice (some ⟨r, 0, none⟩) l.length c) := cell_of_row _ _ 2 _ _ _ b0
  have f0 := hk2.cell (p := ⟨r, i * 2, none⟩) (fun h => h) e0
  have f1 := hk2.cell (p := ⟨r, i * 2 + 1, none⟩) (fun h => h) e1
  have m0 : w2.cell? ⟨w.heap.size + 1, 0, none⟩ = some (.int .i64 0) := cell_of_row _ _ 0 _ _ _ b1
  have m1 : w2.cell? ⟨w.heap.size + 1, 1, none⟩ = some (.int .i64 0) := cell_of_row _ _ 1 _ _ _ b1
  have z0 : w2.frozen? ⟨w.heap.size + 1, 0, none⟩ = false := blk_frozen0 b1 0
  have z1 : w2.frozen? ⟨w.heap.size + 1, 1, none⟩ = false := blk_frozen0 b1 1
  have b2 := blk_set (blk_set b1 0 (.int .i64 x)) 1 (.int .i64 y)
  have p0 := cell_of_row _ _ 0 _ _ _ b2
  have p1 := cell_of_row _ _ 1 _ _ _ b2
  have HK3 := Lib.hid (((HK.out.trans hk2 (fun _ _ h => h)).setCell (p := ⟨w.heap.size + 1, 0, none⟩) (.inr (by show w.heap.size ≤ w.heap.size + 1; omega)) (.int .i64 x)).setCell (p := ⟨w.heap.size + 1, 1, none⟩) (.inr (by show w.heap.size ≤ w.heap.size + 1; omega)) (.int .i64 y))
  have P0 := Lib.hid p0
  have P1 := Lib.hid p1
  clear b0 b1 b2 hk2 p0 p1
  go_wp2
  refine bodyPost_ret (v := .tuple #[.agg #[.int .i64 x, .int .i64 y], .bool true]) ?_ rfl ⟨rfl, HK3.out⟩
  have p0 := P0.out
  have p1 := P1.out
  simp at p0 p1
  simp [results, Try.results25, go_sem, p0, p1]
end Go.Proofs.Yteinjmhogkneoaa
