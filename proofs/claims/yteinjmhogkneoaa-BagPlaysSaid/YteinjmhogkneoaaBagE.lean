/-
  Set: of a bag, and of the chapter's answer.
-/
import Derived.Test.YteinjmhogkneoaaBagZ
namespace Go.Proofs.Yteinjmhogkneoaa
open Go.RowKit
set_option linter.unusedVariables false

/-- The items, the i-th one's value v. -/
def sett (l : List It) (i : Nat) (v : Int) : List It := l.set i ((nth l i).1, v)
theorem sett_len (l : List It) (i : Nat) (v : Int) : (sett l i v).length = l.length := by simp [sett]
theorem cel_sett (l : List It) (i : Nat) (v : Int) (h : i < l.length) : cel (sett l i v) = (cel l).set (i * 2 + 1) (.int .i64 v) := by
  induction l generalizing i with
  | nil => simp at h
  | cons x l ih =>
    cases i with
    | zero => simp [sett, nth, cel_cons]
    | succ i =>
      have := ih i (by simp at h; omega)
      rw [show (i + 1) * 2 + 1 = i * 2 + 1 + 1 + 1 by omega, cel_cons, List.set_cons_succ, List.set_cons_succ, ← this]
      rfl
theorem Bg.sett {B g r c : Nat} {row : Option Nat} {most last : Int} {l : List It} {w : World} (i : Nat) (v : Int) (hi : i < l.length) (hBg : B ≤ g) (hr : (Value.slice (some ⟨r, 0, none⟩) l.length c).ownBlock = row)
    (hh : w.heap[g]? = some (.cells #[.slice (some ⟨r, 0, none⟩) l.length c, .int .i64 most, .int .i64 last] 52 (0, 0))) (hown : w.ownsRow B 66 2 (.slice (some ⟨r, 0, none⟩) l.length c) l.length (cel l)) (hrg : r ≠ g) :
    Bg B (w.setCell ⟨r, i * 2 + 1, none⟩ (.int .i64 v)) g row most last (sett l i v) ∧ Kept (Tw g row) w (w.setCell ⟨r, i * 2 + 1, none⟩ (.int .i64 v)) := by
  refine ⟨⟨hBg, some ⟨r, 0, none⟩, c, by rw [sett_len]; exact hr, ?_, ?_⟩, ?_⟩
  · rw [sett_len]
    exact blk_set_other hh _ _ (by omega)
  · rw [cel_sett l i v hi, sett_len]
    exact (hown.stored (i * 2 + 1) (.int .i64 v)).1
  · exact (Kept.refl _ _).setCell (p := ⟨r, i * 2 + 1, none⟩) (.inl (.inr (by rw [← hr]; rfl))) _
set_option maxRecDepth 100000 in
theorem BSet_yes (B g : Nat) (row : Option Nat) (most last : Int) (l : List It) (i : Nat) (v : Int) (w : World) (h : Bg B w g row most last l) (hi : i < l.length) :
    Calls Try.prog 22 #[.pointer (some ⟨g, 0, none⟩), .int .i64 i, .int .i64 v] w fun e w' => e = .returned (.bool true) ∧ Bg B w' g row most last (sett l i v) ∧ Kept (Tw g row) w w' := by
  have HBg := h.1
  obtain ⟨a, c, c0, _, _, hfz, hown, hrow, _, hh⟩ := h.cells
  obtain ⟨r, rfl, _, _, hc, _⟩ := Bg.items hown (by omega)
  obtain ⟨_, e1⟩ := hc i hi
  have hrg : r ≠ g := fun he => own_ne hown hh (by decide) (by rw [he]; rfl)
  have hi1 : (i : Int) < (l.length : Int) := by omega
  have z1 : w.frozen? ⟨r, i * 2 + 1, none⟩ = false := hown.frozenAt _
  have HA := Lib.hid (has_yes B g row most last l i w h hi)
  have HF := Lib.hid (Bg.sett i v hi HBg hrow hh hown hrg)
  clear h hown hh hrow hfz hc
  go_enter Try.func22, Try.ntmps22
  go_wp2_with fail
  refine HA.out.mono ?_
  rintro e w1 ⟨rfl, rfl⟩
  go_wp2
  go_ret
  exact ⟨rfl, HF.out⟩
theorem BSet_no (B g : Nat) (row : Option Nat) (most last : Int) (l : List It) (i v : Int) (w : World) (h : Bg B w g row most last l) (hi : i < 0 ∨ (l.length : Int) ≤ i) :
    Calls Try.prog 22 #[.pointer (some ⟨g, 0, none⟩), .int .i64 i, .int .i64 v] w fun e w' => e = .returned (.bool false) ∧ w = w' := by
  have HA := Lib.hid (has_no B g row most last l i w h hi)
  clear h hi
  go_enter Try.func22, Try.ntmps22
  go_wp2_with fail
  refine HA.out.mono ?_
  rintro e w1 ⟨rfl, rfl⟩
  go_wp2
  go_ret
  exact ⟨rfl, rfl⟩

theorem RRow.sett {B B' r c : Nat} {l : List It} {w : World} (h : RRow B w (some ⟨r, 0, none⟩) c l) (i : Nat) (v : Int) (hi : i < l.length) (hB : B' ≤ B) : RRow B' (w.setCell ⟨r, i * 2 + 1, none⟩ (.int .i64 v)) (some ⟨r, 0, none⟩) c (sett l i v) := by
  unfold RRow
  rw [cel_sett l i v hi, sett_len]
  exact row_mono (World.ownsRow.stored h (i * 2 + 1) (.int .i64 v)).1 hB
/-- What a call leaves that makes a bag of the chapter's. -/
def RB (B : Nat) (w0 : World) (most last : Int) (l : List It) (v : Value) (w' : World) : Prop := ∃ a c, v = rbv most last a l.length c ∧ RRow B w' a c l ∧ Kept NoB w0 w'
/-- A bag of the chapter's that lies in the cells of a block. -/
theorem rb_ret {B b : Nat} {w0 w : World} {most last : Int} {a : Option Addr} {c : Nat} {l : List It} {x0 x1 x2 : Value} (hh : w.heap[b]? = some (.cells #[x0, x1, x2] 27 (0, 0))) (hr : RRow B w a c l) (hk : Kept NoB w0 w) (hb : w0.heap.size ≤ b) :
    RB B w0 most last l (rbv most last a l.length c) (((w.setCell ⟨b, 0, none⟩ (.int .i64 most)).setCell ⟨b, 1, none⟩ (.int .i64 last)).setCell ⟨b, 2, none⟩ (.slice a l.length c)) ∧
    (((w.setCell ⟨b, 0, none⟩ (.int .i64 most)).setCell ⟨b, 1, none⟩ (.int .i64 last)).setCell ⟨b, 2, none⟩ (.slice a l.length c)).cell? ⟨b, 0, none⟩ = some (.int .i64 most) ∧
    (((w.setCell ⟨b, 0, none⟩ (.int .i64 most)).setCell ⟨b, 1, none⟩ (.int .i64 last)).setCell ⟨b, 2, none⟩ (.slice a l.length c)).cell? ⟨b, 1, none⟩ = some (.int .i64 last) ∧
    (((w.setCell ⟨b, 0, none⟩ (.int .i64 most)).setCell ⟨b, 1, none⟩ (.int .i64 last)).setCell ⟨b, 2, none⟩ (.slice a l.length c)).cell? ⟨b, 2, none⟩ = some (.slice a l.length c) := by
  have b1 := blk_set (blk_set (blk_set hh 0 (.int .i64 most)) 1 (.int .i64 last)) 2 (.slice a l.length c)
  refine ⟨⟨a, c, rfl, ?_, ?_⟩, cell_of_row _ _ 0 _ _ _ b1, cell_of_row _ _ 1 _ _ _ b1, cell_of_row _ _ 2 _ _ _ b1⟩
  · exact RRow.kept (S := One b) hr (Kept.one (Kept.one (Kept.one (Kept.refl _ _) 0 (.int .i64 most)) 1 (.int .i64 last)) 2 (.slice a l.length c)) (fun k cs fr hh2 h => by
      have h : k = b := h
      subst h
      rw [hh] at hh2
      injection hh2 with hh2
      injection hh2 with _ hh2
      cases hh2)
  · exact ((hk.setCell (p := ⟨b, 0, none⟩) (.inr hb) _).setCell (p := ⟨b, 1, none⟩) (.inr hb) _).setCell (p := ⟨b, 2, none⟩) (.inr hb) _
end Go.Proofs.Yteinjmhogkneoaa
