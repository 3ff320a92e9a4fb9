/-
  Package bag: Put, Twice, Set.
-/
import Derived.Test.YteinjmhogkneoaaBagA
import Derived.Deep.AppendLies
namespace Go.Proofs.Yteinjmhogkneoaa
open Go.RowKit
set_option linter.unusedVariables false

theorem Try.info66 : (Try.prog.info? 66).map (fun i => (i.zero, i.size, i.bytes)) = some (some (.agg #[.int .i64 0, .int .i64 0]), 2, 16) := by kernel_rfl

/-- Block g alone. -/
def One (g : Nat) : Nat → Prop := fun k => k = g
theorem Kept.one {g : Nat} {a w : World} (h : Kept (One g) a w) (o : Nat) (u : Value) : Kept (One g) a (w.setCell ⟨g, o, none⟩ u) := h.setCell (p := ⟨g, o, none⟩) (.inl (by show g = g; rfl)) u
theorem blk_frozen0 {w : World} {g : Nat} {cs : Array Value} {t : TypeId} (h : w.heap[g]? = some (.cells cs t (0, 0))) (o : Nat) : w.frozen? ⟨g, o, none⟩ = false := by simp [World.frozen?, h]
theorem blk_set {w : World} {g : Nat} {cs : Array Value} {t : TypeId} {fr : Nat × Nat} (h : w.heap[g]? = some (.cells cs t fr)) (i : Nat) (u : Value) :
    (w.setCell ⟨g, i, none⟩ u).heap[g]? = some (.cells (cs.setIfInBounds i u) t fr) := by simp [World.setCell, Array.getElem?_modify, h]
theorem blk_set_other {w : World} {g k : Nat} {o : Obj} (h : w.heap[g]? = some o) (i : Nat) (u : Value) (hk : k ≠ g) :
    (w.setCell ⟨k, i, none⟩ u).heap[g]? = some o := by simp [World.setCell, Array.getElem?_modify, h, hk]
theorem blk_alloc {w : World} {g : Nat} {o : Obj} (h : w.heap[g]? = some o) (x : Obj) : (w.alloc x).heap[g]? = some o := (heap_alloc_old w x (heap_lt h)).trans h

theorem Put_full (B g : Nat) (row : Option Nat) (most last : Int) (l : List It) (x : Int) (w : World) (h : Bg B w g row most last l) (hf : most ≤ (l.length : Int)) :
    Calls Try.prog 12 #[.pointer (some ⟨g, 0, none⟩), .int .i64 x] w fun e w' => e = .returned (.tuple #[.int .i64 0, .int .i64 9]) ∧ ∃ n, w' = w.drewN n := by
  obtain ⟨a, c, c0, c1, _⟩ := h.cells
  clear h
  go_enter Try.func12, Try.ntmps12
  go_wp2
  go_quiet (fail)
  go_wp2
  go_ret2
  exact ⟨rfl, _, rfl⟩
theorem put_end {B g gg c cap1 : Nat} {row : Option Nat} {most last x : Int} {l : List It} {a : Option Addr} {w W w1 : World} (hk0 : Kept (One g) w W)
    (hg1 : W.heap[g]? = some (.cells #[.slice a l.length c, .int .i64 most, .int .i64 (last + 1)] 52 (0, 0)))
    (hown : w1.ownsRow B 66 2 (.slice (some ⟨gg, 0, none⟩) (l.length + 1) cap1) (l.length + 1) (cel l ++ [.int .i64 (last + 1), .int .i64 x]))
    (hk1 : Kept (fun k => some k = (Value.slice a l.length c).ownBlock) W w1) (hne : some g ≠ (Value.slice a l.length c).ownBlock) (hrow : (Value.slice a l.length c).ownBlock = row) (hgg : gg ≠ g) (hBg : B ≤ g) (hat : (Value.slice a l.length c).ownBlock = some gg ∨ w.heap.size ≤ gg) :
    Ending.returned (.tuple #[.int .i64 (last + 1), .int .i64 0]) = .returned (.tuple #[.int .i64 (last + 1), .int .i64 0]) ∧ ∃ row', Bg B (w1.setCell ⟨g, 0, none⟩ (.slice (some ⟨gg, 0, none⟩) (l.length + 1) cap1)) g row' most (last + 1) (l ++ [(last + 1, x)]) ∧
      Kept (Tw g row) w (w1.setCell ⟨g, 0, none⟩ (.slice (some ⟨gg, 0, none⟩) (l.length + 1) cap1)) ∧ ∀ k, row' = some k → row = some k ∨ w.heap.size ≤ k := by
  refine ⟨rfl, some gg, ⟨hBg, some ⟨gg, 0, none⟩, cap1, rfl, ?_, ?_⟩, ?_, fun k hk => by injection hk with hk; subst hk; rw [← hrow]; exact hat⟩
  · rw [List.length_append]
    exact blk_set (hk1.heap hne hg1) 0 _
  · rw [List.length_append, cel_app]
    exact row_kept hown (Kept.one (Kept.refl (One g) w1) 0 _) (fun k hk h => by
      have hk : gg = k := by simpa [Value.ownBlock] using hk
      have h : k = g := h
      omega)
  · refine Kept.setCell (p := ⟨g, 0, none⟩) ((hk0.mono (fun i _ h => Or.inl h)).trans hk1 (fun i _ h => .inr (by rw [← hrow]; exact h))) (.inl (.inl rfl)) _
set_option maxRecDepth 100000 in
theorem Put_any (B g : Nat) (row : Option Nat) (most last : Int) (l : List It) (x : Int) (w : World) (h : Bg B w g row most last l) (hf : (l.length : Int) < most) (hl : l.length ≤ 100000) (h0 : 0 ≤ last) (h1 : last ≤ 100000) (hB : B ≤ w.heap.size) :
    Calls Try.prog 12 #[.pointer (some ⟨g, 0, none⟩), .int .i64 x] w fun e w' => e = .returned (.tuple #[.int .i64 (last + 1), .int .i64 0]) ∧ ∃ row', Bg B w' g row' most (last + 1) (l ++ [(last + 1, x)]) ∧ Kept (Tw g row) w w' ∧ ∀ k, row' = some k → row = some k ∨ w.heap.size ≤ k := by
  obtain ⟨i0, hi0, hz0, hz1, hz2⟩ := info_parts Try.info66
  have HB := Lib.hid h
  obtain ⟨a, c, c0, c1, c2, hfz, hown, hrow, hgl, hh⟩ := h.cells
  have f0 := hfz 0
  have f2 := hfz 2
  have hd : decide (most ≤ (l.length : Int)) = false := by simpa using hf
  have hne : some g ≠ (Value.slice a l.length c).ownBlock := own_ne hown hh (by decide)
  have HH := Lib.hid hh
  have hBg := HB.out.1
  clear h hfz hh
  go_enter Try.func12, Try.ntmps12
  go_wp2
  go_quiet (fail)
  go_wp2
  have hk0 : Kept (One g) w ((w.drewN nq).setCell ⟨g, 2, none⟩ (.int .i64 (last + 1))) := ((Kept.refl (One g) w).drewN nq).one 2 (.int .i64 (last + 1))
  have hg1 : ((w.drewN nq).setCell ⟨g, 2, none⟩ (.int .i64 (last + 1))).heap[g]? = some (.cells #[.slice a l.length c, .int .i64 most, .int .i64 (last + 1)] 52 (0, 0)) := blk_set (w := w.drewN nq) HH.out 2 _
  obtain ⟨W, hW⟩ : ∃ W, W = (w.drewN nq).setCell ⟨g, 2, none⟩ (.int .i64 (last + 1)) := ⟨_, rfl⟩
  rw [← hW] at hk0 hg1 ⊢
  have hown1 := row_kept hown hk0 (fun k hk h => hne (by rw [hk]; exact congrArg some h.symm))
  have q0 : W.cell? ⟨g, 0, none⟩ = some (.slice a l.length c) := cell_of_row _ _ 0 _ _ _ hg1
  have q2 : W.cell? ⟨g, 2, none⟩ = some (.int .i64 (last + 1)) := cell_of_row _ _ 2 _ _ _ hg1
  have z0 : W.frozen? ⟨g, 0, none⟩ = false := blk_frozen0 hg1 0
  have hgl1 : g < W.heap.size := heap_lt hg1
  have HG1 := Lib.hid hg1
  have HK0 := Lib.hid hk0
  have hB1 : B ≤ W.heap.size := Nat.le_trans hB hk0.size
  clear hW hk0 hg1 c0 c1 c2 f0 f2 hown hd
  have hm1 : (cel l).length = l.length * 2 := cel_len l
  go_region_law
    ((refine step_append_lies _ (by rfl) _ _ _ (by rfl) B 66 i0 _ 2 16 Try.underlying50 hi0 hz0 hz1 hz2 rfl (by omega) (.slice a l.length c) l.length (cel l) (by rfl) ((hown1.alloc _).drew) ⟨W.heap.size, 0, none⟩ 1 1 [_, _] (by rfl) (by rfl) (World.news_of_block (cs := #[_, _]) (t := 66) (fr := (0, 0)) (heap_alloc_new W _)) (by simp [Value.oneCell']) (by omega) (by unfold maxLen; omega) (by omega) (by simp; omega) (W.heap.size + 1) (by simp) ?_; intro gg cap1 w1 hown2 hgrow hat hlt; have d0 : w1.cell? ⟨g, 0, none⟩ = some (.slice a l.length c) := (hgrow.cell_far ⟨g, 0, none⟩ (by simp; omega) hne).trans (cell_drew (cell_alloc q0 _)); have e0 : w1.frozen? ⟨g, 0, none⟩ = false := (hgrow.frozen_far ⟨g, 0, none⟩ (by simp; omega) hne).trans (frozen_drew (frozen_alloc hgl1 z0 _)); have d2 : w1.cell? ⟨g, 2, none⟩ = some (.int .i64 (last + 1)) := (hgrow.cell_far ⟨g, 2, none⟩ (by simp; omega) hne).trans (cell_drew (cell_alloc q2 _)); have HGR := Lib.hid hgrow; have HOWN2 := Lib.hid hown2; clear hown2 hgrow))
  all_goals
    go_wp2
    go_ret2
    have hk1 : Kept (fun k => some k = (Value.slice a l.length c).ownBlock) W w1 := ((Kept.refl _ _).alloc _).drew.grown HGR.out (fun k hk => .inl hk.symm)
    have hggg : gg ≠ g := by
      rintro rfl
      rcases hat with hat | hat
      · exact hne hat.symm
      · omega
    have hws := HK0.out.size
    exact put_end HK0.out HG1.out HOWN2.out hk1 hne hrow hggg hBg (hat.imp id (fun h => by omega))
end Go.Proofs.Yteinjmhogkneoaa
