/-
  The walk of BagGoes.
-/
import Derived.Test.YteinjmhogkneoaaBagI
import Derived.LoopTactic
import Derived.Deep.DeepCutAuto
import Derived.Deep.CutRange
namespace Go.Proofs.Yteinjmhogkneoaa
open Go.RowKit Go.Shelf
set_option linter.unusedVariables false
attribute [local go_sem] Oper.semAt_some

/-- The value is a slice of numbers. -/
def ILs (w : World) (v : Value) (l : List Int) : Prop :=
  ∃ a cap, v = .slice a l.length cap ∧ l.length ≤ 9223372036854775807 ∧ (0 < l.length → ∃ b o, a = some ⟨b, o, none⟩ ∧ b < w.heap.size ∧ ∀ j, j < l.length → w.cell? ⟨b, o + j, none⟩ = some (.int .i64 (l.getD j 0)))

/-- The first k numbers as a bag has them that got them one by one. -/
def its (L : List Int) (k : Nat) : List It := (List.range k).map fun (i : Nat) => (((i : Int) + 1, L.getD i 0) : It)
theorem its_len (L : List Int) (k : Nat) : (its L k).length = k := by simp [its]
theorem its_succ (L : List Int) (k : Nat) : its L (k + 1) = its L k ++ [((k : Int) + 1, L.getD k 0)] := by simp [its, List.range_succ]

/-- The variables of BagGoes that lie in memory: the slice, the bound, the result, the bag. -/
def GoBox (w : World) (v : Value) (stop : Int) (b0 b1 b2 b5 g : Nat) (wr : World) : Prop :=
  wr.heap[b0]? = some (.cells #[v] 45 (0, 0)) ∧ wr.heap[b1]? = some (.cells #[.int .u8 stop] 5 (0, 0)) ∧ wr.heap[b2]? = some (.cells #[.bool false] 4 (0, 0)) ∧ wr.heap[b5]? = some (.cells #[.pointer (some ⟨g, 0, none⟩)] 23 (0, 0)) ∧ Kept NoB w wr
theorem GoBox.bag {w wr w' : World} {v : Value} {stop : Int} {b0 b1 b2 b5 g B : Nat} {row : Option Nat} {most last : Int} {l : List It} (h : GoBox w v stop b0 b1 b2 b5 g wr) (hb : Bg B wr g row most last l) (hk : Kept (Tw g row) wr w') (hB : w.heap.size ≤ B) : GoBox w v stop b0 b1 b2 b5 g w' := by
  obtain ⟨h0, h1, h2, h3, h4⟩ := h
  exact ⟨hk.heap (hb.apart h0 (by decide) (by decide)) h0, hk.heap (hb.apart h1 (by decide) (by decide)) h1, hk.heap (hb.apart h2 (by decide) (by decide)) h2, hk.heap (hb.apart h3 (by decide) (by decide)) h3, hb.frame h4 hk hB⟩
theorem GoBox.drew {w wr : World} {v : Value} {stop : Int} {b0 b1 b2 b5 g : Nat} (h : GoBox w v stop b0 b1 b2 b5 g wr) : GoBox w v stop b0 b1 b2 b5 g wr.drew := ⟨h.1, h.2.1, h.2.2.1, h.2.2.2.1, h.2.2.2.2.drew⟩
theorem GoBox.no {w wr w' : World} {v : Value} {stop : Int} {b0 b1 b2 b5 g : Nat} (h : GoBox w v stop b0 b1 b2 b5 g wr) (hk : Kept NoB wr w') : GoBox w v stop b0 b1 b2 b5 g w' := by
  obtain ⟨h0, h1, h2, h3, h4⟩ := h
  exact ⟨hk.heap (fun h => h) h0, hk.heap (fun h => h) h1, hk.heap (fun h => h) h2, hk.heap (fun h => h) h3, h4.trans hk (fun _ _ h => h)⟩

theorem three (w : World) (A B C : Obj) : (((w.alloc A).alloc B).alloc C).heap[w.heap.size]? = some A ∧ (((w.alloc A).alloc B).alloc C).heap[w.heap.size + 1]? = some B ∧ (((w.alloc A).alloc B).alloc C).heap[w.heap.size + 1 + 1]? = some C := by
  have e1 : (w.alloc A).heap.size = w.heap.size + 1 := by simp
  have e2 : ((w.alloc A).alloc B).heap.size = w.heap.size + 1 + 1 := by simp
  have h1 := heap_alloc_new (w.alloc A) B
  have h2 := heap_alloc_new ((w.alloc A).alloc B) C
  rw [e1] at h1
  rw [e2] at h2
  exact ⟨blk_alloc (blk_alloc (heap_alloc_new w A) B) C, blk_alloc h1 C, h2⟩
/-- A cell of whichever kind stays where only blocks that hold no cells turn. -/
theorem kept_of_grown {W W' : World} {row : Option Nat} (h : W.grownBy W' row) : Kept (fun k => some k = row) W W' := ⟨h.os, h.tape, h.output, h.size, fun k hk hn => h.block k hk hn⟩

theorem nc {D : Nat} {W : World} {row : Option Nat} (hr : ∀ r, row = some r → D ≤ r ∧ ∃ o : Obj, W.heap[r]? = some o ∧ o.isCells = false) {k : Nat} {cs : Array Value} {t : TypeId} {fr : Nat × Nat} (h : W.heap[k]? = some (.cells cs t fr)) : ¬ (some k = row) := by
  intro he
  obtain ⟨_, o, ho, hc⟩ := hr k he.symm
  rw [h] at ho
  injection ho with ho
  subst ho
  cases hc
theorem Bg.own {D B : Nat} {W W' : World} {g : Nat} {row rr : Option Nat} {most last : Int} {l : List It} (h : Bg B W g row most last l) (hk : W.grownBy W' rr) (hr : ∀ r, rr = some r → D ≤ r ∧ ∃ o : Obj, W.heap[r]? = some o ∧ o.isCells = false) : Bg B W' g row most last l := by
  obtain ⟨a, c, _, _, _, _, hown, hrow, _, hh⟩ := h.cells
  refine h.kept (kept_of_grown hk) (nc hr hh) (fun r hr' => ?_)
  rcases hown.2 with ⟨hv, _⟩ | ⟨r2, cap, cur, hv, _, hh2, _⟩
  · rw [hv] at hrow; rw [← hrow] at hr'; cases hr'
  · rw [hv] at hrow
    rw [← hrow] at hr'
    injection hr' with hr'
    subst hr'
    exact nc hr hh2
theorem GoBox.own {D : Nat} {w W W' : World} {v : Value} {stop : Int} {b0 b1 b2 b5 g : Nat} {rr : Option Nat} (h : GoBox w v stop b0 b1 b2 b5 g W) (hk : W.grownBy W' rr) (hr : ∀ r, rr = some r → D ≤ r ∧ ∃ o : Obj, W.heap[r]? = some o ∧ o.isCells = false) (hD : w.heap.size ≤ D) : GoBox w v stop b0 b1 b2 b5 g W' := by
  obtain ⟨h0, h1, h2, h3, h4⟩ := h
  have k := kept_of_grown hk
  exact ⟨k.heap (nc hr h0) h0, k.heap (nc hr h1) h1, k.heap (nc hr h2) h2, k.heap (nc hr h3) h3, h4.trans k (fun i hi he => by have := (hr i he.symm).1; omega)⟩

/-- Between two rounds of BagGoes. -/
def GoI (w : World) (v : Value) (stop : Int) (b0 b1 b2 b5 g c b9 : Nat) (L : List Int) (n : Nat) (pre : List It) (W : World) : Prop :=
  (pre = (its L n).take pre.length ∧ pre.length ≤ n ∧ (∃ row l', l'.length = n ∧ Bg w.heap.size W g row 100 ((n : Int) + pre.length) l') ∧ GoBox w v stop b0 b1 b2 b5 g W ∧ W.heap[c]? = some (.cells #[.pointer (some ⟨g, 0, none⟩)] 23 (0, 0)) ∧ W.heap[b9]? = some (.cells #[.int .i64 pre.length] 3 (0, 0)))
theorem GoI.own {D : Nat} {w W W' : World} {v : Value} {stop : Int} {b0 b1 b2 b5 g c b9 n : Nat} {L : List Int} {pre : List It} {rr : Option Nat} (h : GoI w v stop b0 b1 b2 b5 g c b9 L n pre W) (hk : W.grownBy W' rr) (hr : ∀ r, rr = some r → D ≤ r ∧ ∃ o : Obj, W.heap[r]? = some o ∧ o.isCells = false) (hD : w.heap.size ≤ D) : GoI w v stop b0 b1 b2 b5 g c b9 L n pre W' := by
  obtain ⟨h1, h2, ⟨row, l', h3, h4⟩, h5, h6, h7⟩ := h
  have k := kept_of_grown hk
  exact ⟨h1, h2, ⟨row, l', h3, h4.own hk hr⟩, h5.own hk hr hD, k.heap (nc hr h6) h6, k.heap (nc hr h7) h7⟩

theorem its_get (L : List Int) (k i : Nat) (h : i < k) : (its L k)[i]? = some (((i : Int) + 1, L.getD i 0) : It) := by simp [its, h]
theorem its_prefix {L : List Int} {k : Nat} {pre : List It} {no x : Int} (h : pre ++ [(no, x)] <+: its L k) : no = (pre.length : Int) + 1 ∧ x = L.getD pre.length 0 := by
  obtain ⟨t, ht⟩ := h
  have h1 : (its L k)[pre.length]? = some (no, x) := by rw [← ht, List.append_assoc, List.getElem?_append_right (Nat.le_refl _)]; simp
  have hlt : pre.length < k := by
    have := congrArg List.length ht
    rw [its_len] at this
    simp at this
    omega
  rw [its_get L k _ hlt] at h1
  injection h1 with h1
  injection h1 with h1 h2
  exact ⟨h1.symm, h2.symm⟩
theorem Bg.others {B : Nat} {W W' : World} {g : Nat} {row : Option Nat} {most last : Int} {l : List It} (h : Bg B W g row most last l) (hk : Kept (Tw g row) W W') : KeepsOthers W W' := by
  refine ⟨hk.size, fun k o ho hc => hk.heap ?_ ho⟩
  obtain ⟨a, c, _, _, _, _, hown, hrow, _, hh⟩ := h.cells
  rintro (rfl | hr)
  · rw [hh] at ho
    injection ho with ho
    subst ho
    cases hc
  · rcases hown.2 with ⟨hv, _⟩ | ⟨r2, cap, cur, hv, _, hh2, _⟩
    · rw [hv] at hrow; rw [← hrow] at hr; cases hr
    · rw [hv] at hrow
      rw [← hrow] at hr
      injection hr with hr
      subst hr
      rw [hh2] at ho
      injection ho with ho
      subst ho
      cases hc

theorem blk_ne {w : World} {a b : Nat} {c1 c2 : Array Value} {t1 t2 : TypeId} {f1 f2 : Nat × Nat} (h1 : w.heap[a]? = some (.cells c1 t1 f1)) (h2 : w.heap[b]? = some (.cells c2 t2 f2)) (h : t1 ≠ t2) : a ≠ b := by
  rintro rfl
  rw [h1] at h2
  injection h2 with h2
  injection h2 with _ ht
  exact h ht
theorem GoI.step {w w3 : World} {v : Value} {stop : Int} {b0 b1 b2 b5 g c b9 n : Nat} {L : List Int} {pre l' : List It} {row : Option Nat} (hpre : pre = (its L n).take pre.length) (hlt : pre.length < n) (hl : l'.length = n)
    (hb : Bg w.heap.size w3 g row 100 ((n : Int) + pre.length + 1) l') (hg : GoBox w v stop b0 b1 b2 b5 g w3) (hc : w3.heap[c]? = some (.cells #[.pointer (some ⟨g, 0, none⟩)] 23 (0, 0)))
    (hi : w3.heap[b9]? = some (.cells #[.int .i64 pre.length] 3 (0, 0))) (hw : w.heap.size ≤ b9) (D : Nat) :
    GoI w v stop b0 b1 b2 b5 g c b9 L n (pre ++ [((pre.length : Int) + 1, L.getD pre.length 0)]) (w3.setCell ⟨b9, 0, none⟩ (.int .i64 ((pre.length : Int) + 1))) ∧ KeepsOthers w3 (w3.setCell ⟨b9, 0, none⟩ (.int .i64 ((pre.length : Int) + 1))) ∧ KpB D g w3 (w3.setCell ⟨b9, 0, none⟩ (.int .i64 ((pre.length : Int) + 1))) := by
  obtain ⟨_, _, _, _, _, _, hown, hrow, hgl, hh⟩ := hb.cells
  have hk : Kept (One b9) w3 (w3.setCell ⟨b9, 0, none⟩ (.int .i64 ((pre.length : Int) + 1))) := Kept.one (Kept.refl _ _) 0 _
  have hlen : (pre ++ [((pre.length : Int) + 1, L.getD pre.length 0)] : List It).length = pre.length + 1 := by simp
  have hnr : ∀ r, row = some r → ¬ One b9 r := by
    intro r hr h9
    have h9 : r = b9 := h9
    subst h9
    rcases hown.2 with ⟨hv, _⟩ | ⟨r2, cap, cur, hv, _, hh2, _⟩
    · rw [hv] at hrow; rw [← hrow] at hr; cases hr
    · rw [hv] at hrow
      rw [← hrow] at hr
      injection hr with hr
      subst hr
      exact blk_ne hi hh2 (by decide) rfl
  refine ⟨⟨?_, by rw [hlen]; omega, ⟨row, l', hl, ?_⟩, ?_, hk.heap (fun h => blk_ne hc hi (by decide) h) hc, ?_⟩, KeepsOthers.setCell _ _ _, KpB.ofKept hk (fun h => blk_ne hh hi (by decide) h) hgl (fun k cs fr hk h => blk_ne hk hi (by decide) h)⟩
  · rw [hlen, List.take_add_one, its_get L n _ hlt, ← hpre]; rfl
  · rw [hlen]
    have := hb.kept hk (fun h => blk_ne hh hi (by decide) h) hnr
    rw [show ((n : Int) + ((pre.length + 1 : Nat) : Int)) = (n : Int) + pre.length + 1 by omega]
    exact this
  · obtain ⟨h0, h1, h2, h3, h4⟩ := hg
    exact ⟨hk.heap (fun h => blk_ne h0 hi (by decide) h) h0, hk.heap (fun h => blk_ne h1 hi (by decide) h) h1, hk.heap (fun h => blk_ne h2 hi (by decide) h) h2, hk.heap (fun h => blk_ne h3 hi (by decide) h) h3, h4.trans hk (fun i hi' h => by have h : i = b9 := h; omega)⟩
  · rw [hlen]
    exact blk_set hi 0 _

/-- Behind the rounds of BagGoes. -/
def GoE (w : World) (stop : Int) (b1 b2 b5 b9 g D : Nat) (row : Option Nat) (la : Int) (l' : List It) (i : Int) (W : World) : Prop :=
  Bg w.heap.size W g row 100 la l' ∧ W.heap[b1]? = some (.cells #[.int .u8 stop] 5 (0, 0)) ∧ W.heap[b2]? = some (.cells #[.bool false] 4 (0, 0)) ∧ W.heap[b5]? = some (.cells #[.pointer (some ⟨g, 0, none⟩)] 23 (0, 0)) ∧ W.heap[b9]? = some (.cells #[.int .i64 i] 3 (0, 0)) ∧ W.heap[D]? = some (.deferred (some [])) ∧ Kept NoB w W
theorem GoE.no {w W W' : World} {stop la i : Int} {b1 b2 b5 b9 g D : Nat} {row : Option Nat} {l' : List It} (h : GoE w stop b1 b2 b5 b9 g D row la l' i W) (hk : Kept NoB W W') : GoE w stop b1 b2 b5 b9 g D row la l' i W' := by
  obtain ⟨h0, h1, h2, h3, h4, h5, h6⟩ := h
  exact ⟨h0.keptNo hk, hk.heap (fun h => h) h1, hk.heap (fun h => h) h2, hk.heap (fun h => h) h3, hk.heap (fun h => h) h4, hk.heap (fun h => h) h5, h6.trans hk (fun _ _ h => h)⟩
theorem GoE.drew {w W : World} {stop la i : Int} {b1 b2 b5 b9 g D : Nat} {row : Option Nat} {l' : List It} (h : GoE w stop b1 b2 b5 b9 g D row la l' i W) : GoE w stop b1 b2 b5 b9 g D row la l' i W.drew := h.no (Kept.refl _ _).drew
theorem GoE.c {w W : World} {stop la i : Int} {b1 b2 b5 b9 g D : Nat} {row : Option Nat} {l' : List It} (h : GoE w stop b1 b2 b5 b9 g D row la l' i W) :
    W.cell? ⟨b9, 0, none⟩ = some (.int .i64 i) ∧ W.cell? ⟨b1, 0, none⟩ = some (.int .u8 stop) ∧ W.cell? ⟨b5, 0, none⟩ = some (.pointer (some ⟨g, 0, none⟩)) ∧ W.cell? ⟨b2, 0, none⟩ = some (.bool false) ∧ W.frozen? ⟨b2, 0, none⟩ = false :=
  ⟨cell_of_row _ _ 0 _ _ _ h.2.2.2.2.1, cell_of_row _ _ 0 _ _ _ h.2.1, cell_of_row _ _ 0 _ _ _ h.2.2.2.1, cell_of_row _ _ 0 _ _ _ h.2.2.1, blk_frozen0 h.2.2.1 0⟩
theorem GoE.c3 {w W : World} {stop la i : Int} {b1 b2 b5 b9 g D : Nat} {row : Option Nat} {l' : List It} (h : GoE w stop b1 b2 b5 b9 g D row la l' i W) :
    W.cell? ⟨b9, 0, none⟩ = some (.int .i64 i) ∧ W.cell? ⟨b1, 0, none⟩ = some (.int .u8 stop) ∧ W.cell? ⟨b5, 0, none⟩ = some (.pointer (some ⟨g, 0, none⟩)) := ⟨h.c.1, h.c.2.1, h.c.2.2.1⟩
theorem GoE.cs {w W : World} {stop la i : Int} {b1 b2 b5 b9 g D : Nat} {row : Option Nat} {l' : List It} {v : Value} (h : GoE w stop b1 b2 b5 b9 g D row la l' i W) :
    (W.setCell ⟨b2, 0, none⟩ v).cell? ⟨b9, 0, none⟩ = some (.int .i64 i) ∧ (W.setCell ⟨b2, 0, none⟩ v).cell? ⟨b1, 0, none⟩ = some (.int .u8 stop) ∧ (W.setCell ⟨b2, 0, none⟩ v).cell? ⟨b5, 0, none⟩ = some (.pointer (some ⟨g, 0, none⟩)) := by
  obtain ⟨_, h1, h2, h3, h4, _, _⟩ := h
  exact ⟨cell_of_row _ _ 0 _ _ _ (blk_set_other h4 0 v (blk_ne h2 h4 (by decide))), cell_of_row _ _ 0 _ _ _ (blk_set_other h1 0 v (blk_ne h2 h1 (by decide))), cell_of_row _ _ 0 _ _ _ (blk_set_other h3 0 v (blk_ne h2 h3 (by decide)))⟩
theorem goe_len {w W : World} {stop la i : Int} {b1 b2 b5 b9 g D : Nat} {row : Option Nat} {l' : List It} {k : Nat} (hl : l'.length = k) (h : GoE w stop b1 b2 b5 b9 g D row la l' i W) :
    Calls Try.prog 17 #[.pointer (some ⟨g, 0, none⟩)] W fun e W' => e = .returned (.int .i64 k) ∧ GoE w stop b1 b2 b5 b9 g D row la l' i W' :=
  (Len_any _ g row 100 la l' W h.1).mono (by rintro e w' ⟨rfl, rfl⟩; exact ⟨by rw [hl], h⟩)
theorem goe_last {w W : World} {stop la i : Int} {b1 b2 b5 b9 g D : Nat} {row : Option Nat} {l' : List It} (h : GoE w stop b1 b2 b5 b9 g D row la l' i W) :
    Calls Try.prog 11 #[.pointer (some ⟨g, 0, none⟩)] W fun e W' => e = .returned (.int .i64 la) ∧ GoE w stop b1 b2 b5 b9 g D row la l' i W' :=
  (Last_any _ g row 100 la l' W h.1).mono (by rintro e w' ⟨rfl, rfl⟩; exact ⟨rfl, h⟩)
theorem goe_awake {w W : World} {stop la i : Int} {b1 b2 b5 b9 g D : Nat} {row : Option Nat} {l' : List It} (h : GoE w stop b1 b2 b5 b9 g D row la l' i W) :
    Calls Try.prog 10 #[] W fun e W' => e = .returned (.bool true) ∧ GoE w stop b1 b2 b5 b9 g D row la l' i W' :=
  (awake6_any W).mono (by rintro e w' ⟨rfl, hk⟩; exact ⟨rfl, h.no hk⟩)
theorem blk_nd {w : World} {a b : Nat} {c1 : Array Value} {t1 : TypeId} {f1 : Nat × Nat} {o : Obj} (h1 : w.heap[a]? = some (.cells c1 t1 f1)) (h2 : w.heap[b]? = some o) (h : o.isCells = false) : a ≠ b := by
  rintro rfl
  rw [h1] at h2
  injection h2 with h2
  subst h2
  cases h
/-- The end: the result is stored, what was deferred in the rounds (nothing) is taken. -/
theorem GoE.fin {w W : World} {stop la i : Int} {b1 b2 b5 b9 g D : Nat} {row : Option Nat} {l' : List It} (h : GoE w stop b1 b2 b5 b9 g D row la l' i W) (hb : w.heap.size ≤ b2) (hD : w.heap.size ≤ D) :
    (W.setCell ⟨b2, 0, none⟩ (.bool true)).heap[D]? = some (.deferred (some [])) ∧ ((W.setCell ⟨b2, 0, none⟩ (.bool true)).putObj D (.deferred none)).cell? ⟨b2, 0, none⟩ = some (.bool true) ∧ Kept NoB w ((W.setCell ⟨b2, 0, none⟩ (.bool true)).putObj D (.deferred none)) := by
  obtain ⟨_, _, h2, _, _, h5, h6⟩ := h
  have hne := blk_nd h2 h5 rfl
  have e1 := blk_set_other h5 0 (.bool true) hne
  have e2 := blk_set h2 0 (.bool true)
  have k2 : Kept NoB w (W.setCell ⟨b2, 0, none⟩ (.bool true)) := h6.setCell (p := ⟨b2, 0, none⟩) (.inr hb) _
  refine ⟨e1, cell_of_row _ _ 0 _ _ _ ((World.putObj_heap_other hne).trans e2), ?_⟩
  exact kept_of_below ((below_of_kept k2).trans (belowK_b (w := w) (Nat.le_refl _) _ D _ _ hD e1 rfl rfl))
theorem GoE.of {w W : World} {v : Value} {stop : Int} {b0 b1 b2 b5 g c b9 n D : Nat} {L : List Int} {pre : List It} (h : GoI w v stop b0 b1 b2 b5 g c b9 L n pre W) (hD : W.heap[D]? = some (.deferred (some []))) :
    ∃ row l', l'.length = n ∧ GoE w stop b1 b2 b5 b9 g D row ((n : Int) + pre.length) l' pre.length W := by
  obtain ⟨_, _, ⟨row, l', hl, hb⟩, hg, _, hi⟩ := h
  exact ⟨row, l', hl, hb, hg.2.1, hg.2.2.1, hg.2.2.2.1, hi, hD, hg.2.2.2.2⟩

set_option maxRecDepth 100000 in
set_option maxHeartbeats 2000000 in
theorem BagGoes_any (v : Value) (L : List Int) (stop : Int) (w : World) (hs0 : 0 ≤ stop) (hs1 : stop < 256) (hv : ILs w v L) :
    Calls Try.prog 5 #[v, .int .u8 stop] w fun e w' => e = .returned (.bool true) ∧ Kept NoB w w' := by
  obtain ⟨a, cap, rfl, hlm, hc⟩ := hv
  have HC := Lib.hid hc
  clear hc
  refine (callsIn_wide (n := 9)).1 (callsIn_of_wp_marks Try.func5 rfl trivial (wpIn_wide.2 ?_) rfl)
  simp only [Try.ntmps5, List.size_toArray, List.length_cons, List.length_nil, Nat.reduceAdd, Nat.reduceSub, Array.replicate_succ, Array.replicate_zero, List.push_toArray, List.append_toArray, List.nil_append, List.cons_append]
  have hK0 := (((Kept.refl NoB w).alloc (.cells #[.slice a L.length cap] 45)).alloc (.cells #[.int .u8 stop] 5)).alloc (.cells #[.bool false] 4)
  obtain ⟨h30, h31, h32⟩ := three w (.cells #[.slice a L.length cap] 45) (.cells #[.int .u8 stop] 5) (.cells #[.bool false] 4)
  have H30 := Lib.hid h30
  have H31 := Lib.hid h31
  have H32 := Lib.hid h32
  have HK0 := Lib.hid hK0
  obtain ⟨n, hn⟩ : ∃ n : Nat, n = min L.length 40 := ⟨_, rfl⟩
  have hnL : n ≤ L.length := by omega
  have hn40 : n ≤ 40 := by omega
  have HN := Lib.hid hn
  clear hn h30 h31 h32 hK0
  go_wp2_with fail
  refine (BNew_any w.heap.size 100 _ HK0.out.size).mono ?_
  rintro e w1 ⟨rfl, hb1, hk1⟩
  obtain ⟨g, hg⟩ : ∃ g, g = (((w.alloc (.cells #[.slice a L.length cap] 45)).alloc (.cells #[.int .u8 stop] 5)).alloc (.cells #[.bool false] 4)).heap.size := ⟨_, rfl⟩
  rw [← hg] at hb1 ⊢
  rw [show max (100 : Int) 0 = 100 from rfl] at hb1
  have GB := Lib.hid (show GoBox w (.slice a L.length cap) stop w.heap.size (w.heap.size + 1) (w.heap.size + 1 + 1) w1.heap.size g (w1.alloc (.cells #[.pointer (some ⟨g, 0, none⟩)] 23)) from
    ⟨blk_alloc (hk1.heap (fun h => h) H30.out) _, blk_alloc (hk1.heap (fun h => h) H31.out) _, blk_alloc (hk1.heap (fun h => h) H32.out) _, heap_alloc_new w1 _, (HK0.out.trans hk1 (fun _ _ h => h)).alloc _⟩)
  have HB := Lib.hid (hb1.alloc (.cells #[.pointer (some ⟨g, 0, none⟩)] 23))
  have hgw : w.heap.size + 1 + 1 < g := by simp at hg; omega
  clear hb1 hk1 H30 H31 H32 HK0 hg
  go_upto_region 2 with fail
  obtain ⟨W4, hW4⟩ : ∃ W4, W4 = w1.alloc (.cells #[.pointer (some ⟨g, 0, none⟩)] 23) := ⟨_, rfl⟩
  rw [← hW4] at GB HB ⊢
  have q0 : W4.cell? ⟨w.heap.size, 0, none⟩ = some (.slice a L.length cap) := cell_of_row _ _ 0 _ _ _ GB.out.1
  clear hW4
  go_cut [6] from 13 to 15 (fun x wc => x = .int .i64 n ∧ wc = W4)
  case first =>
    go_wp2
    all_goals
      go_meet
      case rel => exact ⟨by have := HN.out; congr 1; omega, rfl⟩
  case rest =>
    obtain ⟨rfl, rfl⟩ := hcut
    obtain ⟨b5, hb5⟩ : ∃ b5, b5 = w1.heap.size := ⟨_, rfl⟩
    rw [← hb5] at GB ⊢
    clear hb5 q0
    have hBs := GB.out.2.2.2.2.size
    go_wp2_with fail
    go_loopw [7] (fun i wr => ∃ k : Nat, i = .int .i64 k ∧ k ≤ n ∧ (∃ row, Bg w.heap.size wr g row 100 k (its L k)) ∧ GoBox w (.slice a L.length cap) stop w.heap.size (w.heap.size + 1) (w.heap.size + 1 + 1) b5 g wr) (fun i _ => n - (intOf i).toNat)
    case atStart => exact ⟨0, rfl, Nat.zero_le _, ⟨none, HB.out⟩, GB.out⟩
    case round =>
      obtain ⟨k, rfl, hk, ⟨row, hbk⟩, hgk⟩ := hrel
      have HBK := Lib.hid hbk
      have HGK := Lib.hid hgk
      clear hbk hgk
      by_cases hlt : k < n
      · obtain ⟨b, o, rfl, hb, hcell⟩ := HC.out (by omega)
        have e := HGK.out.2.2.2.2.cell (p := ⟨b, o + k, none⟩) (fun h => h) (hcell k (by omega))
        obtain ⟨x, hx⟩ : ∃ x, x = L.getD k 0 := ⟨_, rfl⟩
        rw [← hx] at e
        have p0 : wr.cell? ⟨w.heap.size, 0, none⟩ = some (.slice (some ⟨b, o, none⟩) L.length cap) := cell_of_row _ _ 0 _ _ _ HGK.out.1
        have p5 : wr.cell? ⟨b5, 0, none⟩ = some (.pointer (some ⟨g, 0, none⟩)) := cell_of_row _ _ 0 _ _ _ HGK.out.2.2.2.1
        have HX := Lib.hid hx
        have hsz := HGK.out.2.2.2.2.size
        have HBL := Lib.hid hb
        have hkL : (k : Int) < (L.length : Int) := by omega
        clear hx hcell hb
        go_wp2_with fail
        go_region_held3 (fun w' => w'.cell? ⟨w.heap.size, 0, none⟩ = some (.slice (some ⟨b, o, none⟩) L.length cap) ∧ w'.cell? ⟨b5, 0, none⟩ = some (.pointer (some ⟨g, 0, none⟩)) ∧ w'.cell? ⟨b, o + k, none⟩ = some (.int .i64 x))
          (first
            | exact ⟨p0, p5, e⟩
            | exact ⟨cell_drew p0, cell_drew p5, cell_drew e⟩
            | exact ⟨cell_of_row _ _ 0 _ _ _ hg2.1, cell_of_row _ _ 0 _ _ _ hg2.2.2.2.1, hk2.cell (p := ⟨b, o + k, none⟩) hnot (cell_drew e)⟩
            | go_keep)
          (first
            | (go_at_call 12; refine (Put_any w.heap.size g row 100 k (its L k) x _ (HBK.out.drew) (by rw [its_len]; omega) (by rw [its_len]; omega) (by omega) (by omega) hsz).mono ?_; rintro e2 w2 ⟨rfl, row2, hb2, hk2, _⟩; have hg2 := HGK.out.drew.bag HBK.out.drew hk2 (Nat.le_refl _); have hnot : ¬ Tw g row b := HBK.out.low HBL.out))
        go_wp2
        exact ⟨⟨k + 1, by go_num, by omega, ⟨row2, by rw [its_succ, ← HX.out]; exact hb2⟩, hg2⟩, by simp [intOf]; omega⟩
      · obtain rfl : k = n := by omega
        have p5 : wr.cell? ⟨b5, 0, none⟩ = some (.pointer (some ⟨g, 0, none⟩)) := cell_of_row _ _ 0 _ _ _ HGK.out.2.2.2.1
        have hne : ∀ (c : Nat) (w : World), (binOp BinOp.eql 47 (.func (.func 39) #[] #[.pointer (some ⟨c, 0, none⟩)]) .nilFunc).run Try.prog w = .ok (.bool false) w := fun _ _ => rfl
        go_wp2_with fail
        refine (All_any (some ⟨g, 0, none⟩) _).mono ?_
        rintro e w' ⟨rfl, rfl⟩
        have GB5 := HGK.out.no ((Kept.refl NoB wr).alloc (.cells #[.pointer (some ⟨g, 0, none⟩)] 23))
        have GB6 := GB5.no ((Kept.refl NoB _).alloc (.cells #[.int .i64 0] 3))
        have BB6 := (HBK.out.alloc (.cells #[.pointer (some ⟨g, 0, none⟩)] 23)).alloc (.cells #[.int .i64 0] 3)
        have hc6 := blk_alloc (heap_alloc_new wr (.cells #[.pointer (some ⟨g, 0, none⟩)] 23)) (.cells #[.int .i64 0] 3)
        have hi6 := heap_alloc_new (wr.alloc (.cells #[.pointer (some ⟨g, 0, none⟩)] 23)) (.cells #[.int .i64 0] 3)
        rw [show (wr.alloc (.cells #[.pointer (some ⟨g, 0, none⟩)] 23)).heap.size = wr.heap.size + 1 by simp] at hi6
        have GG6 := Lib.hid GB6
        have BG6 := Lib.hid BB6
        have HC6 := Lib.hid hc6
        have HI6 := Lib.hid hi6
        clear GB5 GB6 BB6 hc6 hi6
        go_wp2
        obtain ⟨W6, hW6⟩ : ∃ W6, W6 = (wr.alloc (.cells #[.pointer (some ⟨g, 0, none⟩)] 23)).alloc (.cells #[.int .i64 0] 3) := ⟨_, rfl⟩
        have hD6 : W6.heap.size = wr.heap.size + 1 + 1 := by rw [hW6]; simp
        rw [← hW6] at GG6 BG6 HC6 HI6 ⊢
        have hD7 : wr.heap.size + 1 < W6.heap.size := by omega
        have hwD : w.heap.size ≤ W6.heap.size := GG6.out.2.2.2.2.size
        have hgD : g < W6.heap.size := by obtain ⟨_, _, _, _, _, _, _, _, h, _⟩ := BG6.out.cells; exact h
        clear hW6 hD6
        refine (wpIn_wide (n := 9)).1 ?_
        refine wpIn_rangeFunc_ownF rfl (by omega) (gf := 39) (lb := #[.pointer (some ⟨wr.heap.size, 0, none⟩)]) rfl trivial (enters_of Try.func39 (by kernel_rfl) rfl)
          (stops_bag (cell_of_row _ _ 0 _ _ _ HC6.out) (by omega) BG6.out (by rw [its_len]; omega) (by omega)) (fun h k => h.trans k) (fun W l o o' h1 h2 h3 _ => KpB.put hgD W l o o' h1 h2 h3) (Below.refl _ _) (fun _ => rfl)
          (fun pre W => GoI w (.slice a L.length cap) stop w.heap.size (w.heap.size + 1) (w.heap.size + 1 + 1) b5 g wr.heap.size (wr.heap.size + 1) L k pre W ∧ (pre.length : Int) ≤ stop)
          (fun c pre W => (c = .ret ∧ ¬ pre <+: its L k) ∨ (c = .exit 2 ∧ GoI w (.slice a L.length cap) stop w.heap.size (w.heap.size + 1) (w.heap.size + 1 + 1) b5 g wr.heap.size (wr.heap.size + 1) L k pre W ∧ (pre.length : Int) = stop + 1))
          (fun s A B row hs hg hr => ⟨hs.1.own hg hr hwD, hs.2⟩)
          (fun c s A B row hs hg hr => hs.imp id (fun h => ⟨h.1, h.2.1.own hg hr hwD, h.2.2⟩))
          ⟨⟨rfl, Nat.zero_le _, ⟨row, its L k, its_len L k, by simpa using BG6.out⟩, GG6.out, HC6.out, HI6.out⟩, hs0⟩ ?a1 ?assign ?body ?done ?stop
        case assign =>
          intro l x W K hK
          unfold encI
          gi_wp2
          exact hK
        case body =>
          rintro l pre x W ⟨⟨hpre, hlen, ⟨row', l', hl', hb'⟩, hgb, hcx, hix⟩, hst⟩ hN
          obtain ⟨no, x⟩ := x
          have q0 : W.cell? ⟨w.heap.size, 0, none⟩ = some (.slice a L.length cap) := cell_of_row _ _ 0 _ _ _ hgb.1
          have q1 : W.cell? ⟨w.heap.size + 1, 0, none⟩ = some (.int .u8 stop) := cell_of_row _ _ 0 _ _ _ hgb.2.1
          have q2 : W.cell? ⟨w.heap.size + 1 + 1, 0, none⟩ = some (.bool false) := cell_of_row _ _ 0 _ _ _ hgb.2.2.1
          have q5 : W.cell? ⟨b5, 0, none⟩ = some (.pointer (some ⟨g, 0, none⟩)) := cell_of_row _ _ 0 _ _ _ hgb.2.2.2.1
          have q9 : W.cell? ⟨wr.heap.size + 1, 0, none⟩ = some (.int .i64 pre.length) := cell_of_row _ _ 0 _ _ _ hix
          have z2 : W.frozen? ⟨w.heap.size + 1 + 1, 0, none⟩ = false := blk_frozen0 hgb.2.2.1 0
          have z9 : W.frozen? ⟨wr.heap.size + 1, 0, none⟩ = false := blk_frozen0 hix 0
          have hN' : pre.length < k := by rw [its_len] at hN; exact hN
          obtain ⟨b, o, rfl, hb, hcell⟩ := HC.out (by omega)
          have e := hgb.2.2.2.2.cell (p := ⟨b, o + pre.length, none⟩) (fun h => h) (hcell pre.length (by omega))
          obtain ⟨i, hi⟩ : ∃ i, i = pre.length := ⟨_, rfl⟩
          obtain ⟨y, hy⟩ : ∃ y, y = L.getD pre.length 0 := ⟨_, rfl⟩
          rw [← hy] at e
          rw [← hi] at e q9 hst hN'
          have HI := Lib.hid hi
          have HY := Lib.hid hy
          have HPRE := Lib.hid hpre
          have HBB := Lib.hid hb'
          have HGB := Lib.hid hgb
          have HCX := Lib.hid hcx
          have HIX := Lib.hid hix
          have hiL : (i : Int) < (L.length : Int) := by omega
          have hi1 : (i : Int) < 100 := by omega
          clear hi hy hpre hb' hgb hcx hix hcell hN hlen
          by_cases hno : no = (i : Int) + 1
          · by_cases hx : x = y
            · subst hno hx
              have hk0 : 0 < l'.length := by omega
              have HT := Lib.hid (Take_yes w.heap.size g row' 100 _ l' 0 W HBB.out hk0 (by omega))
              gi_wp2_with fail
              refine ⟨trivial, ?_⟩
              refine (CallsIn.inRound l (callsIn_wide.2 HT.out)).mono ?_
              rintro e2 w2 ⟨rfl, hb2, hk2⟩
              have hg2 := HGB.out.bag HBB.out hk2 (Nat.le_refl _)
              have hc2 := hk2.heap (HBB.out.apart HCX.out (by decide) (by decide)) HCX.out
              have hi2 := hk2.heap (HBB.out.apart HIX.out (by decide) (by decide)) HIX.out
              have r5 : w2.cell? ⟨b5, 0, none⟩ = some (.pointer (some ⟨g, 0, none⟩)) := cell_of_row _ _ 0 _ _ _ hg2.2.2.2.1
              have HB2 := Lib.hid hb2
              have HK2 := Lib.hid hk2
              have HG2 := Lib.hid hg2
              have HC2 := Lib.hid hc2
              have HI2 := Lib.hid hi2
              have he2 : (l'.eraseIdx 0).length = k - 1 := by rw [List.length_eraseIdx, if_pos hk0, hl']
              have HE2 := Lib.hid he2
              have hs2 := hg2.2.2.2.2.size
              clear hb2 hk2 hg2 hc2 hi2 he2
              gi_wp2_with fail
              refine ⟨trivial, ?_⟩
              refine (CallsIn.inRound l (callsIn_wide.2 (Put_any w.heap.size g row' 100 _ (l'.eraseIdx 0) x w2 HB2.out (by rw [HE2.out]; omega) (by rw [HE2.out]; omega) (by have := HI.out; omega) (by have := HI.out; omega) hs2))).mono ?_
              rintro e3 w3 ⟨rfl, row3, hb3, hk3, hr3⟩
              have hg3 := HG2.out.bag HB2.out hk3 (Nat.le_refl _)
              have hc3 := hk3.heap (HB2.out.apart HC2.out (by decide) (by decide)) HC2.out
              have hi3 := hk3.heap (HB2.out.apart HI2.out (by decide) (by decide)) HI2.out
              have r9 : w3.cell? ⟨wr.heap.size + 1, 0, none⟩ = some (.int .i64 i) := by have := cell_of_row w3 _ 0 _ _ _ hi3; rw [HI.out]; exact this
              have z9' : w3.frozen? ⟨wr.heap.size + 1, 0, none⟩ = false := blk_frozen0 hi3 0
              have r1 : w3.cell? ⟨w.heap.size + 1, 0, none⟩ = some (.int .u8 stop) := cell_of_row _ _ 0 _ _ _ hg3.2.1
              have hkw : Kept (Tw g row') W w3 := HK2.out.trans hk3 (fun _ _ h => h)
              have hko := Bg.others HBB.out hkw
              have hkp : KpB W6.heap.size g W w3 := KpB.ofBag HBB.out hb3 hkw (fun r hr => (hr3 r hr).imp id (fun h => by have := HK2.out.size; omega))
              have hstep := GoI.step (v := .slice (some ⟨b, o, none⟩) L.length cap) (stop := stop) (b0 := w.heap.size) (b1 := w.heap.size + 1) (b2 := w.heap.size + 1 + 1) (b5 := b5) (c := wr.heap.size) HPRE.out (by have := HI.out; omega) (by rw [List.length_append, HE2.out]; simp; omega) hb3 hg3 hc3 hi3 (by have := HGK.out.2.2.2.2.size; omega) W6.heap.size
              rw [← HY.out, ← HI.out] at hstep
              have r1' : (w3.setCell ⟨wr.heap.size + 1, 0, none⟩ (.int .i64 ((i : Int) + 1))).cell? ⟨w.heap.size + 1, 0, none⟩ = some (.int .u8 stop) := cell_of_row _ _ 0 _ _ _ hstep.1.2.2.2.1.2.1
              have r9' : (w3.setCell ⟨wr.heap.size + 1, 0, none⟩ (.int .i64 ((i : Int) + 1))).cell? ⟨wr.heap.size + 1, 0, none⟩ = some (.int .i64 ((i : Int) + 1)) := World.cell?_setCell_same' _ _ _ (by rw [r9]; rfl)
              have HSTEP := Lib.hid hstep
              have HKO := Lib.hid hko
              have HKP := Lib.hid hkp
              have hi9 : (i : Int) + 1 ≤ 1000 := by omega
              clear hg3 hc3 hi3 hb3 hk3 hr3 hkw hko hkp hstep
              by_cases hgt : stop < (i : Int) + 1
              · have hgd : decide (stop < (i : Int) + 1) = true := by simpa using hgt
                gi_wp2
                exact ⟨HKO.out.trans HSTEP.out.2.1, .inr ⟨rfl, HSTEP.out.1, by have := HI.out; simp; omega⟩⟩
              · have hgt' : (i : Int) + 1 ≤ stop := by omega
                have hgd : decide (stop < (i : Int) + 1) = false := by simpa using hgt
                gi_wp2
                exact ⟨HKO.out.trans HSTEP.out.2.1, HKP.out.trans HSTEP.out.2.2, HSTEP.out.1, by have := HI.out; simp; omega⟩
            · have hd : (x != y) = true := by simpa using hx
              have hd2 : (no != (i : Int) + 1) = false := by simpa using hno
              have HX := Lib.hid hx
              clear hno hx
              gi_wp2
              exact ⟨by first | exact KeepsOthers.refl _ | exact KeepsOthers.setCell _ _ _, .inl ⟨rfl, fun h => by have := its_prefix h; exact HX.out (by rw [HY.out]; exact this.2)⟩⟩
          · have hd : (no != (i : Int) + 1) = true := by simpa using hno
            have HX := Lib.hid hno
            clear hno
            gi_wp2
            exact ⟨by first | exact KeepsOthers.refl _ | exact KeepsOthers.setCell _ _ _, .inl ⟨rfl, fun h => by have := its_prefix h; exact HX.out (by rw [HI.out]; exact this.1)⟩⟩
        case done =>
          rintro D ys W hDD rfl ⟨hgo, hst⟩ hK
          obtain ⟨rowE, l', hl', hgE⟩ := GoE.of hgo hK
          rw [its_len] at hgE hst
          have HST := Lib.hid hgE
          have hw1 : IntKind.i64.wrap (stop + 1) = stop + 1 := IntWalk.i64_in _ (by omega)
          have hw2 : IntKind.i64.wrap stop = stop := IntWalk.i64_in _ (by omega)
          have hw3 : IntKind.i64.wrap ((k : Int) + (k : Int)) = (k : Int) + (k : Int) := IntWalk.i64_in _ (by omega)
          have hlt1 : (k : Int) < stop + 1 := by omega
          have hlt2 : (k : Int) ≤ stop + 1 := by omega
          have hlt3 : ¬ (stop + 1 < (k : Int)) := by omega
          have hlt4 : ¬ (stop + 1 ≤ (k : Int)) := by omega
          have hlt5 : decide (stop + 1 < (k : Int)) = false := by simpa using hlt2
          have hmin : ∀ (t : Array TypeId) (ty : TypeId) (w : World), (Builtin.min_ t ty #[.int .i64 k, .int .i64 (stop + 1)]).run Try.prog w = .ok (.int .i64 k) w := fun t ty w => by simp [Builtin.min_, Builtin.min2]; omega
          clear hgo hK hgE
          go_wp2_with fail
          go_region_held3 (fun w' => w'.cell? ⟨wr.heap.size + 1, 0, none⟩ = some (.int .i64 ((k : Nat) : Int)) ∧ w'.cell? ⟨w.heap.size + 1, 0, none⟩ = some (.int .u8 stop) ∧ w'.cell? ⟨b5, 0, none⟩ = some (.pointer (some ⟨g, 0, none⟩)))
            (first | exact HST.out.c3 | exact HST.out.drew.c3 | exact HST.out.cs | go_keep)
            (first
              | (go_at_call 17; (with_reducible refine (goe_len hl' (by first | exact HST.out | exact HST.out.drew)).mono ?_); rintro e w6 ⟨rfl, h6⟩; replace HST := Lib.hid h6; clear h6)
              | (go_at_call 11; (with_reducible refine (goe_last (by first | exact HST.out | exact HST.out.drew)).mono ?_); rintro e w6 ⟨rfl, h6⟩; replace HST := Lib.hid h6; clear h6)
              | (go_at_call 10; (with_reducible refine (goe_awake (by first | exact HST.out | exact HST.out.drew)).mono ?_); rintro e w6 ⟨rfl, h6⟩; replace HST := Lib.hid h6; have ys := h6.c.2.2.2.1; have zs := h6.c.2.2.2.2; clear h6))
          all_goals go_wp2
          all_goals
            obtain ⟨e1, e2, e3⟩ := HST.out.fin (by omega) (by omega)
            refine ⟨by simp, .inl ⟨_, _, rfl, run_takeDeferred e1, ?_⟩⟩
            refine ⟨.bool true, ?_, rfl, e3⟩
            simp [results, Try.f5, go_sem, e2]
        case stop =>
          rintro D c2 pre W hDD hpx (⟨rfl, hnp⟩ | ⟨rfl, hgo, hst⟩) hK
          · exact absurd hpx hnp
          have hple := hgo.2.1
          obtain ⟨rowE, l', hl', hgE⟩ := GoE.of hgo hK
          rw [hst] at hgE
          have HST := Lib.hid hgE
          have hw1 : IntKind.i64.wrap (stop + 1) = stop + 1 := IntWalk.i64_in _ (by omega)
          have hw2 : IntKind.i64.wrap stop = stop := IntWalk.i64_in _ (by omega)
          have hw3 : IntKind.i64.wrap ((k : Int) + (stop + 1)) = (k : Int) + (stop + 1) := IntWalk.i64_in _ (by omega)
          have hmin : ∀ (t : Array TypeId) (ty : TypeId) (w : World), (Builtin.min_ t ty #[.int .i64 k, .int .i64 (stop + 1)]).run Try.prog w = .ok (.int .i64 (stop + 1)) w := fun t ty w => by simp [Builtin.min_, Builtin.min2]; omega
          clear hgo hK hgE hst
          refine wpIn_wide.2 ?_
          go_wp2_with fail
          go_region_held3 (fun w' => w'.cell? ⟨wr.heap.size + 1, 0, none⟩ = some (.int .i64 (stop + 1)) ∧ w'.cell? ⟨w.heap.size + 1, 0, none⟩ = some (.int .u8 stop) ∧ w'.cell? ⟨b5, 0, none⟩ = some (.pointer (some ⟨g, 0, none⟩)))
            (first | exact HST.out.c3 | exact HST.out.drew.c3 | exact HST.out.cs | go_keep)
            (first
              | (go_at_call 17; (with_reducible refine (goe_len hl' (by first | exact HST.out | exact HST.out.drew)).mono ?_); rintro e w6 ⟨rfl, h6⟩; replace HST := Lib.hid h6; clear h6)
              | (go_at_call 11; (with_reducible refine (goe_last (by first | exact HST.out | exact HST.out.drew)).mono ?_); rintro e w6 ⟨rfl, h6⟩; replace HST := Lib.hid h6; clear h6)
              | (go_at_call 10; (with_reducible refine (goe_awake (by first | exact HST.out | exact HST.out.drew)).mono ?_); rintro e w6 ⟨rfl, h6⟩; replace HST := Lib.hid h6; have ys := h6.c.2.2.2.1; have zs := h6.c.2.2.2.2; clear h6))
          all_goals go_wp2
          all_goals
            obtain ⟨e1, e2, e3⟩ := HST.out.fin (by omega) (by omega)
            refine ⟨by simp, .inl ⟨_, _, rfl, run_takeDeferred e1, ?_⟩⟩
            refine ⟨.bool true, ?_, rfl, e3⟩
            simp [results, Try.f5, go_sem, e2]
end Go.Proofs.Yteinjmhogkneoaa
