/-
  Package bag: a bag in memory; New, has, At, No, Len, Last, Set.
-/
import Derived.Test.YteinjmhogkneoaaProg
import Derived.Test.YteinjmhogkneoaaBase
import Derived.WalkKit
import Derived.WalkSpells
import Derived.WalkLawsBesides
import Derived.RegionTactic
import Derived.BigRegion
import Derived.Deep.QuietTactic
import Derived.BigQuiet
import Derived.Deep.RegionHeld3
import Derived.Deep.RegionLaw
import Derived.Deep.DeepMust
import Derived.Lib.Hide
import Derived.Outline
import Derived.KernelRfl
namespace Go.Proofs.Yteinjmhogkneoaa
open Go.RowKit
set_option linter.unusedVariables false

/-- An item: its number, its value. -/
abbrev It := Int × Int
def cel (l : List It) : List Value := l.flatMap fun x => [.int .i64 x.1, .int .i64 x.2]
def nth (l : List It) (i : Nat) : It := l.getD i (0, 0)
theorem cel_cons (x : It) (l : List It) : cel (x :: l) = .int .i64 x.1 :: .int .i64 x.2 :: cel l := by simp [cel]
theorem cel_app (l m : List It) : cel (l ++ m) = cel l ++ cel m := by simp [cel]
theorem cel_len (l : List It) : (cel l).length = l.length * 2 := by
  induction l with
  | nil => rfl
  | cons x l ih => rw [cel_cons]; simp only [List.length_cons, ih]; omega
theorem nth_lt {l : List It} {i : Nat} (h : i < l.length) : l[i]? = some (nth l i) := by
  unfold nth; rw [List.getD_eq_getElem?_getD, List.getElem?_eq_getElem h]; rfl
theorem cel_at (l : List It) (i : Nat) (h : i < l.length) : (cel l)[i * 2]? = some (.int .i64 (nth l i).1) ∧ (cel l)[i * 2 + 1]? = some (.int .i64 (nth l i).2) := by
  induction l generalizing i with
  | nil => simp at h
  | cons x l ih =>
    rw [cel_cons]
    cases i with
    | zero => exact ⟨rfl, rfl⟩
    | succ i =>
      have h' := ih i (by simp at h; omega)
      rw [show (i + 1) * 2 = i * 2 + 1 + 1 by omega, show i * 2 + 1 + 1 + 1 = i * 2 + 1 + 1 + 1 from rfl]
      simp only [List.getElem?_cons_succ]
      exact h'

/-- A bag's own block, and the block of its items. -/
def Tw (g : Nat) (row : Option Nat) : Nat → Prop := fun k => k = g ∨ some k = row
/-- Block g is a bag of at most most items, which gave the numbers up to last; it has these items, in the block row. All that is its own lies from B on. -/
def Bg (B : Nat) (w : World) (g : Nat) (row : Option Nat) (most last : Int) (l : List It) : Prop :=
  B ≤ g ∧ ∃ a c, (Value.slice a l.length c).ownBlock = row ∧ w.heap[g]? = some (.cells #[.slice a l.length c, .int .i64 most, .int .i64 last] 52 (0, 0)) ∧ w.ownsRow B 66 2 (.slice a l.length c) l.length (cel l)

theorem row_kept {S : Nat → Prop} {w w' : World} {B e size n : Nat} {v : Value} {xs : List Value} (hown : w.ownsRow B e size v n xs) (hk : Kept S w w') (hs : ∀ k, v.ownBlock = some k → ¬ S k) : w'.ownsRow B e size v n xs := by
  refine ⟨hown.1, ?_⟩
  rcases hown.2 with hn | ⟨r, cap, cur, rfl, hb, hr, rest⟩
  · exact .inl hn
  · exact .inr ⟨r, cap, cur, rfl, hb, hk.heap (hs r rfl) hr, rest⟩
theorem Bg.kept {S : Nat → Prop} {B : Nat} {w w' : World} {g : Nat} {row : Option Nat} {most last : Int} {l : List It} (h : Bg B w g row most last l) (hk : Kept S w w') (hg : ¬ S g) (hr : ∀ r, row = some r → ¬ S r) : Bg B w' g row most last l := by
  obtain ⟨hB, a, c, h1, h2, h3⟩ := h
  exact ⟨hB, a, c, h1, hk.heap hg h2, row_kept h3 hk (fun k hk => hr k (h1 ▸ hk))⟩
theorem Bg.keptNo {B : Nat} {w w' : World} {g : Nat} {row : Option Nat} {most last : Int} {l : List It} (h : Bg B w g row most last l) (hk : Kept NoB w w') : Bg B w' g row most last l := h.kept hk (fun h => h) (fun _ _ h => h)
theorem Bg.drewN {B : Nat} {w : World} {g : Nat} {row : Option Nat} {most last : Int} {l : List It} (h : Bg B w g row most last l) (n : Nat) : Bg B (w.drewN n) g row most last l := h
theorem Bg.drew {B : Nat} {w : World} {g : Nat} {row : Option Nat} {most last : Int} {l : List It} (h : Bg B w g row most last l) : Bg B w.drew g row most last l := h
theorem Bg.alloc {B : Nat} {w : World} {g : Nat} {row : Option Nat} {most last : Int} {l : List It} (h : Bg B w g row most last l) (o : Obj) : Bg B (w.alloc o) g row most last l := h.keptNo ((Kept.refl NoB w).alloc o)
/-- A block of another type is none of a bag's. -/
theorem Bg.apart {B : Nat} {w : World} {g : Nat} {row : Option Nat} {most last : Int} {l : List It} (h : Bg B w g row most last l) {k t : Nat} {cs : Array Value} {fr : Nat × Nat} (hk : w.heap[k]? = some (.cells cs t fr)) (h1 : t ≠ 52) (h2 : t ≠ 66) : ¬ Tw g row k := by
  obtain ⟨hB, a, c, hr, hg, hown⟩ := h
  rintro (rfl | hrow)
  · rw [hg] at hk
    injection hk with hk
    injection hk with _ ht
    exact h1 ht.symm
  · rw [← hr] at hrow
    exact own_ne hown hk h2.symm hrow
theorem Bg.low {B : Nat} {w : World} {g : Nat} {row : Option Nat} {most last : Int} {l : List It} (h : Bg B w g row most last l) {k : Nat} (hk : k < B) : ¬ Tw g row k := by
  obtain ⟨hB, a, c, hr, hg, hown⟩ := h
  rintro (rfl | hrow)
  · omega
  · rw [← hr] at hrow
    have := (hown.lt k hrow.symm).1
    omega
/-- What is kept but for a bag's own blocks is kept of all that lay below B. -/
theorem Bg.frame {B : Nat} {w0 w w' : World} {g : Nat} {row : Option Nat} {most last : Int} {l : List It} (h : Bg B w g row most last l) (h0 : Kept NoB w0 w) (hk : Kept (Tw g row) w w') (hB : w0.heap.size ≤ B) : Kept NoB w0 w' :=
  h0.trans hk (fun i hi ht => h.low (Nat.lt_of_lt_of_le hi hB) ht)
theorem Bg.cells {B : Nat} {w : World} {g : Nat} {row : Option Nat} {most last : Int} {l : List It} (h : Bg B w g row most last l) :
    ∃ a c, w.cell? ⟨g, 0, none⟩ = some (.slice a l.length c) ∧ w.cell? ⟨g, 1, none⟩ = some (.int .i64 most) ∧ w.cell? ⟨g, 2, none⟩ = some (.int .i64 last) ∧ (∀ o, w.frozen? ⟨g, o, none⟩ = false) ∧ w.ownsRow B 66 2 (.slice a l.length c) l.length (cel l) ∧
      (Value.slice a l.length c).ownBlock = row ∧ g < w.heap.size ∧ w.heap[g]? = some (.cells #[.slice a l.length c, .int .i64 most, .int .i64 last] 52 (0, 0)) := by
  obtain ⟨hB, a, c, hr, hg, hown⟩ := h
  exact ⟨a, c, cell_of_row w g 0 _ _ _ hg, cell_of_row w g 1 _ _ _ hg, cell_of_row w g 2 _ _ _ hg, fun o => by simp [World.frozen?, hg], hown, hr, heap_lt hg, hg⟩
/-- The items' own cells. -/
theorem Bg.items {B : Nat} {w : World} {l : List It} {a : Option Addr} {c : Nat} (h : w.ownsRow B 66 2 (.slice a l.length c) l.length (cel l)) (h0 : 0 < l.length) :
    ∃ r, a = some ⟨r, 0, none⟩ ∧ B ≤ r ∧ r < w.heap.size ∧ (∀ i, i < l.length → w.cell? ⟨r, i * 2, none⟩ = some (.int .i64 (nth l i).1) ∧ w.cell? ⟨r, i * 2 + 1, none⟩ = some (.int .i64 (nth l i).2)) ∧ (∀ o, w.frozen? ⟨r, o, none⟩ = false) ∧ l.length ≤ c ∧ c ≤ maxLen ∧
      ∃ cur, w.heap[r]? = some (.cells cur 66 (0, 0)) ∧ cur.size = c * 2 ∧ cur.toList.take (l.length * 2) = cel l := by
  obtain ⟨r, cap, hv, hB, hlt⟩ := h.form h0
  injection hv with hv
  subst hv
  refine ⟨r, rfl, hB, hlt, fun i hi => ?_, fun o => h.frozenAt o, ?_⟩
  · obtain ⟨h1, h2⟩ := cel_at l i hi
    exact ⟨(h.cellAt (i * 2) (by omega)).trans h1, (h.cellAt (i * 2 + 1) (by omega)).trans h2⟩
  · rcases h.2 with ⟨hn, _⟩ | ⟨r', cap', cur, hv, _, hh, h1, h2, h3, h4⟩
    · cases hn
    · injection hv with hv1 hv2 hv3
      injection hv1 with hv1
      injection hv1 with hv1
      subst hv1 hv3
      exact ⟨h1, h2, cur, hh, h3, h4⟩

theorem BNew_any (B : Nat) (most : Int) (w : World) (hB : B ≤ w.heap.size) : Calls Try.prog 7 #[.int .i64 most] w fun e w' => e = .returned (.pointer (some ⟨w.heap.size, 0, none⟩)) ∧ Bg B w' w.heap.size none (max most 0) 0 [] ∧ Kept NoB w w' := by
  by_cases hm : 0 ≤ most
  · rw [show max most 0 = most by omega]
    go_enter Try.func7, Try.ntmps7
    go_wp2
    all_goals first
      | (go_ret; exact ⟨rfl, ⟨hB, none, 0, rfl, heap_alloc_new w _, World.ownsRow_nil _ _ _ _⟩, (Kept.refl _ _).alloc _⟩)
      | (obtain rfl : most = 0 := by omega
         go_ret
         exact ⟨rfl, ⟨hB, none, 0, rfl, heap_alloc_new w _, World.ownsRow_nil _ _ _ _⟩, (Kept.refl _ _).alloc _⟩)
  · rw [show max most 0 = 0 by omega]
    have hm' : most < 0 := by omega
    clear hm
    go_enter Try.func7, Try.ntmps7
    go_wp2
    all_goals first
      | (go_ret; exact ⟨rfl, ⟨hB, none, 0, rfl, heap_alloc_new w _, World.ownsRow_nil _ _ _ _⟩, (Kept.refl _ _).alloc _⟩)
      | (exfalso; omega)
theorem has_yes (B g : Nat) (row : Option Nat) (most last : Int) (l : List It) (i : Nat) (w : World) (h : Bg B w g row most last l) (hi : i < l.length) :
    Calls Try.prog 36 #[.pointer (some ⟨g, 0, none⟩), .int .i64 i] w fun e w' => e = .returned (.bool true) ∧ w = w' := by
  obtain ⟨a, c, c0, _⟩ := h.cells
  clear h
  go_enter Try.func36, Try.ntmps36
  go_wp2
  go_ret
  exact ⟨rfl, rfl⟩
theorem has_no (B g : Nat) (row : Option Nat) (most last : Int) (l : List It) (i : Int) (w : World) (h : Bg B w g row most last l) (hi : i < 0 ∨ (l.length : Int) ≤ i) :
    Calls Try.prog 36 #[.pointer (some ⟨g, 0, none⟩), .int .i64 i] w fun e w' => e = .returned (.bool false) ∧ w = w' := by
  obtain ⟨a, c, c0, _⟩ := h.cells
  clear h
  by_cases h0 : i < 0
  · clear hi
    go_enter Try.func36, Try.ntmps36
    go_wp2
    go_ret
    exact ⟨rfl, rfl⟩
  · have h1 : (l.length : Int) ≤ i := by omega
    have h2 : 0 ≤ i := by omega
    have h3 : decide (i < (l.length : Int)) = false := by simpa using h1
    clear hi h0
    go_enter Try.func36, Try.ntmps36
    go_wp2
    go_ret
    exact ⟨rfl, rfl⟩
theorem At_yes (B g : Nat) (row : Option Nat) (most last : Int) (l : List It) (i : Nat) (w : World) (h : Bg B w g row most last l) (hi : i < l.length) :
    Calls Try.prog 21 #[.pointer (some ⟨g, 0, none⟩), .int .i64 i] w fun e w' => e = .returned (.tuple #[.int .i64 (nth l i).2, .bool true]) ∧ w = w' := by
  have HB := Lib.hid h
  obtain ⟨a, c, c0, _, _, _, hown, _⟩ := h.cells
  obtain ⟨r, rfl, _, _, hc, _⟩ := Bg.items hown (by omega)
  obtain ⟨e0, e1⟩ := hc i hi
  obtain ⟨x, hx⟩ : ∃ x, x = (nth l i).2 := ⟨_, rfl⟩
  rw [← hx] at e1 ⊢
  clear h hc hown e0 hx
  go_enter Try.func21, Try.ntmps21
  go_wp2_with fail
  refine (has_yes B g row most last l i _ HB.out hi).mono ?_
  rintro e w' ⟨rfl, rfl⟩
  go_wp2
  go_ret2
  exact ⟨rfl, rfl⟩
theorem At_no (B g : Nat) (row : Option Nat) (most last : Int) (l : List It) (i : Int) (w : World) (h : Bg B w g row most last l) (hi : i < 0 ∨ (l.length : Int) ≤ i) :
    Calls Try.prog 21 #[.pointer (some ⟨g, 0, none⟩), .int .i64 i] w fun e w' => e = .returned (.tuple #[.int .i64 0, .bool false]) ∧ w = w' := by
  have HN := Lib.hid (has_no B g row most last l i w h hi)
  clear h hi
  go_enter Try.func21, Try.ntmps21
  go_wp2_with fail
  refine HN.out.mono ?_
  rintro e w' ⟨rfl, rfl⟩
  go_wp2
  go_ret2
  exact ⟨rfl, rfl⟩
theorem No_yes (B g : Nat) (row : Option Nat) (most last : Int) (l : List It) (i : Nat) (w : World) (h : Bg B w g row most last l) (hi : i < l.length) :
    Calls Try.prog 18 #[.pointer (some ⟨g, 0, none⟩), .int .i64 i] w fun e w' => e = .returned (.int .i64 (nth l i).1) ∧ w = w' := by
  have HB := Lib.hid h
  obtain ⟨a, c, c0, _, _, _, hown, _⟩ := h.cells
  obtain ⟨r, rfl, _, _, hc, _⟩ := Bg.items hown (by omega)
  obtain ⟨e0, e1⟩ := hc i hi
  obtain ⟨x, hx⟩ : ∃ x, x = (nth l i).1 := ⟨_, rfl⟩
  rw [← hx] at e0 ⊢
  clear h hc hown e1 hx
  go_enter Try.func18, Try.ntmps18
  go_wp2_with fail
  refine (has_yes B g row most last l i _ HB.out hi).mono ?_
  rintro e w' ⟨rfl, rfl⟩
  go_wp2
  go_ret
  exact ⟨rfl, rfl⟩
theorem No_no (B g : Nat) (row : Option Nat) (most last : Int) (l : List It) (i : Int) (w : World) (h : Bg B w g row most last l) (hi : i < 0 ∨ (l.length : Int) ≤ i) :
    Calls Try.prog 18 #[.pointer (some ⟨g, 0, none⟩), .int .i64 i] w fun e w' => e = .returned (.int .i64 0) ∧ w = w' := by
  have HN := Lib.hid (has_no B g row most last l i w h hi)
  clear h hi
  go_enter Try.func18, Try.ntmps18
  go_wp2_with fail
  refine HN.out.mono ?_
  rintro e w' ⟨rfl, rfl⟩
  go_wp2
  go_ret
  exact ⟨rfl, rfl⟩
theorem Len_any (B g : Nat) (row : Option Nat) (most last : Int) (l : List It) (w : World) (h : Bg B w g row most last l) :
    Calls Try.prog 17 #[.pointer (some ⟨g, 0, none⟩)] w fun e w' => e = .returned (.int .i64 l.length) ∧ w = w' := by
  obtain ⟨a, c, c0, _⟩ := h.cells
  clear h
  go_enter Try.func17, Try.ntmps17
  go_wp2
  go_ret
  exact ⟨rfl, rfl⟩
theorem Last_any (B g : Nat) (row : Option Nat) (most last : Int) (l : List It) (w : World) (h : Bg B w g row most last l) :
    Calls Try.prog 11 #[.pointer (some ⟨g, 0, none⟩)] w fun e w' => e = .returned (.int .i64 last) ∧ w = w' := by
  obtain ⟨a, c, _, _, c2, _⟩ := h.cells
  clear h
  go_enter Try.func11, Try.ntmps11
  go_wp2
  go_ret
  exact ⟨rfl, rfl⟩
end Go.Proofs.Yteinjmhogkneoaa
