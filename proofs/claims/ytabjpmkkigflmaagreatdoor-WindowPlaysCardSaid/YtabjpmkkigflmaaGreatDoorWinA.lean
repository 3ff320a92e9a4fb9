/-
  A window, in plain words.
-/
import Derived.Test.YtabjpmkkigflmaaGreatDoorUpdA
namespace Go.Proofs.YtabjpmkkigflmaaGreatDoor
open Go.RowKit
set_option linter.unusedVariables false

/-- A window: the numbers, and the updates that are held. -/
structure Wn where
  low : Nat
  en : Nat
  done : Nat
  l : List Up
/-- What a window is. -/
structure WnOk (x : Wn) : Prop where
  ld : x.low ≤ x.done
  de : x.done ≤ x.en
  top : x.en ≤ 9223372036854775807
  len : x.l.length = x.en - x.low
  few : x.l.length ≤ 5000
  seq : ∀ j, j < x.l.length → (nthU x.l j).q = ((x.low + 1 + j : Nat) : Int)
  fit : FitsU x.l
  small : ∀ u ∈ x.l, u.d.length ≤ 1000000
def newW (a : Nat) : Wn := ⟨a, a, a, []⟩
/-- Where a window's low comes to stand. -/
def lowW (x : Wn) : Nat := max x.low (min x.done (x.en - 32))
def forgetW (x : Wn) : Wn := ⟨lowW x, x.en, x.done, x.l.drop (lowW x - x.low)⟩
def addW (x : Wn) (u : Up) : Wn := forgetW ⟨x.low, x.en + 1, x.done, x.l ++ [u]⟩
def doneW (x : Wn) (d : Nat) : Nat := max x.done (min d x.en)
def reachW (x : Wn) (d : Nat) : Wn := forgetW ⟨x.low, x.en, doneW x d, x.l⟩
/-- The updates behind one number, up to another one. -/
def betW (x : Wn) (a b : Nat) : List Up := (x.l.take (b - x.low)).drop (a - x.low)
def outW (x : Wn) (d : Nat) : List Up := betW x x.done (doneW x d)
theorem betW_len {x : Wn} (h : WnOk x) {a b : Nat} (h1 : x.low ≤ a) (h2 : a ≤ b) (h3 : b ≤ x.en) : (betW x a b).length = b - a := by
  unfold betW
  rw [List.length_drop, List.length_take, h.len]
  omega
theorem betW_mem {x : Wn} {a b : Nat} {u : Up} (h : u ∈ betW x a b) : u ∈ x.l := List.mem_of_mem_take (List.mem_of_mem_drop h)
theorem betW_fit {x : Wn} (h : WnOk x) (a b : Nat) : FitsU (betW x a b) := fun u hu => h.fit u (betW_mem hu)
theorem betW_small {x : Wn} (h : WnOk x) (a b : Nat) : ∀ u ∈ betW x a b, u.d.length ≤ 1000000 := fun u hu => h.small u (betW_mem hu)
theorem nthU_drop (l : List Up) (k j : Nat) : nthU (l.drop k) j = nthU l (k + j) := by
  unfold nthU
  rw [List.getD_eq_getElem?_getD, List.getD_eq_getElem?_getD, List.getElem?_drop]
theorem betW_nth {x : Wn} (h : WnOk x) {a b j : Nat} (h1 : x.low ≤ a) (h3 : b ≤ x.en) (hj : a + j < b) : nthU (betW x a b) j = nthU x.l (a - x.low + j) := by
  unfold betW
  rw [nthU_drop, nthU_take (by omega)]
theorem newW_ok (a : Nat) (h : a ≤ 9223372036854775807) : WnOk (newW a) := by
  refine ⟨Nat.le_refl _, Nat.le_refl _, h, ?_, ?_, ?_, ?_, ?_⟩
  · show 0 = a - a; omega
  · exact Nat.zero_le _
  · intro j hj; exact absurd hj (by show ¬ j < 0; omega)
  · intro x hx; cases hx
  · intro x hx; cases hx
theorem forgetW_ok {x : Wn} (h : WnOk x) : WnOk (forgetW x) := by
  have hl : lowW x ≤ x.done ∧ x.low ≤ lowW x := by
    unfold lowW
    have := h.ld
    omega
  have h2 := h.de
  have h3 := h.len
  refine ⟨hl.1, h.de, h.top, ?_, ?_, ?_, ?_, ?_⟩
  · show (x.l.drop _).length = x.en - lowW x
    rw [List.length_drop, h3]
    omega
  · show (x.l.drop _).length ≤ 5000
    have := h.few
    rw [List.length_drop]
    omega
  · intro j hj
    have hj' : j < (x.l.drop (lowW x - x.low)).length := hj
    rw [List.length_drop] at hj'
    show (nthU (x.l.drop (lowW x - x.low)) j).q = ((lowW x + 1 + j : Nat) : Int)
    rw [nthU_drop, h.seq _ (by omega)]
    congr 1
    omega
  · exact fun u hu => h.fit u (List.mem_of_mem_drop hu)
  · exact fun u hu => h.small u (List.mem_of_mem_drop hu)
theorem nthU_app (l : List Up) (u : Up) (j : Nat) (hj : j < l.length) : nthU (l ++ [u]) j = nthU l j := by
  unfold nthU
  rw [List.getD_eq_getElem?_getD, List.getD_eq_getElem?_getD, List.getElem?_append_left hj]
theorem nthU_last (l : List Up) (u : Up) : nthU (l ++ [u]) l.length = u := by
  unfold nthU
  rw [List.getD_eq_getElem?_getD, List.getElem?_append_right (Nat.le_refl _)]
  simp
/-- With one more update. -/
theorem moreW_ok {x : Wn} (h : WnOk x) {u : Up} (hq : u.q = ((x.en + 1 : Nat) : Int)) (hf : FitU u) (hs : u.d.length ≤ 1000000) (ht : x.en + 1 ≤ 9223372036854775807) (hl : x.l.length < 5000) : WnOk ⟨x.low, x.en + 1, x.done, x.l ++ [u]⟩ := by
  have h2 := h.de
  have h3 := h.len
  have h4 := h.ld
  refine ⟨h.ld, by show x.done ≤ x.en + 1; omega, ht, ?_, ?_, ?_, ?_, ?_⟩
  · show (x.l ++ [u]).length = x.en + 1 - x.low
    rw [List.length_append, h3, List.length_singleton]
    omega
  · show (x.l ++ [u]).length ≤ 5000
    rw [List.length_append, List.length_singleton]
    omega
  · intro j hj
    have hj' : j < (x.l ++ [u]).length := hj
    rw [List.length_append, List.length_singleton] at hj'
    show (nthU (x.l ++ [u]) j).q = ((x.low + 1 + j : Nat) : Int)
    by_cases e : j < x.l.length
    · rw [nthU_app _ _ _ e]
      exact h.seq j e
    · obtain rfl : j = x.l.length := by omega
      rw [nthU_last, hq]
      congr 1
      omega
  · intro y hy
    rcases List.mem_append.1 hy with hy | hy
    · exact h.fit y hy
    · obtain rfl : y = u := by simpa using hy
      exact hf
  · intro y hy
    rcases List.mem_append.1 hy with hy | hy
    · exact h.small y hy
    · obtain rfl : y = u := by simpa using hy
      exact hs
theorem addW_ok {x : Wn} (h : WnOk x) {u : Up} (hq : u.q = ((x.en + 1 : Nat) : Int)) (hf : FitU u) (hs : u.d.length ≤ 1000000) (ht : x.en + 1 ≤ 9223372036854775807) (hl : x.l.length < 5000) : WnOk (addW x u) := forgetW_ok (moreW_ok h hq hf hs ht hl)
theorem doneW_ok {x : Wn} (h : WnOk x) (d : Nat) : WnOk ⟨x.low, x.en, doneW x d, x.l⟩ := by
  have h1 := h.ld
  have h2 := h.de
  refine ⟨?_, ?_, h.top, h.len, h.few, h.seq, h.fit, h.small⟩
  · show x.low ≤ doneW x d; unfold doneW; omega
  · show doneW x d ≤ x.en; unfold doneW; omega
theorem reachW_ok {x : Wn} (h : WnOk x) (d : Nat) : WnOk (reachW x d) := forgetW_ok (doneW_ok h d)
/-! ### the chapter's way: filters -/
/-- Of updates whose numbers follow each other those above a number are the last ones. -/
theorem filter_above (l : List Up) (low k : Nat) (hs : ∀ j, j < l.length → (nthU l j).q = ((low + 1 + j : Nat) : Int)) (hk : low ≤ k) : l.filter (fun u => decide ((k : Int) < u.q)) = l.drop (k - low) := by
  induction l generalizing low with
  | nil => simp
  | cons u l ih =>
    have h0 : u.q = ((low + 1 + 0 : Nat) : Int) := hs 0 (by simp)
    have ht : ∀ j, j < l.length → (nthU l j).q = ((low + 1 + 1 + j : Nat) : Int) := fun j hj => by
      have := hs (j + 1) (by simp only [List.length_cons]; omega)
      rw [show nthU (u :: l) (j + 1) = nthU l j from rfl] at this
      rw [this]
      congr 1
      omega
    by_cases e : k = low
    · subst e
      rw [Nat.sub_self, List.drop_zero]
      refine List.filter_eq_self.2 fun y hy => ?_
      rcases List.mem_cons.1 hy with rfl | hy
      · simp only [decide_eq_true_eq, h0]; omega
      · obtain ⟨j, hj, rfl⟩ := List.getElem_of_mem hy
        have := ht j hj
        rw [nthU_at hj] at this
        simp only [decide_eq_true_eq, this]
        omega
    · rw [List.filter_cons, if_neg (by simp only [decide_eq_true_eq, h0]; omega), ih (low + 1) ht (by omega), show k - low = (k - (low + 1)) + 1 by omega, List.drop_succ_cons]
theorem filter_upto (l : List Up) (low k : Nat) (hs : ∀ j, j < l.length → (nthU l j).q = ((low + 1 + j : Nat) : Int)) (hk : low ≤ k) : l.filter (fun u => decide (u.q ≤ (k : Int))) = l.take (k - low) := by
  induction l generalizing low with
  | nil => simp
  | cons u l ih =>
    have h0 : u.q = ((low + 1 + 0 : Nat) : Int) := hs 0 (by simp)
    have ht : ∀ j, j < l.length → (nthU l j).q = ((low + 1 + 1 + j : Nat) : Int) := fun j hj => by
      have := hs (j + 1) (by simp only [List.length_cons]; omega)
      rw [show nthU (u :: l) (j + 1) = nthU l j from rfl] at this
      rw [this]
      congr 1
      omega
    by_cases e : k = low
    · subst e
      rw [Nat.sub_self, List.take_zero]
      refine List.filter_eq_nil_iff.2 fun y hy => ?_
      rcases List.mem_cons.1 hy with rfl | hy
      · simp only [decide_eq_true_eq, h0]; omega
      · obtain ⟨j, hj, rfl⟩ := List.getElem_of_mem hy
        have := ht j hj
        rw [nthU_at hj] at this
        simp only [decide_eq_true_eq, this]
        omega
    · rw [List.filter_cons, if_pos (by simp only [decide_eq_true_eq, h0]; omega), ih (low + 1) ht (by omega), show k - low = (k - (low + 1)) + 1 by omega, List.take_succ_cons]
/-- What the chapter's Reach tells. -/
theorem out_filter {x : Wn} (h : WnOk x) (d : Nat) : x.l.filter (fun u => decide ((x.done : Int) < u.q) && decide (u.q ≤ (doneW x d : Int))) = outW x d := by
  have h1 := h.ld
  have h2 : x.low ≤ doneW x d := by unfold doneW; omega
  rw [← List.filter_filter, filter_upto x.l x.low (doneW x d) h.seq h2]
  unfold outW betW
  refine filter_above _ x.low x.done (fun j hj => ?_) h1
  rw [List.length_take] at hj
  rw [nthU_take (by omega), h.seq j (by omega)]
theorem kept_filter {x : Wn} (h : WnOk x) : x.l.filter (fun u => decide ((lowW x : Int) < u.q)) = (forgetW x).l :=
  filter_above x.l x.low (lowW x) h.seq (by unfold lowW; omega)
/-- Batch of all that are held, and of those behind a number. -/
theorem selU_skip (after most s : Int) (l m : List Up) (h : ∀ u ∈ l, u.q ≤ after) : selU (batU after most) s (l ++ m) = selU (batU after most) s m := by
  induction l with
  | nil => rfl
  | cons u l ih =>
    have hu : batU after most s u = (false, s) := by
      unfold batU
      rw [if_pos (.inl (h u (by simp)))]
    simp only [List.cons_append, selU, hu]
    exact ih (fun y hy => h y (by simp [hy]))
theorem bat_from {x : Wn} (h : WnOk x) (got : Nat) (most : Int) (h1 : x.low ≤ got) (h2 : got ≤ x.en) : selU (batU got most) 0 (betW x got x.en) = selU (batU got most) 0 x.l := by
  have hl := h.len
  have e : betW x got x.en = x.l.drop (got - x.low) := by
    unfold betW
    rw [List.take_of_length_le (by omega)]
  rw [e]
  have := List.take_append_drop (got - x.low) x.l
  conv => rhs; rw [← this]
  refine (selU_skip _ _ _ _ _ fun u hu => ?_).symm
  obtain ⟨j, hj, rfl⟩ := List.getElem_of_mem hu
  rw [List.length_take] at hj
  rw [List.getElem_take]
  have := h.seq j (by omega)
  rw [nthU_at (by omega)] at this
  rw [this]
  omega
end Go.Proofs.YtabjpmkkigflmaaGreatDoor
