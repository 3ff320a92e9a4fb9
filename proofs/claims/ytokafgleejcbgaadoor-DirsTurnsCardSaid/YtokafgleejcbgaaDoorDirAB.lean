/-
  Layer 29: entries with one more, without one, plainly.
-/
import Derived.Test.YtokafgleejcbgaaDoorDirAA
namespace Go.Proofs.YtokafgleejcbgaaDoor
open Go.RowKit
set_option linter.unusedVariables false

theorem bl29_trans : ∀ x y z : List UInt8, Op.bytesLess x y = true → Op.bytesLess y z = true → Op.bytesLess x z = true
  | _, [], _ => fun h => by cases ‹List UInt8› <;> simp [Op.bytesLess] at h
  | _, _ :: _, [] => fun _ h => by simp [Op.bytesLess] at h
  | [], _ :: _, _ :: _ => fun _ _ => rfl
  | a :: x, b :: y, c :: z => fun h1 h2 => by
    have ih := bl29_trans x y z
    simp only [Op.bytesLess, Bool.or_eq_true, Bool.and_eq_true, decide_eq_true_eq, beq_iff_eq] at h1 h2 ⊢
    rcases h1 with h1 | ⟨h1, h1'⟩
    · rcases h2 with h2 | ⟨h2, h2'⟩
      · exact .inl (UInt8.lt_trans h1 h2)
      · subst h2; exact .inl h1
    · subst h1
      rcases h2 with h2 | ⟨h2, h2'⟩
      · exact .inl h2
      · exact .inr ⟨h2, ih h1' h2'⟩
/-- One name stands ahead of another. -/
abbrev bl29 (x y : List UInt8) : Prop := Op.bytesLess x y = true
theorem leq29_false {x y : List UInt8} (h : leq29 x y = false) : bl29 y x := by
  unfold leq29 at h
  have := bl29_tri y x
  rw [h] at this
  simpa using this
theorem leq29_of {x y : List UInt8} (h : bl29 y x) : leq29 x y = false := by
  unfold leq29
  have := bl29_tri y x
  rw [← this, h]
  rfl
/-- The names of entries that may be rise. -/
theorem goE_rise {l : List En} : ∀ {prev : List UInt8}, goE prev l = 0 → (∀ p ∈ l, bl29 prev p.1) ∧ l.Pairwise (fun a b => bl29 a.1 b.1) := by
  induction l with
  | nil => intro prev _; exact ⟨(fun _ h => by cases h), List.Pairwise.nil⟩
  | cons q l ih =>
    intro prev h
    rw [goE] at h
    by_cases hs : stepE prev q = 0
    · rw [if_pos hs] at h
      obtain ⟨h1, h2⟩ := ih h
      have h0 := leq29_false (stepE_zero hs).2
      refine ⟨fun p hp => ?_, List.pairwise_cons.2 ⟨h1, h2⟩⟩
      rcases List.mem_cons.1 hp with rfl | hp
      · exact h0
      · exact bl29_trans _ _ _ h0 (h1 p hp)
    · rw [if_neg hs] at h; exact absurd h hs
theorem goE_of {l : List En} : ∀ {prev : List UInt8}, (∀ p ∈ l, bl29 prev p.1) → l.Pairwise (fun a b => bl29 a.1 b.1) → (∀ p ∈ l, oneE p = 0) → goE prev l = 0 := by
  induction l with
  | nil => intro prev _ _ _; rfl
  | cons q l ih =>
    intro prev h1 h2 h3
    rw [goE]
    have hs : stepE prev q = 0 := by
      unfold stepE
      rw [if_neg (fun h => h (h3 q (by simp))), if_neg (by rw [leq29_of (h1 q (by simp))]; simp)]
    rw [if_pos hs]
    exact ih (List.pairwise_cons.1 h2).1 (List.pairwise_cons.1 h2).2 (fun p hp => h3 p (by simp [hp]))
theorem chkE_rise {l : List En} (h : chkE l = 0) : l.Pairwise (fun a b => bl29 a.1 b.1) ∧ ∀ p ∈ l, oneE p = 0 := by
  obtain ⟨_, h2, _⟩ := chkE_zero h
  exact ⟨(goE_rise h2).2, goE_zero h2⟩
theorem bl29_nil {x : List UInt8} (h : nmOk x) : bl29 [] x := by
  cases x with
  | nil => exact absurd h.1.1 (by simp)
  | cons a r => rfl
theorem chkE_of {l : List En} (h0 : l.length ≤ 32) (h1 : l.Pairwise (fun a b => bl29 a.1 b.1)) (h2 : ∀ p ∈ l, oneE p = 0) : chkE l = 0 := by
  unfold chkE
  rw [if_neg (by omega)]
  exact goE_of (fun p hp => bl29_nil (oneE_zero (h2 p hp)).1) h1 h2
theorem bl29_ne {x y : List UInt8} (h : bl29 x y) : x ≠ y := by
  intro e
  subst e
  have := bl29_irr x
  rw [h] at this
  cases this
/-- Without the entry of that name. -/
def remE (n : List UInt8) (l : List En) : Int × List En :=
  if chkE l ≠ 0 then (chkE l, []) else if l.any (nmIs n) = true then (0, l.take (l.findIdx (nmIs n)) ++ l.drop (l.findIdx (nmIs n) + 1)) else (13, [])
/-- What the chapter's loop keeps. -/
theorem filter_rem29 {l : List En} {n : List UInt8} (h : l.Pairwise (fun a b => bl29 a.1 b.1)) : l.filter (fun p => !nmIs n p) = if l.any (nmIs n) = true then l.take (l.findIdx (nmIs n)) ++ l.drop (l.findIdx (nmIs n) + 1) else l := by
  induction l with
  | nil => rfl
  | cons q l ih =>
    obtain ⟨h1, h2⟩ := List.pairwise_cons.1 h
    by_cases hq : nmIs n q = true
    · have hn : ∀ p ∈ l, nmIs n p = false := fun p hp => by
        have := h1 p hp
        unfold nmIs at hq ⊢
        rw [beq_iff_eq] at hq
        rw [hq] at this
        exact beq_eq_false_iff_ne.2 (fun e => bl29_ne this e.symm)
      have hf : l.filter (fun p => !nmIs n p) = l := List.filter_eq_self.2 (fun p hp => by rw [hn p hp]; rfl)
      simp [hq, List.findIdx_cons, hf]
    · have hq : nmIs n q = false := Bool.eq_false_iff.2 hq
      rw [List.filter_cons, hq]
      simp only [Bool.not_false, if_true, List.any_cons, hq, Bool.false_or]
      rw [ih h2]
      by_cases ha : l.any (nmIs n) = true
      · rw [if_pos ha, if_pos ha]
        simp [List.findIdx_cons, hq]
      · rw [if_neg ha, if_neg ha]
/-- Where an entry goes. -/
def aftE (x : List UInt8) (l : List En) : Nat := l.findIdx (fun y => !Op.bytesLess y.1 x)
def insE (x : En) : List En → List En
  | [] => [x]
  | y :: l => if Op.bytesLess y.1 x.1 = true then y :: insE x l else x :: y :: l
theorem insE_eq (x : En) (l : List En) : insE x l = l.take (aftE x.1 l) ++ x :: l.drop (aftE x.1 l) := by
  induction l with
  | nil => rfl
  | cons y l ih =>
    unfold aftE at ih ⊢
    rw [insE, List.findIdx_cons]
    by_cases h : Op.bytesLess y.1 x.1 = true
    · rw [if_pos h, h, ih]; simp
    · rw [if_neg h, Bool.eq_false_iff.2 h]; simp
theorem insE_len (x : En) (l : List En) : (insE x l).length = l.length + 1 := by
  induction l with
  | nil => rfl
  | cons y l ih => rw [insE]; split <;> simp [ih]
theorem insE_mem (x : En) (l : List En) (p : En) : p ∈ insE x l ↔ p = x ∨ p ∈ l := by
  induction l with
  | nil => simp [insE]
  | cons y l ih =>
    rw [insE]
    split
    · simp only [List.mem_cons, ih]
      constructor
      · rintro (h | h | h)
        · exact .inr (.inl h)
        · exact .inl h
        · exact .inr (.inr h)
      · rintro (h | h | h)
        · exact .inr (.inl h)
        · exact .inl h
        · exact .inr (.inr h)
    · simp
theorem insE_rise (x : En) (l : List En) (h : l.Pairwise (fun a b => bl29 a.1 b.1)) (hn : ∀ p ∈ l, p.1 ≠ x.1) : (insE x l).Pairwise (fun a b => bl29 a.1 b.1) := by
  induction l with
  | nil => exact List.pairwise_singleton _ _
  | cons y l ih =>
    obtain ⟨h1, h2⟩ := List.pairwise_cons.1 h
    rw [insE]
    by_cases hy : Op.bytesLess y.1 x.1 = true
    · rw [if_pos hy]
      refine List.pairwise_cons.2 ⟨fun p hp => ?_, ih h2 (fun p hp => hn p (by simp [hp]))⟩
      rcases (insE_mem x l p).1 hp with rfl | hp
      · exact hy
      · exact h1 p hp
    · rw [if_neg hy]
      have hxy : bl29 x.1 y.1 := by
        have h3 := bl29_tri y.1 x.1
        rw [Bool.eq_false_iff.2 hy] at h3
        have h4 : (x.1 == y.1) = false := beq_eq_false_iff_ne.2 (fun e => hn y (by simp) e.symm)
        rw [h4, Bool.or_false] at h3
        exact h3.symm
      refine List.pairwise_cons.2 ⟨fun p hp => ?_, h⟩
      rcases List.mem_cons.1 hp with rfl | hp
      · exact hxy
      · exact bl29_trans _ _ _ hxy (h1 p hp)
theorem insE_filter (x : En) (l : List En) (hn : ∀ p ∈ l, p.1 ≠ x.1) : (insE x l).filter (fun p => !nmIs x.1 p) = l := by
  have hno : ∀ p ∈ l, (!nmIs x.1 p) = true := fun p hp => by unfold nmIs; rw [beq_eq_false_iff_ne.2 (hn p hp)]; rfl
  have hx : (!nmIs x.1 x) = false := by unfold nmIs; simp
  induction l with
  | nil => rw [insE, List.filter_cons, hx]; rfl
  | cons y l ih =>
    rw [insE]
    by_cases hy : Op.bytesLess y.1 x.1 = true
    · rw [if_pos hy, List.filter_cons, hno y (by simp), if_pos rfl, ih (fun p hp => hn p (by simp [hp])) (fun p hp => hno p (by simp [hp]))]
    · rw [if_neg hy, List.filter_cons, hx, if_neg (by decide)]
      exact List.filter_eq_self.2 hno
/-- With one more. -/
def addE (x : En) (l : List En) : Int × List En :=
  if chkE l ≠ 0 then (chkE l, []) else if oneE x ≠ 0 then (oneE x, []) else if l.any (nmIs x.1) = true then (8, []) else if l.length = 32 then (17, []) else (0, insE x l)
theorem any_names29 {l : List En} {n : List UInt8} (h : ¬ l.any (nmIs n) = true) : ∀ p ∈ l, p.1 ≠ n := by
  intro p hp e
  refine h (List.any_eq_true.2 ⟨p, hp, ?_⟩)
  unfold nmIs
  rw [beq_iff_eq]
  exact e
/-- What was added can be removed. -/
theorem add_back29 (x : En) (l : List En) (h : (addE x l).1 = 0) : remE x.1 (addE x l).2 = (0, l) ∧ chkE (addE x l).2 = 0 := by
  unfold addE at h ⊢
  by_cases h1 : chkE l ≠ 0
  · rw [if_pos h1] at h; exact absurd h h1
  · rw [if_neg h1] at h ⊢
    by_cases h2 : oneE x ≠ 0
    · rw [if_pos h2] at h; exact absurd h h2
    · rw [if_neg h2] at h ⊢
      by_cases h3 : l.any (nmIs x.1) = true
      · rw [if_pos h3] at h; cases h
      · rw [if_neg h3] at h ⊢
        by_cases h4 : l.length = 32
        · rw [if_pos h4] at h; cases h
        · rw [if_neg h4]
          simp only
          have h1 : chkE l = 0 := Decidable.not_not.1 h1
          obtain ⟨r1, r2⟩ := chkE_rise h1
          obtain ⟨l32, _, _⟩ := chkE_zero h1
          have hnn := any_names29 h3
          have hri := insE_rise x l r1 hnn
          have hck : chkE (insE x l) = 0 := chkE_of (by rw [insE_len]; omega) hri (fun p hp => by
            rcases (insE_mem x l p).1 hp with rfl | hp
            · exact Decidable.not_not.1 h2
            · exact r2 p hp)
          have hany : (insE x l).any (nmIs x.1) = true := List.any_eq_true.2 ⟨x, (insE_mem x l x).2 (.inl rfl), by unfold nmIs; simp⟩
          refine ⟨?_, hck⟩
          unfold remE
          rw [if_neg (fun h => h hck), if_pos hany]
          have := filter_rem29 (n := x.1) hri
          rw [if_pos hany, insE_filter x l hnn] at this
          rw [← this]
end Go.Proofs.YtokafgleejcbgaaDoor
