/-
  Updates: plain lists.
-/
import Derived.Test.YtnnmkmipeoajjaaGreatDoorBase
import Derived.Lib.Hide
namespace Go.Proofs.YtnnmkmipeoajjaaGreatDoor
open Go.RowKit
set_option linter.unusedVariables false

/-- An update: Seq, Client, Num, Kind, Key, Ver, Data. -/
structure Up where
  q : Int
  c : Int
  n : Int
  k : Int
  key : Int
  r : Int
  d : List Int
def up0 : Up := ⟨0, 0, 0, 0, 0, 0, []⟩
def nthU (l : List Up) (j : Nat) : Up := l.getD j up0
theorem nthU_at {l : List Up} {j : Nat} (h : j < l.length) : nthU l j = l[j] := by
  unfold nthU
  rw [List.getD_eq_getElem?_getD, List.getElem?_eq_getElem h]
  rfl
theorem nthU_take {l : List Up} {k j : Nat} (h : j < k) : nthU (l.take k) j = nthU l j := by
  unfold nthU
  rw [List.getD_eq_getElem?_getD, List.getD_eq_getElem?_getD, List.getElem?_take, if_pos h]
theorem takeU {l : List Up} {k : Nat} (h : k < l.length) : l.take (k + 1) = l.take k ++ [nthU l k] := by
  rw [List.take_succ_eq_append_getElem h, nthU_at h]
/-- An update's numbers. -/
def FitU (x : Up) : Prop := 0 ≤ x.q ∧ x.q ≤ 18446744073709551615 ∧ 0 ≤ x.n ∧ x.n ≤ 18446744073709551615 ∧ 0 ≤ x.key ∧ x.key ≤ 4294967295 ∧ 0 ≤ x.r ∧ x.r ≤ 18446744073709551615
def FitsU (l : List Up) : Prop := ∀ x ∈ l, FitU x
theorem FitsU.at_ {l : List Up} (h : FitsU l) {j : Nat} (hj : j < l.length) : FitU (nthU l j) := by
  rw [nthU_at hj]
  exact h _ (List.getElem_mem hj)
/-- What a function that keeps a number chooses. -/
def selU (st : Int → Up → Bool × Int) : Int → List Up → List Up
  | _, [] => []
  | s, x :: l => if (st s x).1 then x :: selU st (st s x).2 l else selU st (st s x).2 l
def endU (st : Int → Up → Bool × Int) : Int → List Up → Int
  | s, [] => s
  | s, x :: l => endU st (st s x).2 l
theorem endU_snoc (st : Int → Up → Bool × Int) (s : Int) (l : List Up) (x : Up) : endU st s (l ++ [x]) = (st (endU st s l) x).2 := by
  induction l generalizing s with
  | nil => rfl
  | cons y l ih => simp only [List.cons_append, endU, ih]
theorem selU_snoc (st : Int → Up → Bool × Int) (s : Int) (l : List Up) (x : Up) : selU st s (l ++ [x]) = selU st s l ++ (if (st (endU st s l) x).1 then [x] else []) := by
  induction l generalizing s with
  | nil => simp only [List.nil_append, selU, endU]; rfl
  | cons y l ih =>
    simp only [List.cons_append, selU, endU, ih]
    by_cases h : (st s y).1
    · rw [if_pos h, if_pos h]; rfl
    · rw [if_neg h, if_neg h]; rfl
theorem selU_len (st : Int → Up → Bool × Int) (s : Int) (l : List Up) : (selU st s l).length ≤ l.length := by
  induction l generalizing s with
  | nil => exact Nat.le_refl _
  | cons y l ih =>
    have := ih (st s y).2
    simp only [selU]
    by_cases h : (st s y).1
    · rw [if_pos h]; simp only [List.length_cons]; omega
    · rw [if_neg h]; simp only [List.length_cons]; omega
theorem selU_mem (st : Int → Up → Bool × Int) (s : Int) (l : List Up) (x : Up) (h : x ∈ selU st s l) : x ∈ l := by
  induction l generalizing s with
  | nil => exact h
  | cons y l ih =>
    simp only [selU] at h
    by_cases hy : (st s y).1
    · rw [if_pos hy] at h
      rcases List.mem_cons.1 h with rfl | h
      · exact List.mem_cons_self
      · exact List.mem_cons_of_mem _ (ih _ h)
    · rw [if_neg hy] at h
      exact List.mem_cons_of_mem _ (ih _ h)
/-- What a function that tells yes or no, by a number that it keeps, tells of all: the first no ends it. -/
def allU (st : Int → Up → Bool × Int) : Int → List Up → Bool
  | _, [] => true
  | s, x :: l => if (st s x).1 then allU st (st s x).2 l else false
theorem allU_sel (st : Int → Up → Bool × Int) (s : Int) (l : List Up) : allU st s l = true ↔ selU st s l = l := by
  induction l generalizing s with
  | nil => exact ⟨fun _ => rfl, fun _ => rfl⟩
  | cons y l ih =>
    simp only [allU, selU]
    by_cases h : (st s y).1
    · rw [if_pos h, if_pos h, ih]
      exact ⟨fun e => by rw [e], fun e => by injection e⟩
    · rw [if_neg h, if_neg h]
      refine ⟨fun e => (by cases e), fun e => ?_⟩
      have h1 := selU_len st (st s y).2 l
      have h2 := congrArg List.length e
      simp only [List.length_cons] at h2
      omega
/-- The first k of them are told yes. -/
theorem allU_snoc (st : Int → Up → Bool × Int) (s : Int) (l : List Up) (x : Up) : allU st s (l ++ [x]) = (allU st s l && (st (endU st s l) x).1) := by
  induction l generalizing s with
  | nil => simp only [List.nil_append, allU, endU]; cases (st s x).1 <;> rfl
  | cons y l ih =>
    simp only [List.cons_append, allU, endU, ih]
    cases (st s y).1 <;> rfl
theorem allU_no (st : Int → Up → Bool × Int) (s : Int) (l : List Up) (k : Nat) (hk : k < l.length) (h : allU st s (l.take (k + 1)) = false) : allU st s l = false := by
  induction l generalizing s k with
  | nil => exact absurd hk (by simp)
  | cons y l ih =>
    simp only [List.take_succ_cons, allU] at h ⊢
    by_cases hy : (st s y).1
    · rw [if_pos hy] at h ⊢
      cases k with
      | zero => simp [allU] at h
      | succ k => exact ih _ k (by simpa using hk) h
    · rw [if_neg hy]
/-- sequence: is the Seq the next one? -/
def seqU (s : Int) (x : Up) : Bool × Int := if x.q = 0 ∨ x.q ≠ s + 1 then (false, s) else (true, x.q)
/-- Batch: a Seq above after, as long as fewer than most were taken. -/
def batU (after most : Int) (s : Int) (x : Up) : Bool × Int := if x.q ≤ after ∨ most ≤ s then (false, s) else (true, s + 1)
/-- Copy. -/
def anyU (s : Int) (x : Up) : Bool × Int := (true, s)
theorem selU_any (s : Int) (l : List Up) : selU anyU s l = l := by
  induction l with
  | nil => rfl
  | cons y l ih => show y :: selU anyU s l = y :: l; rw [ih]
theorem endU_any (s : Int) (l : List Up) : endU anyU s l = s := by
  induction l with
  | nil => rfl
  | cons y l ih => exact ih
theorem endU_bat (after most s : Int) (l : List Up) : endU (batU after most) s l = s + (selU (batU after most) s l).length := by
  induction l generalizing s with
  | nil => simp [endU, selU]
  | cons y l ih =>
    simp only [endU, selU]
    rw [ih]
    unfold batU
    by_cases h : y.q ≤ after ∨ most ≤ s
    · simp [if_pos h]
    · simp [if_neg h]; omega
/-- What fits runs. -/
theorem seq_runs (s : Int) (l : List Up) : allU seqU s (selU seqU s l) = true := by
  induction l generalizing s with
  | nil => rfl
  | cons y l ih =>
    simp only [selU]
    by_cases h : (seqU s y).1
    · rw [if_pos h]
      simp only [allU]
      rw [if_pos h]
      exact ih _
    · rw [if_neg h]
      have h2 : (seqU s y).2 = s := by
        unfold seqU at h ⊢
        by_cases h3 : y.q = 0 ∨ y.q ≠ s + 1
        · rw [if_pos h3]
        · rw [if_neg h3] at h; exact absurd rfl h
      rw [h2]
      exact ih _
/-- As long as all are told yes, the number is how many there are more. -/
theorem endU_seq (s : Int) (l : List Up) (h : allU seqU s l = true) : endU seqU s l = s + l.length := by
  induction l generalizing s with
  | nil => simp [endU]
  | cons y l ih =>
    simp only [allU] at h
    by_cases hy : (seqU s y).1
    · rw [if_pos hy] at h
      simp only [endU]
      rw [ih _ h]
      have h2 : (seqU s y).2 = s + 1 := by
        unfold seqU at hy ⊢
        by_cases h3 : y.q = 0 ∨ y.q ≠ s + 1
        · rw [if_pos h3] at hy; cases hy
        · rw [if_neg h3]; show y.q = s + 1; omega
      rw [h2]
      simp only [List.length_cons]
      omega
    · rw [if_neg hy] at h; cases h
theorem FitsU.sel {l : List Up} (h : FitsU l) (st : Int → Up → Bool × Int) (s : Int) : FitsU (selU st s l) := fun x hx => h x (selU_mem st s l x hx)
theorem FitsU.take {l : List Up} (h : FitsU l) (k : Nat) : FitsU (l.take k) := fun x hx => h x (List.mem_of_mem_take hx)
/-- The kept number fits as what it began with. -/
theorem endU_fit (s : Int) (l : List Up) (h0 : 0 ≤ s ∧ s ≤ 18446744073709551615) (hl : FitsU l) : 0 ≤ endU seqU s l ∧ endU seqU s l ≤ 18446744073709551615 := by
  induction l generalizing s with
  | nil => exact h0
  | cons y l ih =>
    simp only [endU]
    refine ih _ ?_ (fun x hx => hl x (List.mem_cons_of_mem _ hx))
    unfold seqU
    by_cases h3 : y.q = 0 ∨ y.q ≠ s + 1
    · rw [if_pos h3]; exact h0
    · rw [if_neg h3]
      have := hl y List.mem_cons_self
      exact ⟨this.1, this.2.1⟩
end Go.Proofs.YtnnmkmipeoajjaaGreatDoor
