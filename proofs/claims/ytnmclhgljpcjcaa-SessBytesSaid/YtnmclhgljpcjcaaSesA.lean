/-
  Rows of clients: plain lists (by wip/mkses.py).
-/
import Derived.Test.YtnmclhgljpcjcaaBase
import Derived.WalkKit
import Derived.RegionTactic
import Derived.Lib.Hide
namespace Go.Proofs.Ytnmclhgljpcjcaa
open Go.RowKit
set_option linter.unusedVariables false

/-- A client's row: the client, its Num, its Seq, its Code, its Ver. -/
structure Rw where
  s : Int
  b : Int
  k : Int
  ch : Int
  ep : Int
def rw0 : Rw := ⟨0, 0, 0, 0, 0⟩
def rvv (v : Rw) : Value := .agg #[.int .i64 v.s, .int .u64 v.b, .int .u64 v.k, .int .i64 v.ch, .int .u64 v.ep]
def rcs (v : Rw) : List Value := [.int .i64 v.s, .int .u64 v.b, .int .u64 v.k, .int .i64 v.ch, .int .u64 v.ep]
def rcel (L : List Rw) : List Value := L.flatMap rcs
theorem rcel_app (a b : List Rw) : rcel (a ++ b) = rcel a ++ rcel b := by simp [rcel]
theorem rcel_len (L : List Rw) : (rcel L).length = L.length * 5 := by
  induction L with
  | nil => rfl
  | cons v L ih =>
    have : rcel (v :: L) = rcs v ++ rcel L := rfl
    rw [this, List.length_append, ih, List.length_cons]
    simp only [rcs, List.length_cons, List.length_nil]
    omega
theorem rcel_at (L : List Rw) (j i : Nat) (hj : j < L.length) (hi : i < 5) : (rcel L)[j * 5 + i]? = (rcs L[j])[i]? := by
  induction L generalizing j with
  | nil => exact absurd hj (by simp)
  | cons v L ih =>
    have e : rcel (v :: L) = rcs v ++ rcel L := rfl
    have hl : (rcs v).length = 5 := rfl
    rw [e]
    cases j with
    | zero =>
      rw [Nat.zero_mul, Nat.zero_add, List.getElem?_append_left (by rw [hl]; exact hi)]
      rfl
    | succ j =>
      rw [List.getElem?_append_right (by rw [hl]; omega), hl, List.getElem_cons_succ, show (j + 1) * 5 + i - 5 = j * 5 + i by omega]
      exact ih j (by simpa using hj)
/-- Rows by rising clients. -/
def SrtR (L : List Rw) : Prop := L.Pairwise (fun x y => x.s < y.s)
def atR (L : List Rw) (s : Int) : Option Rw := L.find? (fun v => v.s == s)
def fromR (L : List Rw) (f : Int) : List Rw := L.filter (fun v => decide (f ≤ v.s))
def putR : List Rw → Rw → List Rw
  | [], v => [v]
  | x :: r, v => if x.s < v.s then x :: putR r v else if x.s = v.s then v :: r else v :: x :: r
theorem putR_mem {L : List Rw} {v x : Rw} (h : x ∈ putR L v) : x = v ∨ x ∈ L := by
  induction L with
  | nil => simp [putR] at h; exact .inl h
  | cons y r ih =>
    unfold putR at h
    split at h
    · rcases List.mem_cons.1 h with rfl | h
      · exact .inr (by simp)
      · rcases ih h with h | h
        · exact .inl h
        · exact .inr (by simp [h])
    · split at h
      · rcases List.mem_cons.1 h with rfl | h
        · exact .inl rfl
        · exact .inr (by simp [h])
      · rcases List.mem_cons.1 h with rfl | h
        · exact .inl rfl
        · exact .inr h
theorem putR_srt {L : List Rw} (v : Rw) (h : SrtR L) : SrtR (putR L v) := by
  induction L with
  | nil => exact List.pairwise_singleton _ _
  | cons y r ih =>
    obtain ⟨h1, h2⟩ := List.pairwise_cons.1 h
    unfold putR
    split
    · rename_i hlt
      refine List.pairwise_cons.2 ⟨fun z hz => ?_, ih h2⟩
      rcases putR_mem hz with rfl | hz
      · exact hlt
      · exact h1 z hz
    · split
      · rename_i he
        exact List.pairwise_cons.2 ⟨fun z hz => by have := h1 z hz; omega, h2⟩
      · exact List.pairwise_cons.2 ⟨fun z hz => by
          rcases List.mem_cons.1 hz with rfl | hz
          · omega
          · have := h1 z hz; omega, h⟩
theorem putR_len {L : List Rw} (v : Rw) : (putR L v).length ≤ L.length + 1 ∧ L.length ≤ (putR L v).length := by
  induction L with
  | nil => simp [putR]
  | cons y r ih =>
    unfold putR
    split
    · simp only [List.length_cons]; omega
    · split <;> simp
theorem atR_cons (x : Rw) (r : List Rw) (s : Int) : atR (x :: r) s = if x.s = s then some x else atR r s := by
  unfold atR
  rw [List.find?_cons]
  by_cases h : x.s = s
  · rw [if_pos h]; simp [h]
  · rw [if_neg h]
    have : (x.s == s) = false := by simpa using h
    rw [this]
theorem atR_slot {L : List Rw} {s : Int} {v : Rw} (h : atR L s = some v) : v.s = s ∧ v ∈ L := by
  have h1 := List.find?_some h
  exact ⟨by simpa using h1, List.mem_of_find?_eq_some h⟩
theorem atR_none {L : List Rw} {s : Int} (h : ∀ v ∈ L, v.s ≠ s) : atR L s = none := by
  unfold atR
  rw [List.find?_eq_none]
  intro v hv
  simpa using h v hv
theorem atR_mem {L : List Rw} {v : Rw} (hs : SrtR L) (h : v ∈ L) : atR L v.s = some v := by
  induction L with
  | nil => cases h
  | cons x r ih =>
    obtain ⟨h1, h2⟩ := List.pairwise_cons.1 hs
    rw [atR_cons]
    rcases List.mem_cons.1 h with rfl | h
    · rw [if_pos rfl]
    · have := h1 v h
      rw [if_neg (by omega)]
      exact ih h2 h
theorem atR_put_same {L : List Rw} (v : Rw) : atR (putR L v) v.s = some v := by
  induction L with
  | nil => simp [putR, atR]
  | cons x r ih =>
    unfold putR
    split
    · rw [atR_cons, if_neg (by omega)]; exact ih
    · split <;> rw [atR_cons, if_pos rfl]
theorem atR_put_other {L : List Rw} (v : Rw) {s : Int} (hs : s ≠ v.s) : atR (putR L v) s = atR L s := by
  induction L with
  | nil => simp only [putR]; rw [atR_cons, if_neg (by omega)]
  | cons x r ih =>
    unfold putR
    split
    · rw [atR_cons, atR_cons, ih]
    · split
      · rename_i h
        rw [atR_cons, atR_cons, if_neg (by omega), if_neg (by omega)]
      · rw [atR_cons, if_neg (by omega)]

/-- Votes of slots from f on, below k. -/
def selR (L : List Rw) (f k : Int) : List Rw := L.filter (fun v => decide (f ≤ v.s) && decide (v.s < k))
theorem selR_start (L : List Rw) (f k : Int) (h : ∀ v ∈ L, 0 ≤ v.s) (hk : k = max f 0) : selR L f k = [] := by
  unfold selR
  rw [List.filter_eq_nil_iff]
  intro v hv
  have := h v hv
  simp
  omega
theorem selR_end (L : List Rw) (f k : Int) (h : ∀ v ∈ L, v.s < 7) (hk : 7 ≤ k) : selR L f k = fromR L f := by
  unfold selR fromR
  apply List.filter_congr
  intro v hv
  have := h v hv
  rw [decide_eq_true (p := v.s < k) (by omega), Bool.and_true]
theorem selR_step (L : List Rw) (f k : Int) (h : SrtR L) (hk : f ≤ k) : selR L f (k + 1) = selR L f k ++ (atR L k).toList := by
  induction L with
  | nil => rfl
  | cons x r ih =>
    obtain ⟨h1, h2⟩ := List.pairwise_cons.1 h
    have e : ∀ m, selR (x :: r) f m = if f ≤ x.s ∧ x.s < m then x :: selR r f m else selR r f m := by
      intro m
      unfold selR
      rw [List.filter_cons]
      by_cases hc : f ≤ x.s ∧ x.s < m
      · rw [if_pos hc, if_pos (by simp [hc])]
      · rw [if_neg hc, if_neg (by simp; omega)]
    rw [e, e, atR_cons]
    by_cases hx : x.s = k
    · rw [if_pos (by omega), if_neg (by omega), if_pos hx]
      have n1 : ∀ m, m ≤ k + 1 → selR r f m = [] := by
        intro m hm
        unfold selR
        rw [List.filter_eq_nil_iff]
        intro v hv
        have := h1 v hv
        simp
        omega
      rw [n1 _ (Int.le_refl _), n1 _ (by omega)]
      rfl
    · rw [if_neg hx, ih h2]
      by_cases hc : f ≤ x.s ∧ x.s < k
      · rw [if_pos (by omega), if_pos hc]
        rfl
      · rw [if_neg (by omega), if_neg hc]
theorem selR_len (L : List Rw) (f k : Int) : (selR L f k).length ≤ L.length := List.length_filter_le _ _
theorem rows_few_aux (L : List Rw) (a : Int) (h : SrtR L) (h0 : ∀ v ∈ L, a ≤ v.s ∧ v.s < 7) (ha : a ≤ 7) : (L.length : Int) ≤ 7 - a := by
  induction L generalizing a with
  | nil => simp; omega
  | cons x r ih =>
    obtain ⟨h1, h2⟩ := List.pairwise_cons.1 h
    have hx := h0 x (by simp)
    have := ih (x.s + 1) h2 (fun v hv => ⟨by have := h1 v hv; omega, (h0 v (by simp [hv])).2⟩) (by omega)
    simp only [List.length_cons]
    omega
/-- The votes below a slot. -/
theorem putR_at {L : List Rw} {v : Rw} {k : Nat} (hk : k ≤ L.length) (h : ∀ j (hj : j < L.length), j < k → L[j].s < v.s) (he : ∀ hk : k < L.length, ¬ L[k].s < v.s) :
    putR L v = L.take k ++ v :: (L.drop (if ∃ hk : k < L.length, L[k].s = v.s then k + 1 else k)) := by
  induction k generalizing L with
  | zero =>
    cases L with
    | nil => simp [putR]
    | cons x r =>
      have h0 := he (by simp)
      simp only [List.getElem_cons_zero] at h0
      unfold putR
      rw [if_neg h0]
      by_cases e : x.s = v.s
      · rw [if_pos e, if_pos ⟨by simp, by simpa using e⟩]
        simp
      · rw [if_neg e, if_neg (by rintro ⟨_, h⟩; exact e (by simpa using h))]
        simp
  | succ k ih =>
    cases L with
    | nil => simp at hk
    | cons x r =>
      have h0 := h 0 (by simp) (by omega)
      simp only [List.getElem_cons_zero] at h0
      unfold putR
      rw [if_pos h0, ih (L := r) (by simpa using hk) (fun j hj hjk => by have := h (j + 1) (by simpa using hj) (by omega); simpa using this) (fun hk' => by have := he (by simpa using hk'); simpa using this)]
      simp only [List.take_succ_cons, List.cons_append, List.length_cons, List.getElem_cons_succ]
      by_cases e : ∃ hk : k < r.length, r[k].s = v.s
      · rw [if_pos e, if_pos (by obtain ⟨h1, h2⟩ := e; exact ⟨by omega, h2⟩), List.drop_succ_cons]
      · rw [if_neg e, if_neg (by rintro ⟨h1, h2⟩; exact e ⟨by omega, h2⟩), List.drop_succ_cons]
theorem atR_skip {L : List Rw} {s : Int} {k : Nat} (h : ∀ j (hj : j < L.length), j < k → L[j].s ≠ s) : atR L s = atR (L.drop k) s := by
  induction k generalizing L with
  | zero => rfl
  | succ k ih =>
    cases L with
    | nil => rfl
    | cons x r =>
      have h0 := h 0 (by simp) (by omega)
      rw [atR_cons, if_neg (by simpa using h0), List.drop_succ_cons]
      exact ih (fun j hj hk => by have := h (j + 1) (by simpa using hj) (by omega); simpa using this)
end Go.Proofs.Ytnmclhgljpcjcaa
