/-
  Versions of a block: plain lists.
-/
import Derived.Test.YtpdkmalfojeghaaGreatDoorBase
import Derived.Lib.Hide
namespace Go.Proofs.YtpdkmalfojeghaaGreatDoor
open Go.RowKit
set_option linter.unusedVariables false

/-- A version: its Ver, its Seq, its Data. -/
structure Vn where
  r : Int
  q : Int
  d : List Int
def vn0 : Vn := ⟨0, 0, []⟩
def nthV (l : List Vn) (j : Nat) : Vn := l.getD j vn0
def lastV (l : List Vn) : Vn := nthV l (l.length - 1)
theorem nthV_at {l : List Vn} {j : Nat} (h : j < l.length) : nthV l j = l[j] := by
  unfold nthV
  rw [List.getD_eq_getElem?_getD, List.getElem?_eq_getElem h]
  rfl
theorem nthV_out {l : List Vn} {j : Nat} (h : l.length ≤ j) : nthV l j = vn0 := by
  unfold nthV
  rw [List.getD_eq_getElem?_getD, List.getElem?_eq_none h]
  rfl
theorem nthV_take {l : List Vn} {k j : Nat} (h : j < k) : nthV (l.take k) j = nthV l j := by
  unfold nthV
  rw [List.getD_eq_getElem?_getD, List.getD_eq_getElem?_getD, List.getElem?_take, if_pos h]
theorem nthV_drop (l : List Vn) (k j : Nat) : nthV (l.drop k) j = nthV l (k + j) := by
  unfold nthV
  rw [List.getD_eq_getElem?_getD, List.getD_eq_getElem?_getD, List.getElem?_drop]
theorem lastV_nil : lastV [] = vn0 := rfl
theorem lastV_app (l : List Vn) (x : Vn) : lastV (l ++ [x]) = x := by
  unfold lastV nthV
  rw [List.getD_eq_getElem?_getD]
  simp
/-- A version's numbers. -/
def FitV (x : Vn) : Prop := 0 ≤ x.r ∧ x.r ≤ 18446744073709551615 ∧ 0 ≤ x.q ∧ x.q ≤ 18446744073709551615
/-- Seqs rise; each number is at least 1 and fits; no data are longer than MaxValue. -/
structure Asc (l : List Vn) : Prop where
  up : l.Pairwise (fun a b => a.q < b.q)
  ok : ∀ x ∈ l, 0 < x.r ∧ x.r ≤ 18446744073709551615 ∧ 0 < x.q ∧ x.q ≤ 18446744073709551615 ∧ x.d.length ≤ 2048
theorem Asc.nil : Asc [] := ⟨List.Pairwise.nil, fun x h => by cases h⟩
theorem Asc.drop {l : List Vn} (h : Asc l) (n : Nat) : Asc (l.drop n) := ⟨h.up.sublist (List.drop_sublist n l), fun x hx => h.ok x (List.mem_of_mem_drop hx)⟩
theorem Asc.take {l : List Vn} (h : Asc l) (n : Nat) : Asc (l.take n) := ⟨h.up.sublist (List.take_sublist n l), fun x hx => h.ok x (List.mem_of_mem_take hx)⟩
theorem Asc.at_ {l : List Vn} (h : Asc l) {j : Nat} (hj : j < l.length) : 0 < (nthV l j).r ∧ (nthV l j).r ≤ 18446744073709551615 ∧ 0 < (nthV l j).q ∧ (nthV l j).q ≤ 18446744073709551615 ∧ (nthV l j).d.length ≤ 2048 := by
  rw [nthV_at hj]
  exact h.ok _ (List.getElem_mem hj)
theorem Asc.lt {l : List Vn} (h : Asc l) {i j : Nat} (hij : i < j) (hj : j < l.length) : (nthV l i).q < (nthV l j).q := by
  rw [nthV_at hj, nthV_at (by omega : i < l.length)]
  exact List.pairwise_iff_getElem.1 h.up i j (by omega) hj hij
theorem Asc.fit {l : List Vn} (h : Asc l) (j : Nat) : 0 ≤ (nthV l j).r ∧ (nthV l j).r ≤ 18446744073709551615 ∧ 0 ≤ (nthV l j).q ∧ (nthV l j).q ≤ 18446744073709551615 ∧ (nthV l j).d.length ≤ 2048 := by
  by_cases hj : j < l.length
  · have := h.at_ hj; omega
  · rw [nthV_out (by omega)]; simp [vn0]
/-- How many have a Seq that is not above done. -/
def cnt (l : List Vn) (done : Int) : Nat := (l.filter fun x => decide (x.q ≤ done)).length
theorem cnt_le (l : List Vn) (done : Int) : cnt l done ≤ l.length := List.length_filter_le _ _
theorem cnt_spec {l : List Vn} (h : Asc l) (done : Int) (i : Nat) (hi : i < l.length) : (nthV l i).q ≤ done ↔ i < cnt l done := by
  induction l generalizing i with
  | nil => exact absurd hi (by simp)
  | cons x l ih =>
    obtain ⟨h1, h2⟩ := List.pairwise_cons.1 h.up
    have ht : Asc l := ⟨h2, fun y hy => h.ok y (by simp [hy])⟩
    have hc : cnt (x :: l) done = if x.q ≤ done then cnt l done + 1 else cnt l done := by
      unfold cnt
      rw [List.filter_cons]
      by_cases e : x.q ≤ done
      · rw [if_pos (by simpa using e), if_pos e]; rfl
      · rw [if_neg (by simpa using e), if_neg e]
    cases i with
    | zero =>
      show x.q ≤ done ↔ _
      rw [hc]
      by_cases e : x.q ≤ done
      · rw [if_pos e]; simp [e]
      · rw [if_neg e]
        have : cnt l done = 0 := by
          unfold cnt
          rw [List.length_eq_zero_iff, List.filter_eq_nil_iff]
          intro y hy
          have := h1 y hy
          simp
          omega
        rw [this]
        simp [e]
    | succ i =>
      have hi' : i < l.length := by simpa using hi
      have : nthV (x :: l) (i + 1) = nthV l i := rfl
      rw [this, ih ht i hi', hc]
      by_cases e : x.q ≤ done
      · rw [if_pos e]; omega
      · rw [if_neg e]
        have hy : x.q < (nthV l i).q := by
          rw [nthV_at hi']
          exact h1 _ (List.getElem_mem hi')
        have := (ih ht i hi').2
        constructor
        · intro hh; have := this hh; omega
        · intro hh; have := this (by omega); omega
theorem cnt_of {l : List Vn} (h : Asc l) {done : Int} {n : Nat} (hn : n ≤ l.length) (h1 : ∀ i, i < n → (nthV l i).q ≤ done) (h2 : ∀ i, n ≤ i → i < l.length → done < (nthV l i).q) : cnt l done = n := by
  have hle := cnt_le l done
  rcases Nat.lt_trichotomy (cnt l done) n with hlt | heq | hgt
  · have := (cnt_spec h done (cnt l done) (by omega)).1 (h1 _ hlt)
    omega
  · exact heq
  · have := (cnt_spec h done n (by omega)).2 hgt
    have := h2 n (Nat.le_refl _) (by omega)
    omega
def cleanV (l : List Vn) (done : Int) : Vn := if cnt l done = 0 then vn0 else nthV l (cnt l done - 1)
theorem lastV_take {l : List Vn} {done : Int} : lastV (l.take (cnt l done)) = cleanV l done := by
  have hle := cnt_le l done
  unfold lastV cleanV
  rw [List.length_take, Nat.min_eq_left hle]
  by_cases h0 : cnt l done = 0
  · rw [if_pos h0, h0]; rfl
  · rw [if_neg h0, nthV_take (by omega)]
theorem clean_none (done : Int) : cleanV [] done = vn0 := rfl
theorem clean_step {l : List Vn} (h : Asc l) (done : Int) {k : Nat} (hk : k < l.length) : cleanV (l.take (k + 1)) done = if (nthV l k).q ≤ done then nthV l k else cleanV (l.take k) done := by
  have e : l.take (k + 1) = l.take k ++ [nthV l k] := by rw [List.take_succ_eq_append_getElem hk, nthV_at hk]
  have hc : cnt (l.take (k + 1)) done = cnt (l.take k) done + if (nthV l k).q ≤ done then 1 else 0 := by
    unfold cnt
    rw [e, List.filter_append, List.length_append]
    congr 1
    by_cases hq : (nthV l k).q ≤ done
    · rw [if_pos hq]; simp [hq]
    · rw [if_neg hq]; simp [hq]
  by_cases hq : (nthV l k).q ≤ done
  · rw [if_pos hq] at hc ⊢
    have hall : cnt (l.take k) done = k := by
      refine cnt_of (h.take k) (by rw [List.length_take]; omega) (fun i hi => ?_) (fun i hi1 hi2 => ?_)
      · rw [nthV_take hi]
        have := h.lt hi hk
        omega
      · rw [List.length_take] at hi2; omega
    unfold cleanV
    rw [hc, hall, if_neg (by omega), Nat.add_sub_cancel, nthV_take (by omega)]
  · rw [if_neg hq] at hc ⊢
    replace hc : cnt (l.take (k + 1)) done = cnt (l.take k) done := by simpa using hc
    have hle := cnt_le (l.take k) done
    rw [List.length_take] at hle
    unfold cleanV
    rw [hc]
    by_cases h0 : cnt (l.take k) done = 0
    · rw [if_pos h0, if_pos h0]
    · rw [if_neg h0, if_neg h0, nthV_take (by omega), nthV_take (by omega)]
theorem Asc.clean {l : List Vn} (h : Asc l) (done : Int) : 0 ≤ (cleanV l done).r ∧ (cleanV l done).r ≤ 18446744073709551615 ∧ 0 ≤ (cleanV l done).q ∧ (cleanV l done).q ≤ 18446744073709551615 ∧ (cleanV l done).d.length ≤ 2048 := by
  unfold cleanV
  split
  · simp [vn0]
  · exact h.fit _
/-- What Dirty tells. -/
def dirtyB (l : List Vn) (done : Int) : Bool := decide (done < (lastV l).q)
/-- What Pick tells. -/
def findV (l : List Vn) (ver : Int) : Option Vn := l.find? (fun x => x.r == ver)
def pickV (l : List Vn) (ver done : Int) : Vn := (findV l ver).getD (if ver < (cleanV l done).r then cleanV l done else vn0)
theorem findV_skip {l : List Vn} {ver : Int} {k : Nat} (h : ∀ j, j < k → (nthV l j).r ≠ ver) : findV l ver = findV (l.drop k) ver := by
  induction k generalizing l with
  | zero => rfl
  | succ k ih =>
    cases l with
    | nil => rfl
    | cons x l =>
      have h0 : x.r ≠ ver := h 0 (by omega)
      unfold findV
      rw [List.find?_cons, List.drop_succ_cons]
      rw [show (x.r == ver) = false by simpa using h0]
      exact ih (fun j hj => h (j + 1) (by omega))
theorem findV_hit {l : List Vn} {ver : Int} {k : Nat} (hk : k < l.length) (h : ∀ j, j < k → (nthV l j).r ≠ ver) (he : (nthV l k).r = ver) : findV l ver = some (nthV l k) := by
  rw [findV_skip h, List.drop_eq_getElem_cons hk, ← nthV_at hk]
  unfold findV
  rw [List.find?_cons, show ((nthV l k).r == ver) = true by simpa using he]
theorem findV_none {l : List Vn} {ver : Int} (h : ∀ j, j < l.length → (nthV l j).r ≠ ver) : findV l ver = none := by
  rw [findV_skip (k := l.length) h, List.drop_eq_nil_of_le (Nat.le_refl _)]
  rfl
/-- What Trim leaves, and how many it takes. -/
def trimN (l : List Vn) (done : Int) : Nat := cnt l done - 1
def trimV (l : List Vn) (done : Int) : List Vn := l.drop (trimN l done)
def gesV (l : List Vn) (q : Int) : List Vn := l.filter (fun x => decide (q ≤ x.q))
theorem gesV_take {l : List Vn} {q : Int} {k : Nat} (h : k < l.length) : gesV (l.take (k + 1)) q = gesV (l.take k) q ++ if q ≤ (nthV l k).q then [nthV l k] else [] := by
  unfold gesV
  rw [List.take_succ_eq_append_getElem h, List.filter_append, nthV_at h]
  congr 1
  by_cases hf : q ≤ l[k].q
  · rw [if_pos hf]; simp [hf]
  · rw [if_neg hf]; simp [hf]
theorem gesV_trim {l : List Vn} (h : Asc l) (done : Int) : gesV l (cleanV l done).q = trimV l done := by
  have hle := cnt_le l done
  unfold trimV trimN
  by_cases h0 : cnt l done = 0
  · rw [h0]
    unfold gesV cleanV
    rw [if_pos h0]
    simp only [Nat.zero_sub, List.drop_zero]
    rw [List.filter_eq_self]
    intro x hx
    have := (h.ok x hx).2.2.1
    rw [decide_eq_true_eq]
    show (0 : Int) ≤ x.q
    omega
  · obtain ⟨m, hm⟩ : ∃ m, cnt l done = m + 1 := ⟨cnt l done - 1, by omega⟩
    rw [hm, Nat.add_sub_cancel]
    have hc : cleanV l done = nthV l m := by unfold cleanV; rw [if_neg h0, hm, Nat.add_sub_cancel]
    rw [hc]
    obtain ⟨cq, hcq⟩ : ∃ c, c = (nthV l m).q := ⟨_, rfl⟩
    rw [← hcq]
    conv => lhs; rw [← List.take_append_drop m l]
    unfold gesV
    rw [List.filter_append, List.filter_eq_nil_iff.2, List.nil_append, List.filter_eq_self.2]
    · intro x hx
      obtain ⟨j, hj, rfl⟩ := List.getElem_of_mem hx
      rw [List.length_drop] at hj
      rw [List.getElem_drop]
      simp only [decide_eq_true_eq]
      rw [← nthV_at (by omega)]
      rcases Nat.eq_zero_or_pos j with e | e
      · subst e; rw [hcq]; exact Int.le_refl _
      · have := h.lt (i := m) (j := m + j) (by omega) (by omega); omega
    · intro x hx
      obtain ⟨j, hj, rfl⟩ := List.getElem_of_mem hx
      rw [List.length_take] at hj
      rw [List.getElem_take]
      simp only [decide_eq_true_eq]
      rw [← nthV_at (by omega)]
      have := h.lt (i := j) (j := m) (by omega) (by omega)
      omega
theorem trimV_len (l : List Vn) (done : Int) : (trimV l done).length = l.length - trimN l done := List.length_drop
theorem trimN_le (l : List Vn) (done : Int) : trimN l done ≤ l.length := by have := cnt_le l done; unfold trimN; omega
/-- What Put answers, and leaves. -/
def putXV (l : List Vn) (v : Vn) : Int := if 2048 < v.d.length then 6 else if v.r = 0 ∨ v.q = 0 then 1 else if 0 < l.length ∧ ¬ (v.r = (lastV l).r + 1 ∧ (lastV l).q < v.q) then 12 else 0
def putLV (l : List Vn) (v : Vn) : List Vn := if putXV l v = 0 then l ++ [v] else l
theorem Asc.last {l : List Vn} (h : Asc l) {x : Vn} (hx : x ∈ l) : x.q ≤ (lastV l).q := by
  obtain ⟨j, hj, rfl⟩ := List.getElem_of_mem hx
  rw [← nthV_at hj]
  unfold lastV
  rcases Nat.lt_or_ge j (l.length - 1) with e | e
  · have := h.lt e (by omega); omega
  · obtain rfl : j = l.length - 1 := by omega
    exact Int.le_refl _
theorem Asc.put {l : List Vn} (h : Asc l) {v : Vn} (hf : FitV v) : Asc (putLV l v) := by
  unfold putLV
  by_cases h0 : putXV l v = 0
  · rw [if_pos h0]
    unfold putXV at h0
    split at h0
    · cases h0
    · split at h0
      · cases h0
      · split at h0
        · cases h0
        · rename_i hl hz hn
          unfold FitV at hf
          refine ⟨List.pairwise_append.2 ⟨h.up, List.pairwise_singleton _ _, fun a ha b hb => ?_⟩, fun x hx => ?_⟩
          · obtain rfl : b = v := by simpa using hb
            have := h.last ha
            have : 0 < l.length := List.length_pos_of_mem ha
            omega
          · rcases List.mem_append.1 hx with hx | hx
            · exact h.ok x hx
            · obtain rfl : x = v := by simpa using hx
              omega
  · rw [if_neg h0]
    exact h
theorem putLV_len (l : List Vn) (v : Vn) : (putLV l v).length ≤ l.length + 1 := by
  unfold putLV
  split
  · simp
  · omega
end Go.Proofs.YtpdkmalfojeghaaGreatDoor
