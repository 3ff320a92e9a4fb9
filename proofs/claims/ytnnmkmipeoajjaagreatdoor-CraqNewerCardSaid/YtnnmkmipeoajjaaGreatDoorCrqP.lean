/-
  CraqNewer: plainly; Now, Then, Last, Trim over a store that has grown.
-/
import Derived.Test.YtnnmkmipeoajjaaGreatDoorCrqK
import Derived.Test.YtnnmkmipeoajjaaGreatDoorSto2
namespace Go.Proofs.YtnnmkmipeoajjaaGreatDoor
open Go.RowKit
set_option linter.unusedVariables false
set_option linter.unusedSimpArgs false

theorem apSp_en (s : Sp) (x : Up) (h : 0 ≤ s.en) : (apSp s x).en = s.en ∨ (apSp s x).en = s.en + 1 := by
  unfold apSp
  split
  · exact .inl rfl
  · rename_i hb
    have hq : x.q = s.en + 1 := Classical.not_not.1 (fun e => hb (.inr e))
    split
    · exact .inr hq
    · split <;> exact .inr hq
/-- One update more: the versions grow at their end, and what is new is newer than the end. -/
theorem apSp_ext (s : Sp) (x : Up) (k : Int) : ∃ ext, (apSp s x).l k = s.l k ++ ext ∧ ∀ y ∈ ext, s.en < y.q := by
  unfold apSp
  split
  · exact ⟨[], by simp, fun y h => by cases h⟩
  · rename_i hb
    have hq : x.q = s.en + 1 := Classical.not_not.1 (fun e => hb (.inr e))
    split
    · exact ⟨[], by simp, fun y h => by cases h⟩
    · split
      · by_cases e : k = x.key
        · exact ⟨[⟨(resSp s x).2.1, x.q, x.d⟩], by show (if k = x.key then _ else _) = _; rw [if_pos e], fun y h => by simp only [List.mem_singleton] at h; subst h; show s.en < x.q; omega⟩
        · exact ⟨[], by show (if k = x.key then _ else _) = _; rw [if_neg e]; simp, fun y h => by cases h⟩
      · exact ⟨[], by simp, fun y h => by cases h⟩
/-- Store a holds what b holds, and what is newer than b's end. -/
structure Pre22 (a b : Sp) : Prop where
  le : b.en ≤ a.en
  ext : ∀ k, ∃ ext, a.l k = b.l k ++ ext ∧ ∀ y ∈ ext, b.en < y.q
theorem Pre22.refl (a : Sp) : Pre22 a a := ⟨Int.le_refl _, fun k => ⟨[], by simp, fun y h => by cases h⟩⟩
theorem Pre22.up {a b : Sp} (h : Pre22 a b) (h0 : 0 ≤ a.en) (x : Up) : Pre22 (apSp a x) b := by
  refine ⟨by have := apSp_en a x h0; have := h.le; omega, fun k => ?_⟩
  obtain ⟨e1, h1, h2⟩ := h.ext k
  obtain ⟨e2, h3, h4⟩ := apSp_ext a x k
  refine ⟨e1 ++ e2, by rw [h3, h1, List.append_assoc], fun y hy => ?_⟩
  rcases List.mem_append.1 hy with hy | hy
  · exact h2 y hy
  · have := h4 y hy; have := h.le; omega
theorem lastV_mem {l : List Vn} (h : l ≠ []) : lastV l ∈ l := by
  have : 0 < l.length := List.length_pos_iff.2 h
  unfold lastV
  rw [nthV_at (by omega)]
  exact List.getElem_mem _
theorem lastV_app22 {l e : List Vn} (h : e ≠ []) : lastV (l ++ e) = lastV e := by
  have h0 : 0 < e.length := List.length_pos_iff.2 h
  unfold lastV nthV
  rw [List.getD_eq_getElem?_getD, List.getD_eq_getElem?_getD, List.getElem?_append_right (by rw [List.length_append]; omega), List.length_append]
  congr 2
  omega
theorem Pre22.now {a b : Sp} (h : Pre22 a b) (k : Int) (hd : dirtyB (a.l k) b.en = false) : (lastV (a.l k)).r = (lastV (b.l k)).r := by
  obtain ⟨e, h1, h2⟩ := h.ext k
  by_cases he : e = []
  · rw [h1, he, List.append_nil]
  · exfalso
    unfold dirtyB at hd
    rw [h1, lastV_app22 he] at hd
    have := h2 _ (lastV_mem he)
    have h3 := of_decide_eq_false hd
    omega
theorem find_pos {l : List Vn} {ver : Int} (h : ∃ x ∈ l, x.r = ver) : ∃ x, findV l ver = some x ∧ x.r = ver := by
  obtain ⟨x, hx, hr⟩ := h
  unfold findV
  cases hf : l.find? (fun x => x.r == ver) with
  | none => have := List.find?_eq_none.1 hf x hx; simp [hr] at this
  | some y => exact ⟨y, rfl, by have := List.find?_some hf; simpa using this⟩
theorem find_neg {l : List Vn} {ver : Int} (h : ∀ x ∈ l, x.r ≠ ver) : findV l ver = none := by
  unfold findV
  rw [List.find?_eq_none]
  intro x hx
  simpa using h x hx
theorem Gr.pos {s : Sp} {n : Nat} (h : Gr s n) (k : Int) : ∀ x ∈ s.l k, x.r ≠ 0 := by
  intro x hx
  obtain ⟨j, hj, rfl⟩ := List.getElem_of_mem hx
  rw [← nthV_at hj, h.r k j hj]
  omega
/-- What Then tells ahead of the trimming. -/
theorem Pre22.pick {a b : Sp} {n m : Nat} (h : Pre22 a b) (ga : Gr a n) (gb : Gr b m) (k : Int) {done : Int} (hd : done ≤ b.en) : (pickV (a.l k) (lastV (b.l k)).r done).r = (lastV (b.l k)).r := by
  obtain ⟨e, h1, h2⟩ := h.ext k
  by_cases hb : b.l k = []
  · have hl : (lastV (b.l k)).r = 0 := by rw [hb]; rfl
    rw [hl]
    unfold pickV
    rw [find_neg (ga.pos k)]
    have hc : cnt (a.l k) done = 0 := by
      unfold cnt
      rw [List.length_eq_zero_iff, List.filter_eq_nil_iff]
      intro x hx
      rw [h1, hb, List.nil_append] at hx
      have := h2 x hx
      simp; omega
    unfold cleanV
    rw [if_pos hc]
    rfl
  · obtain ⟨x, hx, hr⟩ := find_pos (l := a.l k) (ver := (lastV (b.l k)).r) ⟨lastV (b.l k), by rw [h1]; exact List.mem_append_left _ (lastV_mem hb), rfl⟩
    unfold pickV
    rw [hx]
    exact hr
theorem cnt_all {l : List Vn} {d : Int} (h : ∀ x ∈ l, x.q ≤ d) : cnt l d = l.length := by
  unfold cnt
  rw [List.filter_eq_self.2]
  intro x hx
  simpa using h x hx
theorem pick_nil (d : Int) : pickV (trimV [] d) 0 d = vn0 := by
  have h : trimV [] d = [] := by unfold trimV; simp
  rw [h]
  unfold pickV
  rw [find_neg (by intro x hx; cases hx), clean_none]
  rfl
/-- What Then tells behind the trimming. -/
theorem Pre22.trim {a b : Sp} {n m : Nat} (h : Pre22 a b) (ga : Gr a n) (gb : Gr b m) (k : Int) : (lastV (b.l k)).r ≤ (pickV (trimV (a.l k) a.en) (lastV (b.l k)).r a.en).r ∧ ((pickV (trimV (a.l k) a.en) (lastV (b.l k)).r a.en).r != 0 || (lastV (b.l k)).r == 0) = true := by
  obtain ⟨e, h1, h2⟩ := h.ext k
  have hca := cnt_all (ga.q k)
  have hla := ga.last k
  have hlb := gb.last k
  have hle : (b.l k).length ≤ (a.l k).length := by rw [h1, List.length_append]; omega
  by_cases ha : a.l k = []
  · have hb0 : (b.l k).length = 0 := by rw [ha] at hle; simpa using hle
    rw [hlb, hb0, ha]
    show (0 : Int) ≤ (pickV (trimV [] a.en) 0 a.en).r ∧ ((pickV (trimV [] a.en) 0 a.en).r != 0 || (0 : Int) == 0) = true
    rw [pick_nil]
    exact ⟨by decide, by decide⟩
  · have hp : 0 < (a.l k).length := List.length_pos_iff.2 ha
    have ht : trimV (a.l k) a.en = [lastV (a.l k)] := by
      unfold trimV trimN lastV
      rw [hca, nthV_at (by omega)]
      rw [List.drop_eq_getElem_cons (by omega), List.drop_of_length_le (by omega)]
    have hq := (ga.lastq k).1
    have hc : cleanV [lastV (a.l k)] a.en = lastV (a.l k) := by
      unfold cleanV
      rw [cnt_all (fun x hx => by simp only [List.mem_singleton] at hx; subst hx; exact hq), if_neg (by simp)]
      rfl
    rw [ht]
    have hr : (pickV [lastV (a.l k)] (lastV (b.l k)).r a.en).r = (lastV (a.l k)).r := by
      unfold pickV
      by_cases e1 : (lastV (a.l k)).r = (lastV (b.l k)).r
      · obtain ⟨x, hx, hr⟩ := find_pos (l := [lastV (a.l k)]) (ver := (lastV (b.l k)).r) ⟨_, List.mem_singleton.2 rfl, e1⟩
        rw [hx]
        exact hr.trans e1.symm
      · rw [find_neg (fun x hx => by simp only [List.mem_singleton] at hx; subst hx; exact e1), hc, if_pos (by rw [hla, hlb] at e1 ⊢; omega)]
        rfl
    rw [hr, hla, hlb]
    refine ⟨by omega, ?_⟩
    have : ((a.l k).length : Int) ≠ 0 := by omega
    rw [Bool.or_eq_true]
    exact .inl (by rw [bne_iff_ne]; exact this)
end Go.Proofs.YtnnmkmipeoajjaaGreatDoor
