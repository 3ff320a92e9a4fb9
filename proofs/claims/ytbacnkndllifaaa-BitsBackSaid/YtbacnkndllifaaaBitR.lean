/-
  Layer 27: BitsBack.
-/
import Derived.Test.YtbacnkndllifaaaBitQ
import Derived.Deep.QuietTactic
import Derived.BigQuiet
namespace Go.Proofs.Ytbacnkndllifaaa
open Go.RowKit
set_option linter.unusedVariables false

theorem hadL_rise {f : Nat → Bool} {n : Nat} : (hadL f n).Pairwise (· < ·) := by
  induction n with
  | zero => exact List.Pairwise.nil
  | succ n ih =>
    cases h : f n
    · rw [hadL_no h]; exact ih
    · rw [hadL_yes h]
      refine List.pairwise_append.2 ⟨ih, List.pairwise_singleton _ _, fun a ha b hb => ?_⟩
      obtain ⟨i, rfl, h2, _⟩ := hadL_mem.1 ha
      rw [List.mem_singleton.1 hb]
      omega
theorem getD_mem27 {T : List Int} {j : Nat} (h : j < T.length) : T.getD j 0 ∈ T := by
  rw [List.getD_eq_getElem?_getD, List.getElem?_eq_getElem h]; exact List.getElem_mem h
/-- What was taken, plainly. -/
structure Tk27 (l : List Int) (n q : Nat) (M T : List Int) : Prop where
  len : T.length = q
  at_ : ∀ j, j < q → ∃ k : Nat, T.getD j 0 = (k : Int) ∧ k < n ∧ bitN l k = false ∧ bitN M k = true
  rise : ∀ j, j + 1 < q → T.getD j 0 < T.getD (j + 1) 0
  small : ∀ x ∈ T, x ≤ 9223372036854775807
  give : gv27 M n T.reverse = 0
  back : ∀ M', GvM M n T.reverse M' → had27 M' (n : Int) = had27 l n ∧ (0 < q → gv27 M' n T.reverse = 7)
  count : (had27 M (n : Int)).length = (had27 l (n : Int)).length + q
theorem cnt27 (m : Nat) {T : List Int} (hnd : T.Nodup) : (T.filter (fun x => decide (x < ((m + 1 : Nat) : Int)))).length = (T.filter (fun x => decide (x < (m : Int)))).length + if (m : Int) ∈ T then 1 else 0 := by
  induction T with
  | nil => rfl
  | cons x r ihr =>
    have hnd' := List.nodup_cons.1 hnd
    have ihr := ihr hnd'.2
    by_cases h1 : x = (m : Int)
    · subst h1
      rw [List.filter_cons_of_pos (by simp; omega), List.filter_cons_of_neg (by simp)]
      rw [if_neg hnd'.1] at ihr
      rw [List.length_cons, ihr]
      simp
    · have h2 : ¬ (m : Int) = x := fun h => h1 h.symm
      by_cases h3 : x < (m : Int)
      · rw [List.filter_cons_of_pos (by simp; omega), List.filter_cons_of_pos (by simpa using h3)]
        rw [List.length_cons, ihr, List.length_cons]
        simp only [List.mem_cons, h2, false_or]
        omega
      · rw [List.filter_cons_of_neg (by simp; omega), List.filter_cons_of_neg (by simpa using h3), ihr]
        simp only [List.mem_cons, h2, false_or]
theorem tk27_of {l : List Int} {n q : Nat} (hf : fitB l (n : Int) = true) (hn : n ≤ 4096) (he : tkE l n q = 0) {M : List Int} (hM : TkM l n q M) : Tk27 l n q M (tkT l n q) := by
  have hbo := hadL_both (bitN l) n
  have hlen : q ≤ (frL l n).length := by
    unfold tkE at he
    rw [hf, if_pos rfl, if_neg (by omega)] at he
    unfold frL
    by_cases h : ((n : Int).toNat : Int) - (hadL (bitN l) (n : Int).toNat).length < (q : Int)
    · rw [if_pos h] at he; cases he
    · rw [Int.toNat_natCast] at h; omega
  have hT : tkT l n q = (frL l n).take q := by
    unfold tkT
    rw [if_pos he, Int.toNat_natCast, Int.toNat_natCast]
  unfold TkM at hM
  rw [if_pos he, Int.toNat_natCast] at hM
  obtain ⟨T, hTT⟩ : ∃ T, T = tkT l n q := ⟨_, rfl⟩
  rw [← hTT] at hM hT ⊢
  have hmem : ∀ x ∈ T, ∃ k : Nat, x = (k : Int) ∧ k < n ∧ bitN l k = false ∧ bitN M k = true := fun x hx => by
    have hx' := hx
    rw [hT] at hx
    obtain ⟨i, rfl, h2, h3⟩ := hadL_mem.1 (List.mem_of_mem_take hx)
    refine ⟨i, rfl, h2, by simpa using h3, ?_⟩
    rw [hM.bit, decide_eq_true h2, decide_eq_true hx']; simp
  have hpw : T.Pairwise (· < ·) := by rw [hT]; exact (hadL_rise).sublist (List.take_sublist _ _)
  have hnd : T.Nodup := hpw.imp (fun h => by omega)
  have hlT : T.length = q := by rw [hT, List.length_take]; omega
  have hfM := hM.fits hn
  have hfrd : ∀ j, j < n → (decide ((j : Int) ∈ T) = true → bitN l j = false) := fun j hj h => by
    obtain ⟨k, h1, _, h3, _⟩ := hmem _ (of_decide_eq_true h)
    obtain rfl : j = k := by omega
    exact h3
  have hg : gv27 M n T.reverse = 0 := by
    unfold gv27
    rw [hfM, if_pos rfl, Int.toNat_natCast]
    refine gvE_all (fun x hx => ?_) (List.pairwise_reverse.2 (hnd.imp fun h e => h e.symm))
    obtain ⟨k, rfl, h2, _, h4⟩ := hmem x (List.mem_reverse.1 hx)
    exact ⟨⟨by omega, by omega⟩, by rw [Int.toNat_natCast]; exact h4, by simp⟩
  refine ⟨hlT, fun j hj => hmem _ (getD_mem27 (by omega)), fun j hj => ?_, fun x hx => ?_, hg, fun M' hM' => ?_, ?_⟩
  · have h := List.pairwise_iff_getElem.1 hpw j (j + 1) (by omega) (by omega) (by omega)
    rw [List.getD_eq_getElem?_getD, List.getD_eq_getElem?_getD, List.getElem?_eq_getElem (by omega), List.getElem?_eq_getElem (by omega)]
    exact h
  · obtain ⟨k, rfl, h2, _⟩ := hmem x hx
    omega
  · unfold GvM at hM'
    rw [if_pos hg, Int.toNat_natCast] at hM'
    have hM2 : BM (bitN l) n M' := hM'.cong fun j hj => by
      rw [hM.bit, decide_eq_true hj]
      have hd : decide ((j : Int) ∈ T.reverse) = decide ((j : Int) ∈ T) := by simp
      rw [hd]
      cases hb : decide ((j : Int) ∈ T)
      · simp
      · simp [hfrd j hj hb]
    refine ⟨by rw [hM2.had hn, had27_yes hf], fun hq => ?_⟩
    unfold gv27
    rw [hM2.fits hn, if_pos rfl, Int.toNat_natCast]
    cases hr : T.reverse with
    | nil => have : T.length = 0 := by rw [← List.length_reverse, hr]; rfl
             omega
    | cons x r =>
      obtain ⟨k, rfl, h2, h3, _⟩ := hmem x (List.mem_reverse.1 (by rw [hr]; simp))
      rw [gvE, if_neg (by omega), Int.toNat_natCast, hM2.bit, h3]
      simp
  · rw [had27_yes hfM, had27_yes hf]
    have hfr : hadL (fun i => !bitN M i) n = hadL (fun i => !bitN M i) n := rfl
    have key : ∀ m, m ≤ n → (hadL (bitN M) m).length = (hadL (bitN l) m).length + (T.filter (fun x => decide (x < (m : Int)))).length := by
      intro m
      induction m with
      | zero =>
        intro _
        have : T.filter (fun x => decide (x < ((0 : Nat) : Int))) = [] := List.filter_eq_nil_iff.2 fun x hx => by
          obtain ⟨k, rfl, _⟩ := hmem x hx
          simp
        rw [this]; rfl
      | succ m ih =>
        intro hm
        have ih := ih (by omega)
        have hcnt := cnt27 m hnd
        rw [hcnt]
        have hbit := hM.bit m
        rw [decide_eq_true (show m < n by omega), Bool.true_and] at hbit
        by_cases hmT : (m : Int) ∈ T
        · have hl0 := hfrd m (by omega) (decide_eq_true hmT)
          rw [decide_eq_true hmT, Bool.or_true] at hbit
          rw [hadL_yes hbit, hadL_no hl0, if_pos hmT, List.length_append, ih]
          simp; omega
        · rw [decide_eq_false hmT, Bool.or_false] at hbit
          rw [if_neg hmT]
          cases hl1 : bitN l m
          · rw [hl1] at hbit
            rw [hadL_no hbit, hadL_no hl1, ih]; omega
          · rw [hl1] at hbit
            rw [hadL_yes hbit, hadL_yes hl1, List.length_append, List.length_append, ih]
            simp; omega
    have hk := key n (Nat.le_refl _)
    have hall : T.filter (fun x => decide (x < (n : Int))) = T := List.filter_eq_self.2 fun x hx => by
      obtain ⟨k, rfl, h2, _⟩ := hmem x hx
      simpa using h2
    rw [hall, hlT] at hk
    exact hk
end Go.Proofs.Ytbacnkndllifaaa
