/-
  The chapter's Take.
-/
import Derived.Test.YteinjmhogkneoaaBagL
namespace Go.Proofs.Yteinjmhogkneoaa
open Go.RowKit
set_option linter.unusedVariables false

set_option maxRecDepth 100000 in
theorem RTake_no (B : Nat) (most last : Int) (a : Option Addr) (c : Nat) (l : List It) (i : Int) (w : World) (h : RRow B w a c l) (hi : i < 0 ∨ (l.length : Int) ≤ i) : Calls Try.prog 26 #[rbv most last a l.length c, .int .i64 i] w fun e w' =>
    ∃ b, e = .returned b ∧ RB B w most last l b w' := by
  have HS := Lib.hid (rs_start w most last a l.length c)
  have HR := Lib.hid ((h.alloc (.cells #[.int .i64 most, .int .i64 last, .slice a l.length c] 27)).alloc (.cells #[.int .i64 0, .int .i64 0, .slice none 0 0] 27))
  have HI := Lib.hid hi
  clear hi h
  go_enter Try.func26, Try.ntmps26
  go_wp2_with fail
  refine (RHas_no most last _ l.length c i _ HI.out).mono ?_
  rintro e w2 ⟨rfl, hk2⟩
  have hs2 := HS.out.no hk2
  have HEND := Lib.hid (rb_ret (last := last) (most := most) hs2.out (HR.out.no hk2) hs2.kept (by omega))
  obtain ⟨q0, q1, q2⟩ := hs2.cells
  obtain ⟨v0, v1, v2⟩ := hs2.ins
  have s0 := (hs2.frz 0).2
  have s1 := (hs2.frz 1).2
  have s2 := (hs2.frz 2).2
  clear hs2 hk2
  go_wp2
  obtain ⟨h1, p0, p1, p2⟩ := HEND.out
  refine bodyPost_ret (v := rbv most last a l.length c) ?_ rfl ⟨_, rfl, h1⟩
  simp [results, Try.results26, go_sem, p0, p1, p2]
theorem RRow.part {B r c : Nat} {w : World} {l : List It} (h : RRow B w (some ⟨r, 0, none⟩) c l) (n : Nat) : (∀ c', Src w (.slice (some ⟨r, 0, none⟩) (l.take n).length c') (l.take n)) ∧ ∀ c', Src w (.slice (some ⟨r, n * 2, none⟩) (l.drop n).length c') (l.drop n) := by
  have hadd : ∀ o j, (⟨r, o, none⟩ : Addr).add j = ⟨r, o + j, none⟩ := fun o j => by unfold Addr.add; split <;> simp_all
  refine ⟨fun c' => ⟨_, c', rfl, fun h => by simp at h, fun ad ha j u hu => ?_⟩, fun c' => ⟨_, c', rfl, fun h => by simp at h, fun ad ha j u hu => ?_⟩⟩
  · injection ha with ha
    subst ha
    rw [cel_take] at hu
    have hj : j < n * 2 ∧ (cel l)[j]? = some u := by
      rw [List.getElem?_take] at hu
      split at hu
      · exact ⟨by assumption, hu⟩
      · cases hu
    have hlt : j < (cel l).length := by
      rcases Nat.lt_or_ge j (cel l).length with h | h
      · exact h
      · rw [List.getElem?_eq_none h] at hj; cases hj.2
    rw [cel_len] at hlt
    rw [hadd, Nat.zero_add, World.ownsRow.cellAt h j hlt]
    exact hj.2
  · injection ha with ha
    subst ha
    rw [cel_drop, List.getElem?_drop] at hu
    have hlt : n * 2 + j < (cel l).length := by
      rcases Nat.lt_or_ge (n * 2 + j) (cel l).length with h | h
      · exact h
      · rw [List.getElem?_eq_none h] at hu; cases hu
    rw [cel_len] at hlt
    rw [hadd, World.ownsRow.cellAt h _ hlt]
    exact hu
set_option maxRecDepth 100000 in
set_option maxHeartbeats 4000000 in
theorem RTake_aux (B r k : Nat) (most last : Int) (l1 l2 : List It) (w : World) (hl : l1.length + 1 + l2.length ≤ 100000) (hcm : l1.length + 1 + l2.length + k ≤ 9223372036854775807) (hB : B ≤ w.heap.size) (hcap : ¬ l2.length + k = 0)
    (hs1 : ∀ c', Src w (.slice (some ⟨r, 0, none⟩) l1.length c') l1) (hs2 : ∀ o c', (l2.length = 0 ∨ o = (l1.length + 1) * 2) → Src w (.slice (some ⟨r, o, none⟩) l2.length c') l2) :
    Calls Try.prog 26 #[rbv most last (some ⟨r, 0, none⟩) (l1.length + 1 + l2.length) (l1.length + 1 + l2.length + k), .int .i64 l1.length] w fun e w' => ∃ b, e = .returned b ∧ RB B w most last (l1 ++ l2) b w' := by
  obtain ⟨i0, hi0, hz0, hz1, hz2⟩ := info_parts Try.info56
  have HS := Lib.hid (rs_start w most last (some ⟨r, 0, none⟩) (l1.length + 1 + l2.length) (l1.length + 1 + l2.length + k))
  have HS1 := Lib.hid hs1
  have HS2 := Lib.hid hs2
  have hwr : IntKind.i64.wrap ((l1.length : Int) + 1) = (l1.length : Int) + 1 := IntWalk.i64_in _ (by omega)
  have hii : (l1.length : Int) ≤ (l1.length : Int) + 1 := by omega
  have hi1 : (0 : Int) ≤ (l1.length : Int) + 1 := by omega
  have hi2 : (l1.length : Int) + 1 ≤ (l1.length : Int) + 1 + (l2.length : Int) := by omega
  have hi3 : (l1.length : Int) ≤ (l1.length : Int) + 1 + (l2.length : Int) + (k : Int) := by omega
  have hi4 : (l1.length : Int) + 1 + (l2.length : Int) ≤ (l1.length : Int) + 1 + (l2.length : Int) + (k : Int) := by omega
  clear hs1 hs2
  · have hc' : ¬ (l1.length + 1 + l2.length + k = l1.length + 1) := by omega
    go_enter Try.func26, Try.ntmps26
    go_wp2_with fail
    refine (RHas_yes most last _ (l1.length + 1 + l2.length) _ l1.length _ (by omega)).mono ?_
    rintro e w2 ⟨rfl, hk2⟩
    have hs2 := HS.out.no hk2
    have HK2 := Lib.hid hs2.kept
    have HSW := Lib.hid hs2
    obtain ⟨q0, q1, q2⟩ := hs2.cells
    clear hs2 hk2 HS
    go_wp2_with fail
    go_region_law (first
      | (refine step_copy_src _ (by rfl) (.const (.slice none 0 0)) (.tmp 13) _ (by rfl) 56 i0 _ Try.underlying25 hi0 hz0 hz1 hz2 rfl (by rfl) (.slice (some ⟨r, 0, none⟩) l1.length _) l1 (by simp [Act.eval, Act.put]; try rfl) ((HS1.out _).no (by first | exact HK2.out | exact HK2.out.drew)) (by omega) ?_; intro a3 c3 w3 hown3 hk3; have hkW : Kept NoB w2 w3 := (by first | exact hk3 | exact (Kept.refl NoB _).drew.trans hk3 (fun _ _ h => h)); have q2' := (HSW.out.no hkW).cells.2.2)
      | (refine step_append_src _ (by rfl) (.tmp 14) (.tmp 19) _ (by rfl) B 56 i0 _ Try.underlying25 hi0 hz0 hz1 hz2 rfl (.slice a3 l1.length c3) l1.length l1 (by rfl) (row_mono (row_kept hown3 (S := NoB) (by first | exact Kept.refl NoB _ | exact (Kept.refl NoB _).drew) (fun _ _ h => h)) (by have h2 := HK2.out.size; simp; omega)) (.slice (some ⟨r, (l1.length + 1) * 2, none⟩) l2.length _) l2 (by simp [Act.eval, Act.put]; try rfl) ((HS2.out _ _ (.inr rfl)).no (by first | exact HK2.out.trans hkW (fun _ _ h => h) | exact (HK2.out.trans hkW (fun _ _ h => h)).drew)) (by omega) (by have h1 := hkW.size; have h2 := HK2.out.size; simp; omega) ?_; intro a4 c4 w4 hown4 hg4 hat4; have hb : ∀ k, (Value.slice a3 l1.length c3).ownBlock = some k → NoB k ∨ w2.heap.size ≤ k := (fun k hk => .inr (Nat.le_trans (by first | exact Nat.le_refl _ | simp) (own_base hown3 hk))); have hk4 : Kept NoB w2 w4 := (by first | exact hkW.grown hg4 hb | exact hkW.drew.grown hg4 hb); have y4 := ((HSW.out.no hk4).frz 2).1; have q4 := (HSW.out.no hk4).cells.2.2; have HO4 := Lib.hid hown4; have HK4 := Lib.hid hk4; clear hown4 hg4 hat4 hk4))
    all_goals
      have hs4 := HSW.out.no HK4.out
      have hs5 := hs4.set2 a4 (l1.length + l2.length) c4
      have hr5 := hs4.row (show RRow B w4 a4 c4 (l1 ++ l2) by unfold RRow; rw [List.length_append]; exact HO4.out) 2 (.slice a4 (l1.length + l2.length) c4)
      obtain ⟨W5, hW5⟩ : ∃ W5, W5 = w4.setCell ⟨w.heap.size, 2, none⟩ (.slice a4 (l1.length + l2.length) c4) := ⟨_, rfl⟩
      rw [← hW5] at hs5 hr5 ⊢
      have HEND := Lib.hid (rb_ret (last := last) (most := most) hs5.out hr5 hs5.kept (by omega))
      obtain ⟨q0', q1', q2'⟩ := hs5.cells
      obtain ⟨v0, v1, v2⟩ := hs5.ins
      have s0 := (hs5.frz 0).2
      have s1 := (hs5.frz 1).2
      have s2 := (hs5.frz 2).2
      clear hs4 hs5 hr5 hW5 q0 q1 q2 y4 q4 HO4 HK4 HSW
      go_wp2
      obtain ⟨h1, p0, p1, p2⟩ := HEND.out
      rw [List.length_append] at h1 p0 p1 p2
      refine bodyPost_ret (v := rbv most last a4 (l1.length + l2.length) c4) ?_ rfl ⟨_, rfl, ?_⟩
      · simp [results, Try.results26, go_sem, p0, p1, p2]
      · first | exact h1 | exact RB.drew h1
set_option maxRecDepth 100000 in
set_option maxHeartbeats 4000000 in
theorem RTake_last (B r : Nat) (most last : Int) (l1 : List It) (w : World) (hl : l1.length + 1 ≤ 100000) (hcm : l1.length + 1 ≤ 9223372036854775807) (hB : B ≤ w.heap.size)
    (hs1 : ∀ c', Src w (.slice (some ⟨r, 0, none⟩) l1.length c') l1) :
    Calls Try.prog 26 #[rbv most last (some ⟨r, 0, none⟩) (l1.length + 1) (l1.length + 1), .int .i64 l1.length] w fun e w' => ∃ b, e = .returned b ∧ RB B w most last l1 b w' := by
  obtain ⟨i0, hi0, hz0, hz1, hz2⟩ := info_parts Try.info56
  have HS := Lib.hid (rs_start w most last (some ⟨r, 0, none⟩) (l1.length + 1) (l1.length + 1))
  have HS1 := Lib.hid hs1
  have hwr : IntKind.i64.wrap ((l1.length : Int) + 1) = (l1.length : Int) + 1 := IntWalk.i64_in _ (by omega)
  have hi1 : (0 : Int) ≤ (l1.length : Int) + 1 := by omega
  have hii : (l1.length : Int) ≤ (l1.length : Int) + 1 := by omega
  clear hs1
  · go_enter Try.func26, Try.ntmps26
    go_wp2_with fail
    refine (RHas_yes most last _ (l1.length + 1) _ l1.length _ (by omega)).mono ?_
    rintro e w2 ⟨rfl, hk2⟩
    have hs2 := HS.out.no hk2
    have HK2 := Lib.hid hs2.kept
    have HSW := Lib.hid hs2
    obtain ⟨q0, q1, q2⟩ := hs2.cells
    clear hs2 hk2 HS
    go_wp2_with fail
    go_region_law (first
      | (refine step_copy_src _ (by rfl) (.const (.slice none 0 0)) (.tmp 13) _ (by rfl) 56 i0 _ Try.underlying25 hi0 hz0 hz1 hz2 rfl (by rfl) (.slice (some ⟨r, 0, none⟩) l1.length _) l1 (by simp [Act.eval, Act.put]; try rfl) ((HS1.out _).no (by first | exact HK2.out | exact HK2.out.drew)) (by omega) ?_; intro a3 c3 w3 hown3 hk3; have hkW : Kept NoB w2 w3 := (by first | exact hk3 | exact (Kept.refl NoB _).drew.trans hk3 (fun _ _ h => h)); have q2' := (HSW.out.no hkW).cells.2.2)
      | (refine step_append_src _ (by rfl) (.tmp 14) (.tmp 19) _ (by rfl) B 56 i0 _ Try.underlying25 hi0 hz0 hz1 hz2 rfl (.slice a3 l1.length c3) l1.length l1 (by rfl) (row_mono (row_kept hown3 (S := NoB) (by first | exact Kept.refl NoB _ | exact (Kept.refl NoB _).drew) (fun _ _ h => h)) (by have h2 := HK2.out.size; simp; omega)) (.slice (some ⟨r, 0, none⟩) 0 0) [] (by simp [Act.eval, Act.put]; try rfl) ⟨_, _, rfl, fun h => by simp at h, fun ad ha j u hu => by simp [cel] at hu⟩ (by simp; omega) (by have h1 := hkW.size; have h2 := HK2.out.size; simp; omega) ?_; intro a4 c4 w4 hown4 hg4 hat4; have hb : ∀ k, (Value.slice a3 l1.length c3).ownBlock = some k → NoB k ∨ w2.heap.size ≤ k := (fun k hk => .inr (Nat.le_trans (by first | exact Nat.le_refl _ | simp) (own_base hown3 hk))); have hk4 : Kept NoB w2 w4 := (by first | exact hkW.grown hg4 hb | exact hkW.drew.grown hg4 hb); have y4 := ((HSW.out.no hk4).frz 2).1; have q4 := (HSW.out.no hk4).cells.2.2; have HO4 := Lib.hid hown4; have HK4 := Lib.hid hk4; clear hown4 hg4 hat4 hk4))
    all_goals
      have hs4 := HSW.out.no HK4.out
      have hs5 := hs4.set2 a4 (l1.length) c4
      have hr5 := hs4.row (show RRow B w4 a4 c4 l1 by have h := HO4.out; rw [List.append_nil] at h; exact h) 2 (.slice a4 (l1.length) c4)
      obtain ⟨W5, hW5⟩ : ∃ W5, W5 = w4.setCell ⟨w.heap.size, 2, none⟩ (.slice a4 (l1.length) c4) := ⟨_, rfl⟩
      rw [← hW5] at hs5 hr5 ⊢
      have HEND := Lib.hid (rb_ret (last := last) (most := most) hs5.out hr5 hs5.kept (by omega))
      obtain ⟨q0', q1', q2'⟩ := hs5.cells
      obtain ⟨v0, v1, v2⟩ := hs5.ins
      have s0 := (hs5.frz 0).2
      have s1 := (hs5.frz 1).2
      have s2 := (hs5.frz 2).2
      clear hs4 hs5 hr5 hW5 q0 q1 q2 y4 q4 HO4 HK4 HSW
      go_wp2
      obtain ⟨h1, p0, p1, p2⟩ := HEND.out
      refine bodyPost_ret (v := rbv most last a4 (l1.length) c4) ?_ rfl ⟨_, rfl, ?_⟩
      · simp [results, Try.results26, go_sem, p0, p1, p2]
      · first | exact h1 | exact RB.drew h1
theorem RTake_yes (B : Nat) (most last : Int) (a : Option Addr) (c : Nat) (l : List It) (i : Nat) (w : World) (h : RRow B w a c l) (hi : i < l.length) (hl : l.length ≤ 100000) (hB : B ≤ w.heap.size) :
    Calls Try.prog 26 #[rbv most last a l.length c, .int .i64 i] w fun e w' => ∃ b, e = .returned b ∧ RB B w most last (l.eraseIdx i) b w' := by
  obtain ⟨r, rfl, _, _, hlc, hcm, _⟩ := h.items (by omega)
  unfold maxLen at hcm
  have hs1 := (h.part i).1
  have hs2 := (h.part (i + 1)).2
  have e1 : (l.take i).length = i := by rw [List.length_take]; omega
  have e2 : l.length = (l.take i).length + 1 + (l.drop (i + 1)).length := by rw [e1, List.length_drop]; omega
  have e3 : l.eraseIdx i = l.take i ++ l.drop (i + 1) := by rw [List.eraseIdx_eq_take_drop_succ]
  obtain ⟨k, hk⟩ : ∃ k, c = l.length + k := ⟨c - l.length, by omega⟩
  subst hk
  rw [e3]
  rw [show (i : Int) = ((l.take i).length : Int) by rw [e1]]
  by_cases hcap : (l.drop (i + 1)).length + k = 0
  · have e4 : l.drop (i + 1) = [] := List.eq_nil_of_length_eq_zero (by omega)
    obtain rfl : k = 0 := by omega
    rw [e4] at e2 ⊢
    rw [List.append_nil, e2]
    exact RTake_last B r most last (l.take i) w (by simp at e2; omega) (by simp at e2; omega) hB hs1
  · rw [e2] at hcm ⊢
    refine RTake_aux B r k most last (l.take i) (l.drop (i + 1)) w (by omega) (by omega) hB hcap hs1 (fun o c' ho => ?_)
    rcases ho with ho | rfl
    · exact ⟨_, c', rfl, fun h => by simp at h, fun ad ha j u hu => by rw [List.eq_nil_of_length_eq_zero ho] at hu; simp [cel] at hu⟩
    · rw [e1]
      exact hs2 c'
end Go.Proofs.Yteinjmhogkneoaa
