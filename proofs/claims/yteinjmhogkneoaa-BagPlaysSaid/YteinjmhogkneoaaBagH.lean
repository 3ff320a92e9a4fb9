/-
  The chapter's Put and Twice.
-/
import Derived.Test.YteinjmhogkneoaaBagF
namespace Go.Proofs.Yteinjmhogkneoaa
open Go.RowKit
set_option linter.unusedVariables false

theorem max6 (most : Int) (t : Array TypeId) (ty : TypeId) (w : World) : (Builtin.max_ t ty #[.int .i64 most, .int .i64 0]).run Try.prog w = .ok (.int .i64 (max most 0)) w := by
  by_cases h : 0 ≤ most
  · rw [show max most 0 = most by omega]
    simp [Builtin.max_, Builtin.max2]
    try omega
  · rw [show max most 0 = 0 by omega]
    simp [Builtin.max_, Builtin.max2]
    try omega
set_option maxRecDepth 100000 in
theorem RPut_full (B : Nat) (most last : Int) (a : Option Addr) (c : Nat) (l : List It) (x : Int) (w : World) (h : RRow B w a c l) (hf : max most 0 ≤ (l.length : Int)) : Calls Try.prog 23 #[rbv most last a l.length c, .int .i64 x] w fun e w' =>
    ∃ b, e = .returned (.tuple #[b, .int .i64 0, .int .i64 9]) ∧ RB B w most last l b w' := by
  have hmax := max6 most
  obtain ⟨M, hM⟩ : ∃ M, M = max most 0 := ⟨_, rfl⟩
  rw [← hM] at hmax hf
  have HR := Lib.hid ((h.alloc (.cells #[.int .i64 most, .int .i64 last, .slice a l.length c] 27)).alloc (.cells #[.int .i64 most, .int .i64 last, .slice a l.length c] 27))
  have hy := heap_alloc_new (w.alloc (.cells #[.int .i64 most, .int .i64 last, .slice a l.length c] 27)) (.cells #[.int .i64 most, .int .i64 last, .slice a l.length c] 27)
  rw [show (w.alloc (.cells #[.int .i64 most, .int .i64 last, .slice a l.length c] 27)).heap.size = w.heap.size + 1 by simp] at hy
  have HY := Lib.hid hy
  clear h hM hy
  go_enter Try.func23, Try.ntmps23
  go_wp2
  have p0 := cell_of_row _ _ 0 _ _ _ HY.out
  have p1 := cell_of_row _ _ 1 _ _ _ HY.out
  have p2 := cell_of_row _ _ 2 _ _ _ HY.out
  refine bodyPost_ret (v := .tuple #[rbv most last a l.length c, .int .i64 0, .int .i64 9]) ?_ rfl ⟨_, rfl, a, c, rfl, HR.out, ((Kept.refl _ _).alloc _).alloc _⟩
  simp [results, Try.results23, go_sem, p0, p1, p2]
theorem RB.drew {B : Nat} {w0 w : World} {most last : Int} {l : List It} {v : Value} (h : RB B w0 most last l v w) : RB B w0 most last l v w.drew := by
  obtain ⟨a, c, h1, h2, h3⟩ := h
  exact ⟨a, c, h1, h2, h3.drew⟩
set_option maxRecDepth 100000 in
set_option maxHeartbeats 4000000 in
theorem RPut_yes (B : Nat) (most last : Int) (a : Option Addr) (c : Nat) (l : List It) (x : Int) (w : World) (h : RRow B w a c l) (hf : (l.length : Int) < max most 0) (hl : l.length ≤ 100000) (h0 : 0 ≤ last) (h1 : last ≤ 100000) (hB : B ≤ w.heap.size) :
    Calls Try.prog 23 #[rbv most last a l.length c, .int .i64 x] w fun e w' =>
    ∃ b, e = .returned (.tuple #[b, .int .i64 (last + 1), .int .i64 0]) ∧ RB B w most (last + 1) (l ++ [(last + 1, x)]) b w' := by
  obtain ⟨i0, hi0, hz0, hz1, hz2⟩ := info_parts Try.info56
  have hmax := max6 most
  obtain ⟨M, hM⟩ : ∃ M, M = max most 0 := ⟨_, rfl⟩
  rw [← hM] at hmax hf
  have hd : decide (M ≤ (l.length : Int)) = false := by simpa using hf
  have HR := Lib.hid h
  clear h hM hf
  go_enter Try.func23, Try.ntmps23
  go_wp2
  have HS := Lib.hid (rs_start w most (last + 1) a l.length c)
  have HR1 := Lib.hid ((HR.out.alloc (.cells #[.int .i64 most, .int .i64 (last + 1), .slice a l.length c] 27)).alloc (.cells #[.int .i64 0, .int .i64 0, .slice none 0 0] 27))
  obtain ⟨W, hW⟩ : ∃ W, W = (w.alloc (.cells #[.int .i64 most, .int .i64 (last + 1), .slice a l.length c] 27)).alloc (.cells #[.int .i64 0, .int .i64 0, .slice none 0 0] 27) := ⟨_, rfl⟩
  rw [← hW] at HS HR1 ⊢
  have HSRC := Lib.hid HR1.out.src
  obtain ⟨q0, q1, q2⟩ := HS.out.cells
  have y2 := (HS.out.frz 2).1
  clear hW
  have q1a := cell_alloc q1 (.cells #[.int .i64 (last + 1), .int .i64 x] 56)
  have q2a := cell_alloc q2 (.cells #[.int .i64 (last + 1), .int .i64 x] 56)
  go_region_law (first
    | (refine step_copy_src _ (by rfl) (.const (.slice none 0 0)) (.tmp 20) _ (by rfl) 56 i0 _ Try.underlying25 hi0 hz0 hz1 hz2 rfl (by rfl) (.slice a l.length c) l (by rfl) (HSRC.out.no (by first | exact (Kept.refl NoB _).drew | exact ((Kept.refl NoB _).alloc _).drew | exact Kept.refl NoB _ | exact (Kept.refl NoB _).alloc _)) (by omega) ?_; intro a3 c3 w3 hown3 hk3; have hkW : Kept NoB W w3 := (by first | exact (Kept.refl NoB _).drew.trans hk3 (fun _ _ h => h) | exact ((Kept.refl NoB _).alloc _).drew.trans hk3 (fun _ _ h => h) | exact hk3 | exact ((Kept.refl NoB _).alloc _).trans hk3 (fun _ _ h => h)); have q1' := (HS.out.no hkW).cells.2.1; have q2' := (HS.out.no hkW).cells.2.2; have y2' := ((HS.out.no hkW).frz 2).1; have q1b := cell_alloc q1' (.cells #[.int .i64 (last + 1), .int .i64 x] 56))
    | (refine step_append_src _ (by rfl) (.tmp 21) (.tmp 26) _ (by rfl) B 56 i0 _ Try.underlying25 hi0 hz0 hz1 hz2 rfl (.slice a3 l.length c3) l.length l (by rfl) (row_mono (row_kept hown3 (S := NoB) (by first | exact Kept.refl NoB _ | exact (Kept.refl NoB _).drew | exact (Kept.refl NoB _).alloc _ | exact ((Kept.refl NoB _).alloc _).drew) (fun _ _ h => h)) (by have h2 := HS.out.kept.size; simp; omega)) _ [(last + 1, x)] (by rfl) (by first | exact src_blk (hk3.heap (fun h => h) (heap_alloc_new W _)) | exact src_one w3 (last + 1, x) _ | exact (src_one w3 (last + 1, x) _).no (Kept.refl NoB _).drew) (by simp; omega) (by have h1 := hkW.size; have h2 := HS.out.kept.size; simp; omega) ?_; intro a4 c4 w4 hown4 hg4 hat4; have hb : ∀ k, (Value.slice a3 l.length c3).ownBlock = some k → NoB k ∨ W.heap.size ≤ k := (fun k hk => .inr (Nat.le_trans (by first | exact Nat.le_refl _ | simp) (own_base hown3 hk))); have hk4 : Kept NoB W w4 := (by first | exact hkW.grown hg4 hb | exact hkW.drew.grown hg4 hb | exact (hkW.alloc _).grown hg4 hb | exact (hkW.alloc _).drew.grown hg4 hb); have y4 := ((HS.out.no hk4).frz 2).1; have q4 := (HS.out.no hk4).cells.2.2; have HO4 := Lib.hid hown4; have HK4 := Lib.hid hk4; clear hown4 hg4 hat4 hk4))
  all_goals
    have hs4 := HS.out.no HK4.out
    have hs5 := hs4.set2 a4 (l.length + 1) c4
    have hr5 := hs4.row (show RRow B w4 a4 c4 (l ++ [(last + 1, x)]) by unfold RRow; rw [List.length_append]; exact HO4.out) 2 (.slice a4 (l.length + 1) c4)
    obtain ⟨W5, hW5⟩ : ∃ W5, W5 = w4.setCell ⟨w.heap.size, 2, none⟩ (.slice a4 (l.length + 1) c4) := ⟨_, rfl⟩
    rw [← hW5] at hs5 hr5 ⊢
    have HEND := Lib.hid (rb_ret (last := last + 1) (most := most) hs5.out hr5 hs5.kept (by omega))
    obtain ⟨q0', q1', q2'⟩ := hs5.cells
    obtain ⟨v0, v1, v2⟩ := hs5.ins
    have s0 := (hs5.frz 0).2
    have s1 := (hs5.frz 1).2
    have s2 := (hs5.frz 2).2
    clear hs4 hs5 hr5 hW5 q0 q1 q2 y2 q1a q2a y4 q4 HO4 HK4 HSRC HS HR1
    go_wp2
    go_region_law (fail)
  all_goals
    go_wp2
    obtain ⟨h1, p0, p1, p2⟩ := HEND.out
    rw [List.length_append] at h1 p0 p1 p2
    refine bodyPost_ret (v := .tuple #[rbv most (last + 1) a4 (l.length + 1) c4, .int .i64 (last + 1), .int .i64 0]) ?_ rfl ⟨_, rfl, ?_⟩
    · simp at p0 p1 p2
      simp [results, Try.results23, go_sem, p0, p1, p2]
    · exact RB.drew h1
end Go.Proofs.Yteinjmhogkneoaa
