/-
  The chapter's Twice; Twice of a bag, with its answers.
-/
import Derived.Test.YteinjmhogkneoaaBagH
namespace Go.Proofs.Yteinjmhogkneoaa
open Go.RowKit
set_option linter.unusedVariables false

set_option maxRecDepth 100000 in
theorem RTwice_no (B : Nat) (most last : Int) (a : Option Addr) (c : Nat) (l : List It) (i : Int) (w : World) (h : RRow B w a c l) (hi : i < 0 ∨ (l.length : Int) ≤ i) : Calls Try.prog 24 #[rbv most last a l.length c, .int .i64 i] w fun e w' =>
    ∃ b, e = .returned (.tuple #[b, .int .i64 0, .int .i64 7]) ∧ RB B w most last l b w' := by
  have HS := Lib.hid (rs_start w most last a l.length c)
  have HR := Lib.hid ((h.alloc (.cells #[.int .i64 most, .int .i64 last, .slice a l.length c] 27)).alloc (.cells #[.int .i64 0, .int .i64 0, .slice none 0 0] 27))
  have HI := Lib.hid hi
  clear hi h
  go_enter Try.func24, Try.ntmps24
  go_wp2_with fail
  refine (RHas_no most last _ l.length c i _ HI.out).mono ?_
  rintro e w2 ⟨rfl, hk2⟩
  have hs2 := HS.out.no hk2
  have HEND := Lib.hid (rb_ret (last := last) (most := most) hs2.out (HR.out.no hk2) hs2.kept (by omega))
  obtain ⟨q0, q1, q2⟩ := hs2.cells
  obtain ⟨v0, v1, v2⟩ := hs2.ins
  have s0 := (hs2.frz 0).2
  have s1 := (hs2.frz 1).2
  have s2 := (hs2.frz 2).2
  clear hs2 hk2
  go_wp2
  obtain ⟨h1, p0, p1, p2⟩ := HEND.out
  refine bodyPost_ret (v := .tuple #[rbv most last a l.length c, .int .i64 0, .int .i64 7]) ?_ rfl ⟨_, rfl, h1⟩
  simp [results, Try.results24, go_sem, p0, p1, p2]
set_option maxRecDepth 100000 in
set_option maxHeartbeats 4000000 in
theorem RTwice_put (B : Nat) (most last last' no er : Int) (a : Option Addr) (c : Nat) (l l' : List It) (i : Nat) (w : World) (h : RRow B w a c l) (hi : i < l.length)
    (hp : ∀ W, Kept NoB w W → Calls Try.prog 23 #[rbv most last a l.length c, .int .i64 (nth l i).2] W fun e w' => ∃ b, e = .returned (.tuple #[b, .int .i64 no, .int .i64 er]) ∧ RB B W most last' l' b w') :
    Calls Try.prog 24 #[rbv most last a l.length c, .int .i64 i] w fun e w' =>
    ∃ b, e = .returned (.tuple #[b, .int .i64 no, .int .i64 er]) ∧ RB B w most last' l' b w' := by
  have HS := Lib.hid (rs_start w most last a l.length c)
  have HR := Lib.hid ((h.alloc (.cells #[.int .i64 most, .int .i64 last, .slice a l.length c] 27)).alloc (.cells #[.int .i64 0, .int .i64 0, .slice none 0 0] 27))
  have HP := Lib.hid hp
  clear h hp
  have hi1 : (i : Int) < (l.length : Int) := by omega
  go_enter Try.func24, Try.ntmps24
  go_wp2_with fail
  refine (RHas_yes most last _ l.length c i _ hi).mono ?_
  rintro e w2 ⟨rfl, hk2⟩
  have hs2 := HS.out.no hk2
  have HS2 := Lib.hid hs2
  obtain ⟨r, rfl, _, hc, _⟩ := (HR.out.no hk2).items (by omega)
  obtain ⟨_, e1⟩ := hc i hi
  obtain ⟨y, hy⟩ : ∃ y, y = (nth l i).2 := ⟨_, rfl⟩
  rw [← hy] at e1 HP
  obtain ⟨q0, q1, q2⟩ := hs2.cells
  clear hs2 hk2 hc hy HR HS
  go_wp2_with fail
  go_region_law ((go_simp; go_at_call 23; refine (HP.out _ (by first | exact HS2.out.kept | exact HS2.out.kept.drew)).mono ?_; rintro e w3 ⟨b, rfl, a3, c3, rfl, hr3, hk3⟩; have hs3 := HS2.out.no (by first | exact hk3 | exact (Kept.refl NoB w2).drew.trans hk3 (fun _ _ h => h)); obtain ⟨v0, v1, v2⟩ := hs3.ins; have s0 := (hs3.frz 0).2; have s1 := (hs3.frz 1).2; have s2 := (hs3.frz 2).2; have HEND := Lib.hid (rb_ret (last := last') (most := most) hs3.out hr3 hs3.kept (by omega)); clear hs3 hr3 hk3))
  all_goals
    go_wp2
    obtain ⟨h1, p0, p1, p2⟩ := HEND.out
    refine bodyPost_ret (v := .tuple #[rbv most last' a3 l'.length c3, .int .i64 no, .int .i64 er]) ?_ rfl ⟨_, rfl, ?_⟩
    · simp [results, Try.results24, go_sem, p0, p1, p2]
    · first | exact h1 | exact RB.drew h1
end Go.Proofs.Yteinjmhogkneoaa
