/-
  Package inode: Check.
-/
import Derived.Test.YtbacnkndllifaaaInoG
namespace Go.Proofs.Ytbacnkndllifaaa
open Go.RowKit
set_option linter.unusedVariables false

def IntE (r : Int) (w : World) (e : Ending) (w' : World) : Prop := e = .returned (.int .i64 r) ∧ Kept NoB w w'
theorem ret_i {a b : Int} (h : a = b) : Ending.returned (.int .i64 a) = .returned (.int .i64 b) := by rw [h]
set_option maxRecDepth 100000 in
theorem iCheck_any (m s : Int) (u : Value) (l : List Xt) (F : Nat → Prop) (w : World) (h : XSl w F u l) (h0 : -9223372036854775808 ≤ s) (h1 : s ≤ 9223372036854775807) :
    Calls Try.prog 31 #[iv28 m s u] w (IntE (chk28 m s l) w) := by
  have hk0 := (Kept.refl NoB w).alloc (.cells #[.int .i64 m, .int .i64 s, u] 47)
  have HK0 := Lib.hid hk0
  have hb := heap_alloc_new w (.cells #[.int .i64 m, .int .i64 s, u] 47)
  obtain ⟨c0, c1, c2⟩ := cells3 hb
  have HP := Lib.hid (placed_any m s u l _ _ (h.no hk0) h0 h1)
  clear h hk0 hb
  by_cases hm : m < 0 ∨ 2 < m
  · have hr : chk28 m s l = 1 := by unfold chk28; rw [if_pos hm]
    rw [hr]
    by_cases hm0 : m < 0
    · have d1 : decide (m < 0) = true := decide_eq_true hm0
      clear hm hr
      go_enter Try.func31, Try.ntmps31
      go_wp2
      go_ret
      exact ⟨rfl, HK0.out⟩
    · have d1 : decide (m < 0) = false := decide_eq_false hm0
      have d2 : decide (2 < m) = true := decide_eq_true (by omega)
      clear hm hr hm0
      go_enter Try.func31, Try.ntmps31
      go_wp2
      go_ret
      exact ⟨rfl, HK0.out⟩
  · have d1 : decide (m < 0) = false := decide_eq_false (by omega)
    have d2 : decide (2 < m) = false := decide_eq_false (by omega)
    by_cases hs : 512 < s
    · have hr : chk28 m s l = 17 := by unfold chk28; rw [if_neg hm, if_pos hs]
      rw [hr]
      have d3 : decide (512 < s) = true := decide_eq_true hs
      clear hm hr hs
      go_enter Try.func31, Try.ntmps31
      go_wp2
      go_ret
      exact ⟨rfl, HK0.out⟩
    · have d3 : decide (512 < s) = false := decide_eq_false hs
      by_cases hs0 : s < 0
      · have hr : chk28 m s l = 4 := by unfold chk28; rw [if_neg hm, if_neg hs, if_pos (.inl hs0)]
        rw [hr]
        have d4 : decide (s < 0) = true := decide_eq_true hs0
        clear hm hr hs hs0
        go_enter Try.func31, Try.ntmps31
        go_wp2
        go_ret
        exact ⟨rfl, HK0.out⟩
      · have d4 : decide (s < 0) = false := decide_eq_false hs0
        by_cases hms : m = 0 ∧ 0 < s
        · have hr : chk28 m s l = 4 := by unfold chk28; rw [if_neg hm, if_neg hs, if_pos (.inr (.inl hms))]
          rw [hr]
          have d5 : (m == 0) = true := by rw [hms.1]; rfl
          have d6 : decide (0 < s) = true := decide_eq_true hms.2
          clear hm hr hs hs0 hms
          go_enter Try.func31, Try.ntmps31
          go_wp2
          go_ret
          exact ⟨rfl, HK0.out⟩
        · have hr : chk28 m s l = if okB l s = false then 4 else 0 := by
            unfold chk28; rw [if_neg hm, if_neg hs]
            cases hb : okB l s
            · simp
            · rw [if_neg (by simp; exact ⟨by omega, fun h => by have := hms; omega⟩)]; rfl
          rw [hr]
          by_cases hm0 : m = 0
          · have d5 : (m == 0) = true := by rw [hm0]; rfl
            have d6 : decide (0 < s) = false := decide_eq_false (fun h => hms ⟨hm0, h⟩)
            clear hm hr hs hs0 hms hm0
            cases hb : okB l s with
            | true =>
              rw [hb] at HP
              clear hb
              go_enter Try.func31, Try.ntmps31
              go_wp2_with (go_at_call 58; refine HP.out.mono ?_; rintro e w1 ⟨rfl, hk⟩; have HK1 := Lib.hid (HK0.out.trans hk (fun _ _ h => h)); clear hk)
              go_ret
              exact ⟨rfl, HK1.out⟩
            | false =>
              rw [hb] at HP
              clear hb
              go_enter Try.func31, Try.ntmps31
              go_wp2_with (go_at_call 58; refine HP.out.mono ?_; rintro e w1 ⟨rfl, hk⟩; have HK1 := Lib.hid (HK0.out.trans hk (fun _ _ h => h)); clear hk)
              go_ret
              exact ⟨rfl, HK1.out⟩
          · have d5 : (m == 0) = false := by simpa using hm0
            clear hm hr hs hs0 hms hm0
            cases hb : okB l s with
            | true =>
              rw [hb] at HP
              clear hb
              go_enter Try.func31, Try.ntmps31
              go_wp2_with (go_at_call 58; refine HP.out.mono ?_; rintro e w1 ⟨rfl, hk⟩; have HK1 := Lib.hid (HK0.out.trans hk (fun _ _ h => h)); clear hk)
              go_ret
              exact ⟨rfl, HK1.out⟩
            | false =>
              rw [hb] at HP
              clear hb
              go_enter Try.func31, Try.ntmps31
              go_wp2_with (go_at_call 58; refine HP.out.mono ?_; rintro e w1 ⟨rfl, hk⟩; have HK1 := Lib.hid (HK0.out.trans hk (fun _ _ h => h)); clear hk)
              go_ret
              exact ⟨rfl, HK1.out⟩
end Go.Proofs.Ytbacnkndllifaaa
