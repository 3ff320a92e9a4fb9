/-
  Package inode and its answer: Same, Need.
-/
import Derived.Test.YtbacnkndllifaaaInoB
namespace Go.Proofs.Ytbacnkndllifaaa
open Go.RowKit
set_option linter.unusedVariables false

theorem box3 {w : World} {x y z : Value} {t : TypeId} : (w.alloc (.cells #[x, y, z] t)).cell? ⟨w.heap.size, 0, none⟩ = some x ∧ (w.alloc (.cells #[x, y, z] t)).cell? ⟨w.heap.size, 1, none⟩ = some y ∧ (w.alloc (.cells #[x, y, z] t)).cell? ⟨w.heap.size, 2, none⟩ = some z :=
  cells3 (heap_alloc_new w _)
theorem box3' {w : World} {o : Obj} {x y z : Value} {t : TypeId} : ((w.alloc o).alloc (.cells #[x, y, z] t)).cell? ⟨w.heap.size + 1, 0, none⟩ = some x ∧ ((w.alloc o).alloc (.cells #[x, y, z] t)).cell? ⟨w.heap.size + 1, 1, none⟩ = some y ∧ ((w.alloc o).alloc (.cells #[x, y, z] t)).cell? ⟨w.heap.size + 1, 2, none⟩ = some z := by
  have h := cells3 (heap_alloc_new (w.alloc o) (.cells #[x, y, z] t))
  rwa [show (w.alloc o).heap.size = w.heap.size + 1 by simp] at h
theorem two28 (w : World) (m1 s1 m2 s2 : Int) (u1 u2 : Value) (t1 t2 : TypeId) : Kept NoB w ((w.alloc (.cells #[.int .i64 m1, .int .i64 s1, u1] t1)).alloc (.cells #[.int .i64 m2, .int .i64 s2, u2] t2)) := ((Kept.refl NoB w).alloc _).alloc _
set_option maxRecDepth 100000 in
theorem iSame_any (m1 s1 m2 s2 : Int) (u1 u2 : Value) (l1 l2 : List Xt) (F G : Nat → Prop) (w : World) (h1 : XSl w F u1 l1) (h2 : XSl w G u2 l2) :
    Calls Try.prog 35 #[iv28 m1 s1 u1, iv28 m2 s2 u2] w (BoolE (decide (m1 = m2 ∧ s1 = s2 ∧ l1 = l2)) w) := by
  have hK := two28 w m1 s1 m2 s2 u1 u2 47 47
  have HEQ := Lib.hid (EqX_any _ _ _ _ _ _ _ (h1.no hK) (h2.no hK))
  have HK := Lib.hid hK
  obtain ⟨c0, c1, c2⟩ := box3 (w := w) (x := .int .i64 m1) (y := .int .i64 s1) (z := u1) (t := 47)
  obtain ⟨d0, d1, d2⟩ := box3' (w := w) (o := .cells #[.int .i64 m1, .int .i64 s1, u1] 47) (x := .int .i64 m2) (y := .int .i64 s2) (z := u2) (t := 47)
  have c0 := cell_alloc c0 (.cells #[.int .i64 m2, .int .i64 s2, u2] 47)
  have c1 := cell_alloc c1 (.cells #[.int .i64 m2, .int .i64 s2, u2] 47)
  have c2 := cell_alloc c2 (.cells #[.int .i64 m2, .int .i64 s2, u2] 47)
  clear hK h1 h2
  by_cases hm : m1 = m2
  · by_cases hs : s1 = s2
    · have HE : Hid (decide (m1 = m2 ∧ s1 = s2 ∧ l1 = l2) = decide (l1 = l2)) := Lib.hid (by simp [hm, hs])
      have e1 : (m1 == m2) = true := by simpa using hm
      have e2 : (s1 == s2) = true := by simpa using hs
      rw [HE.out]
      clear hm hs HE
      go_enter Try.func35, Try.ntmps35
      go_wp2_with (go_at_call 63; refine HEQ.out.mono ?_; rintro e w3 ⟨rfl, hk⟩; have HK3 := Lib.hid (HK.out.trans hk (fun _ _ h => h)); clear hk)
      go_ret
      exact ⟨rfl, HK3.out⟩
    · have HE : Hid (decide (m1 = m2 ∧ s1 = s2 ∧ l1 = l2) = false) := Lib.hid (by simp [hs])
      have e1 : (m1 == m2) = true := by simpa using hm
      have e2 : (s1 == s2) = false := by simpa using hs
      rw [HE.out]
      clear hm hs HE
      go_enter Try.func35, Try.ntmps35
      go_wp2
      go_ret
      exact ⟨rfl, HK.out⟩
  · have HE : Hid (decide (m1 = m2 ∧ s1 = s2 ∧ l1 = l2) = false) := Lib.hid (by simp [hm])
    have e1 : (m1 == m2) = false := by simpa using hm
    rw [HE.out]
    clear hm HE
    go_enter Try.func35, Try.ntmps35
    go_wp2
    go_ret
    exact ⟨rfl, HK.out⟩
theorem iNeed_any (s : Int) (w : World) (h0 : -9223372036854775808 ≤ s) (h1 : s ≤ 9223372036854775807) : Calls Try.prog 46 #[.int .i64 s] w fun e w' => e = .returned (.int .i64 (need28 s)) ∧ w = w' := by
  unfold need28
  by_cases h : s ≤ 0
  · rw [if_pos h]
    go_enter Try.func46, Try.ntmps46
    go_wp2
    go_ret
    exact ⟨rfl, rfl⟩
  · rw [if_neg h]
    have h2 : 0 ≤ s - 1 := by omega
    go_enter Try.func46, Try.ntmps46
    go_wp2
    go_ret
    exact ⟨rfl, rfl⟩
theorem rNeed_any (s : Int) (w : World) (h0 : -9223372036854775808 ≤ s) (h1 : s ≤ 9223372036854775807) : Calls Try.prog 47 #[.int .i64 s] w fun e w' => e = .returned (.int .i64 (need28 s)) ∧ w = w' := by
  have HN : Hid (∀ k : Int, 0 ≤ k → k < 100 → (k - 1) * 64 < s ∨ k = 0 → ¬ k * 64 < s → k = need28 s) := Lib.hid (fun k h0 h1 h2 h3 => by unfold need28; split <;> omega)
  have HB : Hid (99 * 64 < s → (s - 1) / 64 + 1 = need28 s) := Lib.hid (fun h => by unfold need28; rw [if_neg (by omega)])
  obtain ⟨n, hn⟩ : ∃ n, n = need28 s := ⟨_, rfl⟩
  rw [← hn] at HN HB ⊢
  clear hn
  go_enter Try.func47, Try.ntmps47
  go_wp2
  go_loop [3] (fun i => ∃ k : Int, 0 ≤ k ∧ k ≤ 100 ∧ i = .int .i64 k ∧ ((k - 1) * 64 < s ∨ k = 0)) (fun i => (100 - intOf i).toNat)
  case atStart => exact ⟨0, by omega, by omega, rfl, .inr rfl⟩
  case round =>
    obtain ⟨k, hk0, hk1, rfl, hk2⟩ := hrel
    have HK2 := Lib.hid hk2
    by_cases h100 : k < 100
    · by_cases hlt : k * 64 < s
      · clear hk2
        go_wp2
        go_round
        case rel => exact ⟨k + 1, by omega, by omega, rfl, .inl (by omega)⟩
        case measure => simp [intOf]; omega
      · have HX := Lib.hid (HN.out k hk0 h100 hk2 (by omega))
        have h7 : (k == 100) = false := by rw [beq_eq_false_iff_ne]; omega
        clear hk2
        go_wp2
        go_ret
        exact ⟨by rw [HX.out] <;> rfl, rfl⟩
    · obtain rfl : k = 100 := by omega
      have hs : 99 * 64 < s := by omega
      have HX := Lib.hid (HB.out hs)
      have h2 : 0 ≤ s - 1 := by omega
      clear hk2
      go_wp2
      go_ret
      exact ⟨by rw [← HX.out] <;> rfl, rfl⟩
end Go.Proofs.Ytbacnkndllifaaa
