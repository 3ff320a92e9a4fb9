/-
  Whether two lists are the same; the walk of BallotMeet.
-/
import Derived.Test.YtidhaofojcdbaaaBalF
namespace Go.Proofs.Ytidhaofojcdbaaa
open Go.RowKit
set_option linter.unusedVariables false

theorem Same4_eq (B C : Nat) (v u : Value) (l : List Nat) (w : World) (hv : LOwn B w v l) (hu : LOwn C w u l) (hl : l.length ≤ 1000) :
    Calls Try.prog 74 #[v, u] w fun e w' => e = .returned (.bool true) ∧ ∃ n, w' = w.drewN n := by
  obtain ⟨a1, c1, rfl, _, hc1⟩ := hv.form
  obtain ⟨a2, c2, rfl, _, hc2⟩ := hu.form
  have H1 := Lib.hid hc1
  have H2 := Lib.hid hc2
  clear hv hu hc1 hc2
  go_enter Try.func74, Try.ntmps74
  go_wp2
  go_loopw [5] (fun i wr => ∃ k n : Nat, k ≤ l.length ∧ i = .int .i64 k ∧ wr = w.drewN n) (fun i _ => l.length - (intOf i).toNat)
  case atStart => exact ⟨0, 0, by omega, rfl, rfl⟩
  case round =>
    obtain ⟨k, n, hk, rfl, rfl⟩ := hrel
    by_cases hlt : k < l.length
    · obtain ⟨g1, rfl, _, hg1, hx1⟩ := H1.out k hlt
      obtain ⟨g2, rfl, _, hg2, hx2⟩ := H2.out k hlt
      obtain ⟨x, hx⟩ : ∃ x, x = l.getD k 0 := ⟨_, rfl⟩
      rw [← hx] at hx1 hx2
      have hi0 : (0 : Int) ≤ (k : Int) := by omega
      have hi1 : (k : Int) < (l.length : Int) := by omega
      clear hx
      go_wp2
      go_quiet (fail)
      go_wp2
      go_roundw
      case rel => exact ⟨k + 1, n + nq, by omega, by go_num, rfl⟩
      case measure => simp [intOf]; omega
    · obtain rfl : k = l.length := by omega
      go_wp2
      go_ret
      exact ⟨rfl, _, rfl⟩

theorem below_pre (s k m : Nat) (h : k ≤ m) : ∃ r, below s m = below s k ++ r := by
  induction m with
  | zero => obtain rfl : k = 0 := by omega
            exact ⟨[], by simp⟩
  | succ m ih =>
    by_cases hk : k = m + 1
    · subst hk; exact ⟨[], by simp⟩
    · obtain ⟨r, hr⟩ := ih (by omega)
      exact ⟨r ++ if mem s m then [m] else [], by rw [below_succ, hr, List.append_assoc]⟩
theorem below_two (s t k : Nat) : (below s (k + 1)).length + (below t (k + 1)).length ≤ k + (below (s &&& t) (k + 1)).length := by
  induction k with
  | zero => simp [below_one]
  | succ k ih =>
    rw [below_succ s, below_succ t, below_succ (s &&& t), mem_and]
    simp only [List.length_append]
    cases mem s (k + 1) <;> cases mem t (k + 1) <;> simp <;> omega
/-- The first number of both. -/
theorem meet_first {s t : Nat} {n : Int} (h1 : enough s n = true) (h2 : enough t n = true) : ∃ x r, below (s &&& t) 64 = x :: r ∧ 1 ≤ x ∧ (x : Int) ≤ n := by
  unfold enough at h1 h2
  simp only [Bool.and_eq_true, decide_eq_true_eq] at h1 h2
  obtain ⟨hn, h1⟩ := h1
  obtain ⟨_, h2⟩ := h2
  obtain ⟨k, hk64, hkn, hk⟩ : ∃ k : Nat, k + 1 ≤ 64 ∧ ((k + 1 : Nat) : Int) ≤ n + 1 ∧ (k + 1 = 64 ∨ ((k + 1 : Nat) : Int) = n + 1) := by
    by_cases h : 63 ≤ n
    · exact ⟨63, by omega, by omega, .inl rfl⟩
    · exact ⟨n.toNat, by omega, by omega, .inr (by omega)⟩
  rw [← cnt_cut hk64 hkn hk] at h1 h2
  have h3 := below_two s t k
  have h4 : 0 < (below (s &&& t) (k + 1)).length := by omega
  obtain ⟨x, r, hx⟩ : ∃ x r, below (s &&& t) (k + 1) = x :: r := by
    cases h : below (s &&& t) (k + 1) with
    | nil => rw [h] at h4; simp at h4
    | cons x r => exact ⟨x, r, rfl⟩
  obtain ⟨q, hq⟩ := below_pre (s &&& t) (k + 1) 64 hk64
  have hm := below_mem.1 (show x ∈ below (s &&& t) (k + 1) by rw [hx]; simp)
  refine ⟨x, r ++ q, by rw [hq, hx]; rfl, ?_, by omega⟩
  have := hm.2
  unfold mem at this
  simp at this
  exact this.1

theorem nat_of_u64 {a : Int} (h : 0 ≤ a ∧ a < 18446744073709551616) : ∃ n : Nat, a = n ∧ n < 18446744073709551616 := ⟨a.toNat, by omega, by omega⟩
end Go.Proofs.Ytidhaofojcdbaaa
