/-
  Whether two lists are the same; the walk of BallotMeet.
-/
import Derived.Test.YtdohnobfaignpaaBalF
namespace Go.Proofs.Ytdohnobfaignpaa
open Go.RowKit
set_option linter.unusedVariables false

theorem Same4_eq (B C : Nat) (v u : Value) (l : List Nat) (w : World) (hv : LOwn B w v l) (hu : LOwn C w u l) (hl : l.length ≤ 1000) :
    Calls Try.prog 22 #[v, u] w fun e w' => e = .returned (.bool true) ∧ ∃ n, w' = w.drewN n := by
  obtain ⟨a1, c1, rfl, _, hc1⟩ := hv.form
  obtain ⟨a2, c2, rfl, _, hc2⟩ := hu.form
  have H1 := Lib.hid hc1
  have H2 := Lib.hid hc2
  clear hv hu hc1 hc2
  go_enter Try.func22, Try.ntmps22
  go_wp2
  go_loopw [5] (fun i wr => ∃ k n : Nat, k ≤ l.length ∧ i = .int .i64 k ∧ wr = w.drewN n) (fun i _ => l.length - (intOf i).toNat)
  case atStart => exact ⟨0, 0, by omega, rfl, rfl⟩
  case round =>
    obtain ⟨k, n, hk, rfl, rfl⟩ := hrel
    by_cases hlt : k < l.length
    · obtain ⟨g1, rfl, _, hg1, hx1⟩ := H1.out k hlt
      obtain ⟨g2, rfl, _, hg2, hx2⟩ := H2.out k hlt
      obtain ⟨x, hx⟩ : ∃ x, x = l.getD k 0 := ⟨_, rfl⟩
      rw [← hx] at hx1 hx2
      have hi0 : (0 : Int) ≤ (k : Int) := by omega
      have hi1 : (k : Int) < (l.length : Int) := by omega
      clear hx
      go_wp2
      go_quiet (fail)
      go_wp2
      go_roundw
      case rel => exact ⟨k + 1, n + nq, by omega, by go_num, rfl⟩
      case measure => simp [intOf]; omega
    · obtain rfl : k = l.length := by omega
      go_wp2
      go_ret
      exact ⟨rfl, _, rfl⟩

theorem below_pre (s k m : Nat) (h : k ≤ m) : ∃ r, below s m = below s k ++ r := by
  induction m with
  | zero => obtain rfl : k = 0 := by omega
            exact ⟨[], by simp⟩
  | succ m ih =>
    by_cases hk : k = m + 1
    · subst hk; exact ⟨[], by simp⟩
    · obtain ⟨r, hr⟩ := ih (by omega)
      exact ⟨r ++ if mem s m then [m] else [], by rw [below_succ, hr, List.append_assoc]⟩
theorem below_two (s t k : Nat) : (below s (k + 1)).length + (below t (k + 1)).length ≤ k + (below (s &&& t) (k + 1)).length := by
  induction k with
  | zero => simp [below_one]
  | succ k ih =>
    rw [below_succ s, below_succ t, below_succ (s &&& t), mem_and]
    simp only [List.length_append]
    cases mem s (k + 1) <;> cases mem t (k + 1) <;> simp <;> omega
/-- The first number of both. -/
theorem meet_first {s t : Nat} {n : Int} (h1 : enough s n = true) (h2 : enough t n = true) : ∃ x r, below (s &&& t) 64 = x :: r ∧ 1 ≤ x ∧ (x : Int) ≤ n := by
  unfold enough at h1 h2
  simp only [Bool.and_eq_true, decide_eq_true_eq] at h1 h2
  obtain ⟨hn, h1⟩ := h1
  obtain ⟨_, h2⟩ := h2
  obtain ⟨k, hk64, hkn, hk⟩ : ∃ k : Nat, k + 1 ≤ 64 ∧ ((k + 1 : Nat) : Int) ≤ n + 1 ∧ (k + 1 = 64 ∨ ((k + 1 : Nat) : Int) = n + 1) := by
    by_cases h : 63 ≤ n
    · exact ⟨63, by omega, by omega, .inl rfl⟩
    · exact ⟨n.toNat, by omega, by omega, .inr (by omega)⟩
  rw [← cnt_cut hk64 hkn hk] at h1 h2
  have h3 := below_two s t k
  have h4 : 0 < (below (s &&& t) (k + 1)).length := by omega
  obtain ⟨x, r, hx⟩ : ∃ x r, below (s &&& t) (k + 1) = x :: r := by
    cases h : below (s &&& t) (k + 1) with
    | nil => rw [h] at h4; simp at h4
    | cons x r => exact ⟨x, r, rfl⟩
  obtain ⟨q, hq⟩ := below_pre (s &&& t) (k + 1) 64 hk64
  have hm := below_mem.1 (show x ∈ below (s &&& t) (k + 1) by rw [hx]; simp)
  refine ⟨x, r ++ q, by rw [hq, hx]; rfl, ?_, by omega⟩
  have := hm.2
  unfold mem at this
  simp at this
  exact this.1

theorem BallotMeet_any (s t : Nat) (n : Int) (w : World) (hs : s < 18446744073709551616) (ht : t < 18446744073709551616) (hn : n ≤ 9223372036854775807) :
    Calls Try.prog 6 #[.int .u64 s, .int .u64 t, .int .i64 n] w fun e w' => e = .returned (.bool true) ∧ Kept NoB w w' := by
  cases h1 : enough s n with
  | false =>
    have HE := Lib.hid (bEnough_any s n w hs hn)
    rw [h1] at HE
    clear h1
    go_enter Try.func6, Try.ntmps6
    go_wp2_with fail
    refine HE.out.mono ?_
    rintro e w' ⟨rfl, hk⟩
    have HK := Lib.hid hk
    clear hk
    go_wp2_with (go_at_call 15; refine (awake7 _).mono ?_; rintro e w' ⟨rfl, rfl⟩)
    go_ret
    exact ⟨rfl, HK.out⟩
  | true =>
    cases h2 : enough t n with
    | false =>
      have HE := Lib.hid (bEnough_any s n w hs hn)
      rw [h1] at HE
      have HF : Hid (∀ w, Calls Try.prog 28 #[.int .u64 t, .int .i64 n] w fun e w' => e = .returned (.bool false) ∧ Kept NoB w w') := Lib.hid (fun w => h2 ▸ bEnough_any t n w ht hn)
      clear h1 h2
      go_enter Try.func6, Try.ntmps6
      go_wp2_with fail
      refine HE.out.mono ?_
      rintro e w' ⟨rfl, hk⟩
      have HK := Lib.hid hk
      clear hk
      go_wp2_with fail
      refine (HF.out _).mono ?_
      rintro e w2 ⟨rfl, hk⟩
      have HK2 := Lib.hid hk
      clear hk
      go_wp2_with (go_at_call 15; refine (awake7 _).mono ?_; rintro e w' ⟨rfl, rfl⟩)
      go_ret
      exact ⟨rfl, HK.out.trans HK2.out (fun _ _ h => h)⟩
    | true =>
      obtain ⟨x, r, hx, hx1, hxn⟩ := meet_first h1 h2
      have HE := Lib.hid (bEnough_any s n w hs hn)
      rw [h1] at HE
      have HF : Hid (∀ w, Calls Try.prog 28 #[.int .u64 t, .int .i64 n] w fun e w' => e = .returned (.bool true) ∧ Kept NoB w w') := Lib.hid (fun w => h2 ▸ bEnough_any t n w ht hn)
      have HG : Hid (∀ w, Calls Try.prog 30 #[.int .u64 s, .int .u64 t] w (Lists w (x :: r))) := Lib.hid (fun w => hx ▸ bMeet_any s t w hs ht)
      clear h1 h2 hx
      have hx1' : (1 : Int) ≤ (x : Int) := by omega
      go_enter Try.func6, Try.ntmps6
      go_wp2_with fail
      refine HE.out.mono ?_
      rintro e w' ⟨rfl, hk⟩
      have HK := Lib.hid hk
      clear hk
      go_wp2_with fail
      refine (HF.out _).mono ?_
      rintro e w2 ⟨rfl, hk⟩
      have HK2 := Lib.hid hk
      clear hk
      go_wp2_with fail
      refine (HG.out _).mono ?_
      rintro e w3 ⟨v, rfl, h1, h2⟩
      obtain ⟨a, c, rfl, _, hc⟩ := h1.form
      obtain ⟨g, rfl, _, hg, hcell⟩ := hc 0 (by simp)
      have hcell' : w3.cell? ⟨g, 0, none⟩ = some (.int .i64 (x : Int)) := hcell
      have HK3 := Lib.hid h2
      have hl0 : 0 < (x :: r).length := by simp
      obtain ⟨m, hm⟩ : ∃ m, m = (x :: r).length := ⟨_, rfl⟩
      rw [← hm] at hl0 ⊢
      clear h1 h2 hc hcell hm
      go_wp2_with (go_at_call 15; refine (awake7 _).mono ?_; rintro e w' ⟨rfl, rfl⟩)
      go_ret
      exact ⟨rfl, (HK.out.trans HK2.out (fun _ _ h => h)).trans HK3.out (fun _ _ h => h)⟩
theorem nat_of_u64 {a : Int} (h : 0 ≤ a ∧ a < 18446744073709551616) : ∃ n : Nat, a = n ∧ n < 18446744073709551616 := ⟨a.toNat, by omega, by omega⟩
theorem BallotMeet_u (a b n : Int) (w : World) (ha : 0 ≤ a ∧ a < 18446744073709551616) (hb : 0 ≤ b ∧ b < 18446744073709551616) (hn : n ≤ 9223372036854775807) :
    Calls Try.prog 6 #[.int .u64 a, .int .u64 b, .int .i64 n] w fun e w' => e = .returned (.bool true) ∧ Kept NoB w w' := by
  obtain ⟨s, rfl, hs⟩ := nat_of_u64 ha
  obtain ⟨t, rfl, ht⟩ := nat_of_u64 hb
  exact BallotMeet_any s t n w hs ht hn
end Go.Proofs.Ytdohnobfaignpaa
