/-
  The walks of BallotOf and BallotNext.
-/
import Derived.Test.YtdohnobfaignpaaBalB
namespace Go.Proofs.Ytdohnobfaignpaa
open Go.RowKit
set_option linter.unusedVariables false
theorem BallotOf_yes_yes (r m b : Int) (w : World) (h0 : 0 ≤ r) (h1 : r ≤ 18446744073709551615) (h2 : 0 ≤ b) (h3 : b ≤ 18446744073709551615) (hF : Fine r m) (hG : Fine (b / 8) (b % 8)) : Calls Try.prog 3 #[.int .u64 r, .int .i64 m, .int .u64 b] w fun e w' => e = .returned (.bool true) ∧ w = w' := by
  have H1 := Lib.hid (bOf_yes r m w hF)
  have H2 := Lib.hid (rOf_yes r m w hF)
  have H3 := Lib.hid (bIs_yes b w h2 h3 hG)
  have H4 := Lib.hid (rIs_yes b w h2 h3 hG)
  have H5 := Lib.hid (bRound_yes b w h2 h3 hG)
  have H6 := Lib.hid (rRound_yes b w h2 h3 hG)
  have H7 := Lib.hid (bWho_yes b w h2 h3 hG)
  have H8 := Lib.hid (rWho_yes b w h2 h3 hG)
  have HA := Lib.hid (awake7 w)
  clear hF hG
  go_enter Try.func3, Try.ntmps3
  go_wp2_with (first | (go_at_call 7; refine H1.out.mono ?_; rintro e w' ⟨rfl, rfl⟩) | (go_at_call 8; refine H2.out.mono ?_; rintro e w' ⟨rfl, rfl⟩) | (go_at_call 9; refine H3.out.mono ?_; rintro e w' ⟨rfl, rfl⟩) | (go_at_call 10; refine H4.out.mono ?_; rintro e w' ⟨rfl, rfl⟩) | (go_at_call 11; refine H5.out.mono ?_; rintro e w' ⟨rfl, rfl⟩) | (go_at_call 12; refine H6.out.mono ?_; rintro e w' ⟨rfl, rfl⟩) | (go_at_call 13; refine H7.out.mono ?_; rintro e w' ⟨rfl, rfl⟩) | (go_at_call 14; refine H8.out.mono ?_; rintro e w' ⟨rfl, rfl⟩) | (go_at_call 15; refine HA.out.mono ?_; rintro e w' ⟨rfl, rfl⟩))
  go_ret
  exact ⟨rfl, rfl⟩
theorem BallotOf_yes_no (r m b : Int) (w : World) (h0 : 0 ≤ r) (h1 : r ≤ 18446744073709551615) (h2 : 0 ≤ b) (h3 : b ≤ 18446744073709551615) (hF : Fine r m) (hG : ¬ Fine (b / 8) (b % 8)) : Calls Try.prog 3 #[.int .u64 r, .int .i64 m, .int .u64 b] w fun e w' => e = .returned (.bool true) ∧ w = w' := by
  have H1 := Lib.hid (bOf_yes r m w hF)
  have H2 := Lib.hid (rOf_yes r m w hF)
  have H3 := Lib.hid (bIs_no b w h2 h3 hG)
  have H4 := Lib.hid (rIs_no b w h2 h3 hG)
  have H5 := Lib.hid (bRound_no b w h2 h3 hG)
  have H6 := Lib.hid (rRound_no b w h2 h3 hG)
  have H7 := Lib.hid (bWho_no b w h2 h3 hG)
  have H8 := Lib.hid (rWho_no b w h2 h3 hG)
  have HA := Lib.hid (awake7 w)
  clear hF hG
  go_enter Try.func3, Try.ntmps3
  go_wp2_with (first | (go_at_call 7; refine H1.out.mono ?_; rintro e w' ⟨rfl, rfl⟩) | (go_at_call 8; refine H2.out.mono ?_; rintro e w' ⟨rfl, rfl⟩) | (go_at_call 9; refine H3.out.mono ?_; rintro e w' ⟨rfl, rfl⟩) | (go_at_call 10; refine H4.out.mono ?_; rintro e w' ⟨rfl, rfl⟩) | (go_at_call 11; refine H5.out.mono ?_; rintro e w' ⟨rfl, rfl⟩) | (go_at_call 12; refine H6.out.mono ?_; rintro e w' ⟨rfl, rfl⟩) | (go_at_call 13; refine H7.out.mono ?_; rintro e w' ⟨rfl, rfl⟩) | (go_at_call 14; refine H8.out.mono ?_; rintro e w' ⟨rfl, rfl⟩) | (go_at_call 15; refine HA.out.mono ?_; rintro e w' ⟨rfl, rfl⟩))
  go_ret
  exact ⟨rfl, rfl⟩
theorem BallotOf_no_yes (r m b : Int) (w : World) (h0 : 0 ≤ r) (h1 : r ≤ 18446744073709551615) (h2 : 0 ≤ b) (h3 : b ≤ 18446744073709551615) (hF : ¬ Fine r m) (hG : Fine (b / 8) (b % 8)) : Calls Try.prog 3 #[.int .u64 r, .int .i64 m, .int .u64 b] w fun e w' => e = .returned (.bool true) ∧ w = w' := by
  have H1 := Lib.hid (bOf_no r m w h0 hF)
  have H2 := Lib.hid (rOf_no r m w h0 hF)
  have H3 := Lib.hid (bIs_yes b w h2 h3 hG)
  have H4 := Lib.hid (rIs_yes b w h2 h3 hG)
  have H5 := Lib.hid (bRound_yes b w h2 h3 hG)
  have H6 := Lib.hid (rRound_yes b w h2 h3 hG)
  have H7 := Lib.hid (bWho_yes b w h2 h3 hG)
  have H8 := Lib.hid (rWho_yes b w h2 h3 hG)
  have HA := Lib.hid (awake7 w)
  clear hF hG
  go_enter Try.func3, Try.ntmps3
  go_wp2_with (first | (go_at_call 7; refine H1.out.mono ?_; rintro e w' ⟨rfl, rfl⟩) | (go_at_call 8; refine H2.out.mono ?_; rintro e w' ⟨rfl, rfl⟩) | (go_at_call 9; refine H3.out.mono ?_; rintro e w' ⟨rfl, rfl⟩) | (go_at_call 10; refine H4.out.mono ?_; rintro e w' ⟨rfl, rfl⟩) | (go_at_call 11; refine H5.out.mono ?_; rintro e w' ⟨rfl, rfl⟩) | (go_at_call 12; refine H6.out.mono ?_; rintro e w' ⟨rfl, rfl⟩) | (go_at_call 13; refine H7.out.mono ?_; rintro e w' ⟨rfl, rfl⟩) | (go_at_call 14; refine H8.out.mono ?_; rintro e w' ⟨rfl, rfl⟩) | (go_at_call 15; refine HA.out.mono ?_; rintro e w' ⟨rfl, rfl⟩))
  go_ret
  exact ⟨rfl, rfl⟩
theorem BallotOf_no_no (r m b : Int) (w : World) (h0 : 0 ≤ r) (h1 : r ≤ 18446744073709551615) (h2 : 0 ≤ b) (h3 : b ≤ 18446744073709551615) (hF : ¬ Fine r m) (hG : ¬ Fine (b / 8) (b % 8)) : Calls Try.prog 3 #[.int .u64 r, .int .i64 m, .int .u64 b] w fun e w' => e = .returned (.bool true) ∧ w = w' := by
  have H1 := Lib.hid (bOf_no r m w h0 hF)
  have H2 := Lib.hid (rOf_no r m w h0 hF)
  have H3 := Lib.hid (bIs_no b w h2 h3 hG)
  have H4 := Lib.hid (rIs_no b w h2 h3 hG)
  have H5 := Lib.hid (bRound_no b w h2 h3 hG)
  have H6 := Lib.hid (rRound_no b w h2 h3 hG)
  have H7 := Lib.hid (bWho_no b w h2 h3 hG)
  have H8 := Lib.hid (rWho_no b w h2 h3 hG)
  have HA := Lib.hid (awake7 w)
  clear hF hG
  go_enter Try.func3, Try.ntmps3
  go_wp2_with (first | (go_at_call 7; refine H1.out.mono ?_; rintro e w' ⟨rfl, rfl⟩) | (go_at_call 8; refine H2.out.mono ?_; rintro e w' ⟨rfl, rfl⟩) | (go_at_call 9; refine H3.out.mono ?_; rintro e w' ⟨rfl, rfl⟩) | (go_at_call 10; refine H4.out.mono ?_; rintro e w' ⟨rfl, rfl⟩) | (go_at_call 11; refine H5.out.mono ?_; rintro e w' ⟨rfl, rfl⟩) | (go_at_call 12; refine H6.out.mono ?_; rintro e w' ⟨rfl, rfl⟩) | (go_at_call 13; refine H7.out.mono ?_; rintro e w' ⟨rfl, rfl⟩) | (go_at_call 14; refine H8.out.mono ?_; rintro e w' ⟨rfl, rfl⟩) | (go_at_call 15; refine HA.out.mono ?_; rintro e w' ⟨rfl, rfl⟩))
  go_ret
  exact ⟨rfl, rfl⟩
theorem BallotOf_any (r m b : Int) (w : World) (h0 : 0 ≤ r) (h1 : r ≤ 18446744073709551615) (h2 : 0 ≤ b) (h3 : b ≤ 18446744073709551615) : Calls Try.prog 3 #[.int .u64 r, .int .i64 m, .int .u64 b] w fun e w' => e = .returned (.bool true) ∧ Kept NoB w w' := by
  refine Calls.mono (R := fun e w' => e = .returned (.bool true) ∧ w = w') ?_ (fun e w' ⟨he, hw⟩ => ⟨he, hw ▸ Kept.refl _ _⟩)
  by_cases hF : Fine r m <;> by_cases hG : Fine (b / 8) (b % 8)
  · exact BallotOf_yes_yes r m b w h0 h1 h2 h3 hF hG
  · exact BallotOf_yes_no r m b w h0 h1 h2 h3 hF hG
  · exact BallotOf_no_yes r m b w h0 h1 h2 h3 hF hG
  · exact BallotOf_no_no r m b w h0 h1 h2 h3 hF hG
theorem bNext_yes (b m : Int) (w : World) (h0 : 0 ≤ b) (hb : b ≤ 18446744073709551615) (h : Fine (nextR b m) m) : Calls Try.prog 16 #[.int .u64 b, .int .i64 m] w fun e w' => e = .returned (.tuple #[.int .u64 (nextR b m * 8 + m), .int .i64 0]) ∧ w = w' :=
  (bNext_any b m w h0 hb h.2.2.1 h.2.2.2).mono fun e w' ⟨hn, hw⟩ => ⟨by rcases hn with ⟨_, hn⟩ | ⟨hn, _⟩; exact hn; exact absurd h hn, hw⟩
theorem bNext_no (b m : Int) (w : World) (h0 : 0 ≤ b) (hb : b ≤ 18446744073709551615) (h1 : 1 ≤ m) (h2 : m ≤ 5) (h : ¬ Fine (nextR b m) m) : Calls Try.prog 16 #[.int .u64 b, .int .i64 m] w fun e w' => e = .returned (.tuple #[.int .u64 0, .int .i64 9]) ∧ w = w' :=
  (bNext_any b m w h0 hb h1 h2).mono fun e w' ⟨hn, hw⟩ => ⟨by rcases hn with ⟨hn, _⟩ | ⟨_, hn⟩; exact absurd hn h; exact hn, hw⟩
theorem rNext_yes (b m : Int) (w : World) (h0 : 0 ≤ b) (hb : b ≤ 18446744073709551615) (h : Fine (nextR b m) m) : Calls Try.prog 17 #[.int .u64 b, .int .i64 m] w fun e w' => e = .returned (.tuple #[.int .u64 (nextR b m * 8 + m), .int .i64 0]) ∧ w = w' :=
  (rNext_any b m w h0 hb h.2.2.1 h.2.2.2).mono fun e w' ⟨hn, hw⟩ => ⟨by rcases hn with ⟨_, hn⟩ | ⟨hn, _⟩; exact hn; exact absurd h hn, hw⟩
theorem rNext_no (b m : Int) (w : World) (h0 : 0 ≤ b) (hb : b ≤ 18446744073709551615) (h1 : 1 ≤ m) (h2 : m ≤ 5) (h : ¬ Fine (nextR b m) m) : Calls Try.prog 17 #[.int .u64 b, .int .i64 m] w fun e w' => e = .returned (.tuple #[.int .u64 0, .int .i64 9]) ∧ w = w' :=
  (rNext_any b m w h0 hb h1 h2).mono fun e w' ⟨hn, hw⟩ => ⟨by rcases hn with ⟨hn, _⟩ | ⟨_, hn⟩; exact absurd hn h; exact hn, hw⟩
theorem BallotNext_arg_arg (b m k : Int) (w : World) (h0 : 0 ≤ b) (h1 : b ≤ 18446744073709551615) (hm : m < 1 ∨ 5 < m) (hk : k < 1 ∨ 5 < k) : Calls Try.prog 4 #[.int .u64 b, .int .i64 m, .int .i64 k] w fun e w' => e = .returned (.bool true) ∧ w = w' := by
  have H1 := Lib.hid (bNext_arg b m w hm)
  have H2 := Lib.hid (rNext_arg b m w hm)
  have H3 := Lib.hid (bNext_arg b k w hk)
  have HA := Lib.hid (awake7 w)
  clear hm
  clear hk
  go_enter Try.func4, Try.ntmps4
  go_wp2_with fail
  refine H1.out.mono ?_
  rintro e w' ⟨rfl, rfl⟩
  go_wp2_with fail
  refine H2.out.mono ?_
  rintro e w' ⟨rfl, rfl⟩
  go_wp2_with fail
  refine H3.out.mono ?_
  rintro e w' ⟨rfl, rfl⟩
  go_wp2_with (first | (go_at_call 15; refine HA.out.mono ?_; rintro e w' ⟨rfl, rfl⟩))
  go_ret
  exact ⟨rfl, rfl⟩
theorem BallotNext_arg_yes (b m k : Int) (w : World) (h0 : 0 ≤ b) (h1 : b ≤ 18446744073709551615) (hm : m < 1 ∨ 5 < m) (hk : Fine (nextR b k) k) : Calls Try.prog 4 #[.int .u64 b, .int .i64 m, .int .i64 k] w fun e w' => e = .returned (.bool true) ∧ w = w' := by
  have H1 := Lib.hid (bNext_arg b m w hm)
  have H2 := Lib.hid (rNext_arg b m w hm)
  have H3 := Lib.hid (bNext_yes b k w h0 h1 hk)
  have f1 := nextR_above h0 hk
  obtain ⟨f3, f4, f5, f6⟩ := hk
  unfold lastR at f4
  have HA := Lib.hid (awake7 w)
  obtain ⟨t, ht⟩ : ∃ t, t = nextR b k := ⟨_, rfl⟩
  rw [← ht] at H3 f1 f3 f4
  clear ht
  clear hm
  go_enter Try.func4, Try.ntmps4
  go_wp2_with fail
  refine H1.out.mono ?_
  rintro e w' ⟨rfl, rfl⟩
  go_wp2_with fail
  refine H2.out.mono ?_
  rintro e w' ⟨rfl, rfl⟩
  go_wp2_with fail
  refine H3.out.mono ?_
  rintro e w' ⟨rfl, rfl⟩
  go_wp2_with (first | (go_at_call 15; refine HA.out.mono ?_; rintro e w' ⟨rfl, rfl⟩))
  go_ret
  exact ⟨rfl, rfl⟩
theorem BallotNext_arg_no (b m k : Int) (w : World) (h0 : 0 ≤ b) (h1 : b ≤ 18446744073709551615) (hm : m < 1 ∨ 5 < m) (hka : 1 ≤ k) (hkb : k ≤ 5) (hk : ¬ Fine (nextR b k) k) : Calls Try.prog 4 #[.int .u64 b, .int .i64 m, .int .i64 k] w fun e w' => e = .returned (.bool true) ∧ w = w' := by
  have H1 := Lib.hid (bNext_arg b m w hm)
  have H2 := Lib.hid (rNext_arg b m w hm)
  have H3 := Lib.hid (bNext_no b k w h0 h1 hka hkb hk)
  have HA := Lib.hid (awake7 w)
  clear hm
  clear hk
  go_enter Try.func4, Try.ntmps4
  go_wp2_with fail
  refine H1.out.mono ?_
  rintro e w' ⟨rfl, rfl⟩
  go_wp2_with fail
  refine H2.out.mono ?_
  rintro e w' ⟨rfl, rfl⟩
  go_wp2_with fail
  refine H3.out.mono ?_
  rintro e w' ⟨rfl, rfl⟩
  go_wp2_with (first | (go_at_call 15; refine HA.out.mono ?_; rintro e w' ⟨rfl, rfl⟩))
  go_ret
  exact ⟨rfl, rfl⟩
theorem BallotNext_yes_arg (b m k : Int) (w : World) (h0 : 0 ≤ b) (h1 : b ≤ 18446744073709551615) (hm : Fine (nextR b m) m) (hk : k < 1 ∨ 5 < k) : Calls Try.prog 4 #[.int .u64 b, .int .i64 m, .int .i64 k] w fun e w' => e = .returned (.bool true) ∧ w = w' := by
  have H1 := Lib.hid (bNext_yes b m w h0 h1 hm)
  have H2 := Lib.hid (rNext_yes b m w h0 h1 hm)
  have H3 := Lib.hid (bNext_arg b k w hk)
  have g1 := nextR_above h0 hm
  have g2 := hm
  obtain ⟨g3, g4, g5, g6⟩ := hm
  unfold lastR at g4
  have g2' : Fine ((nextR b m * 8 + m) / 8) ((nextR b m * 8 + m) % 8) := by
    rw [show (nextR b m * 8 + m) / 8 = nextR b m by omega, show (nextR b m * 8 + m) % 8 = m by omega]; exact g2
  have HW := (bWho_yes (nextR b m * 8 + m) w (by omega) (by omega) g2')
  rw [show (nextR b m * 8 + m) % 8 = m by omega] at HW
  have H4 := Lib.hid HW
  clear HW g2 g2'
  have HA := Lib.hid (awake7 w)
  obtain ⟨r, hr⟩ : ∃ r, r = nextR b m := ⟨_, rfl⟩
  rw [← hr] at H1 H2 H4 g1 g3 g4
  clear hr
  clear hk
  go_enter Try.func4, Try.ntmps4
  go_wp2_with fail
  refine H1.out.mono ?_
  rintro e w' ⟨rfl, rfl⟩
  go_wp2_with fail
  refine H2.out.mono ?_
  rintro e w' ⟨rfl, rfl⟩
  go_wp2_with fail
  refine H3.out.mono ?_
  rintro e w' ⟨rfl, rfl⟩
  go_wp2_with (first | (go_at_call 13; refine H4.out.mono ?_; rintro e w' ⟨rfl, rfl⟩) | (go_at_call 15; refine HA.out.mono ?_; rintro e w' ⟨rfl, rfl⟩))
  go_ret
  exact ⟨rfl, rfl⟩
set_option maxHeartbeats 1000000 in
theorem BallotNext_yes_yes (b m k : Int) (w : World) (h0 : 0 ≤ b) (h1 : b ≤ 18446744073709551615) (hm : Fine (nextR b m) m) (hk : Fine (nextR b k) k) : Calls Try.prog 4 #[.int .u64 b, .int .i64 m, .int .i64 k] w fun e w' => e = .returned (.bool true) ∧ w = w' := by
  have H1 := Lib.hid (bNext_yes b m w h0 h1 hm)
  have H2 := Lib.hid (rNext_yes b m w h0 h1 hm)
  have H3 := Lib.hid (bNext_yes b k w h0 h1 hk)
  have g1 := nextR_above h0 hm
  have g2 := hm
  obtain ⟨g3, g4, g5, g6⟩ := hm
  unfold lastR at g4
  have g2' : Fine ((nextR b m * 8 + m) / 8) ((nextR b m * 8 + m) % 8) := by
    rw [show (nextR b m * 8 + m) / 8 = nextR b m by omega, show (nextR b m * 8 + m) % 8 = m by omega]; exact g2
  have HW := (bWho_yes (nextR b m * 8 + m) w (by omega) (by omega) g2')
  rw [show (nextR b m * 8 + m) % 8 = m by omega] at HW
  have H4 := Lib.hid HW
  clear HW g2 g2'
  have f1 := nextR_above h0 hk
  obtain ⟨f3, f4, f5, f6⟩ := hk
  unfold lastR at f4
  have HA := Lib.hid (awake7 w)
  obtain ⟨r, hr⟩ : ∃ r, r = nextR b m := ⟨_, rfl⟩
  rw [← hr] at H1 H2 H4 g1 g3 g4
  clear hr
  obtain ⟨t, ht⟩ : ∃ t, t = nextR b k := ⟨_, rfl⟩
  rw [← ht] at H3 f1 f3 f4
  clear ht
  by_cases he : m = k
  · subst he
    go_enter Try.func4, Try.ntmps4
    go_wp2_with fail
    refine H1.out.mono ?_
    rintro e w' ⟨rfl, rfl⟩
    go_wp2_with fail
    refine H2.out.mono ?_
    rintro e w' ⟨rfl, rfl⟩
    go_wp2_with fail
    refine H3.out.mono ?_
    rintro e w' ⟨rfl, rfl⟩
    go_wp2_with (first | (go_at_call 13; refine H4.out.mono ?_; rintro e w' ⟨rfl, rfl⟩) | (go_at_call 15; refine HA.out.mono ?_; rintro e w' ⟨rfl, rfl⟩))
    go_ret
    exact ⟨rfl, rfl⟩
  · have hne : ((m : Int) == k) = false := by simpa using he
    have hxt : r * 8 + m ≠ t * 8 + k := by omega
    have hxt' : ((r * 8 + m : Int) != t * 8 + k) = true := by simpa using hxt
    clear hxt
    go_enter Try.func4, Try.ntmps4
    go_wp2_with fail
    refine H1.out.mono ?_
    rintro e w' ⟨rfl, rfl⟩
    go_wp2_with fail
    refine H2.out.mono ?_
    rintro e w' ⟨rfl, rfl⟩
    go_wp2_with fail
    refine H3.out.mono ?_
    rintro e w' ⟨rfl, rfl⟩
    go_wp2_with (first | (go_at_call 13; refine H4.out.mono ?_; rintro e w' ⟨rfl, rfl⟩) | (go_at_call 15; refine HA.out.mono ?_; rintro e w' ⟨rfl, rfl⟩))
    go_ret
    exact ⟨rfl, rfl⟩
theorem BallotNext_yes_no (b m k : Int) (w : World) (h0 : 0 ≤ b) (h1 : b ≤ 18446744073709551615) (hm : Fine (nextR b m) m) (hka : 1 ≤ k) (hkb : k ≤ 5) (hk : ¬ Fine (nextR b k) k) : Calls Try.prog 4 #[.int .u64 b, .int .i64 m, .int .i64 k] w fun e w' => e = .returned (.bool true) ∧ w = w' := by
  have H1 := Lib.hid (bNext_yes b m w h0 h1 hm)
  have H2 := Lib.hid (rNext_yes b m w h0 h1 hm)
  have H3 := Lib.hid (bNext_no b k w h0 h1 hka hkb hk)
  have g1 := nextR_above h0 hm
  have g2 := hm
  obtain ⟨g3, g4, g5, g6⟩ := hm
  unfold lastR at g4
  have g2' : Fine ((nextR b m * 8 + m) / 8) ((nextR b m * 8 + m) % 8) := by
    rw [show (nextR b m * 8 + m) / 8 = nextR b m by omega, show (nextR b m * 8 + m) % 8 = m by omega]; exact g2
  have HW := (bWho_yes (nextR b m * 8 + m) w (by omega) (by omega) g2')
  rw [show (nextR b m * 8 + m) % 8 = m by omega] at HW
  have H4 := Lib.hid HW
  clear HW g2 g2'
  have HA := Lib.hid (awake7 w)
  obtain ⟨r, hr⟩ : ∃ r, r = nextR b m := ⟨_, rfl⟩
  rw [← hr] at H1 H2 H4 g1 g3 g4
  clear hr
  clear hk
  go_enter Try.func4, Try.ntmps4
  go_wp2_with fail
  refine H1.out.mono ?_
  rintro e w' ⟨rfl, rfl⟩
  go_wp2_with fail
  refine H2.out.mono ?_
  rintro e w' ⟨rfl, rfl⟩
  go_wp2_with fail
  refine H3.out.mono ?_
  rintro e w' ⟨rfl, rfl⟩
  go_wp2_with (first | (go_at_call 13; refine H4.out.mono ?_; rintro e w' ⟨rfl, rfl⟩) | (go_at_call 15; refine HA.out.mono ?_; rintro e w' ⟨rfl, rfl⟩))
  go_ret
  exact ⟨rfl, rfl⟩
theorem BallotNext_no_arg (b m k : Int) (w : World) (h0 : 0 ≤ b) (h1 : b ≤ 18446744073709551615) (hma : 1 ≤ m) (hmb : m ≤ 5) (hm : ¬ Fine (nextR b m) m) (hk : k < 1 ∨ 5 < k) : Calls Try.prog 4 #[.int .u64 b, .int .i64 m, .int .i64 k] w fun e w' => e = .returned (.bool true) ∧ w = w' := by
  have H1 := Lib.hid (bNext_no b m w h0 h1 hma hmb hm)
  have H2 := Lib.hid (rNext_no b m w h0 h1 hma hmb hm)
  have H3 := Lib.hid (bNext_arg b k w hk)
  have HA := Lib.hid (awake7 w)
  clear hm
  clear hk
  go_enter Try.func4, Try.ntmps4
  go_wp2_with fail
  refine H1.out.mono ?_
  rintro e w' ⟨rfl, rfl⟩
  go_wp2_with fail
  refine H2.out.mono ?_
  rintro e w' ⟨rfl, rfl⟩
  go_wp2_with fail
  refine H3.out.mono ?_
  rintro e w' ⟨rfl, rfl⟩
  go_wp2_with (first | (go_at_call 15; refine HA.out.mono ?_; rintro e w' ⟨rfl, rfl⟩))
  go_ret
  exact ⟨rfl, rfl⟩
theorem BallotNext_no_yes (b m k : Int) (w : World) (h0 : 0 ≤ b) (h1 : b ≤ 18446744073709551615) (hma : 1 ≤ m) (hmb : m ≤ 5) (hm : ¬ Fine (nextR b m) m) (hk : Fine (nextR b k) k) : Calls Try.prog 4 #[.int .u64 b, .int .i64 m, .int .i64 k] w fun e w' => e = .returned (.bool true) ∧ w = w' := by
  have H1 := Lib.hid (bNext_no b m w h0 h1 hma hmb hm)
  have H2 := Lib.hid (rNext_no b m w h0 h1 hma hmb hm)
  have H3 := Lib.hid (bNext_yes b k w h0 h1 hk)
  have f1 := nextR_above h0 hk
  obtain ⟨f3, f4, f5, f6⟩ := hk
  unfold lastR at f4
  have HA := Lib.hid (awake7 w)
  obtain ⟨t, ht⟩ : ∃ t, t = nextR b k := ⟨_, rfl⟩
  rw [← ht] at H3 f1 f3 f4
  clear ht
  clear hm
  go_enter Try.func4, Try.ntmps4
  go_wp2_with fail
  refine H1.out.mono ?_
  rintro e w' ⟨rfl, rfl⟩
  go_wp2_with fail
  refine H2.out.mono ?_
  rintro e w' ⟨rfl, rfl⟩
  go_wp2_with fail
  refine H3.out.mono ?_
  rintro e w' ⟨rfl, rfl⟩
  go_wp2_with (first | (go_at_call 15; refine HA.out.mono ?_; rintro e w' ⟨rfl, rfl⟩))
  go_ret
  exact ⟨rfl, rfl⟩
theorem BallotNext_no_no (b m k : Int) (w : World) (h0 : 0 ≤ b) (h1 : b ≤ 18446744073709551615) (hma : 1 ≤ m) (hmb : m ≤ 5) (hm : ¬ Fine (nextR b m) m) (hka : 1 ≤ k) (hkb : k ≤ 5) (hk : ¬ Fine (nextR b k) k) : Calls Try.prog 4 #[.int .u64 b, .int .i64 m, .int .i64 k] w fun e w' => e = .returned (.bool true) ∧ w = w' := by
  have H1 := Lib.hid (bNext_no b m w h0 h1 hma hmb hm)
  have H2 := Lib.hid (rNext_no b m w h0 h1 hma hmb hm)
  have H3 := Lib.hid (bNext_no b k w h0 h1 hka hkb hk)
  have HA := Lib.hid (awake7 w)
  clear hm
  clear hk
  go_enter Try.func4, Try.ntmps4
  go_wp2_with fail
  refine H1.out.mono ?_
  rintro e w' ⟨rfl, rfl⟩
  go_wp2_with fail
  refine H2.out.mono ?_
  rintro e w' ⟨rfl, rfl⟩
  go_wp2_with fail
  refine H3.out.mono ?_
  rintro e w' ⟨rfl, rfl⟩
  go_wp2_with (first | (go_at_call 15; refine HA.out.mono ?_; rintro e w' ⟨rfl, rfl⟩))
  go_ret
  exact ⟨rfl, rfl⟩
theorem BallotNext_any (b m k : Int) (w : World) (h0 : 0 ≤ b) (h1 : b ≤ 18446744073709551615) : Calls Try.prog 4 #[.int .u64 b, .int .i64 m, .int .i64 k] w fun e w' => e = .returned (.bool true) ∧ Kept NoB w w' := by
  refine Calls.mono (R := fun e w' => e = .returned (.bool true) ∧ w = w') ?_ (fun e w' ⟨he, hw⟩ => ⟨he, hw ▸ Kept.refl _ _⟩)
  by_cases hm : m < 1 ∨ 5 < m <;> by_cases hF : Fine (nextR b m) m <;> by_cases hk : k < 1 ∨ 5 < k <;> by_cases hG : Fine (nextR b k) k
  · exact BallotNext_arg_arg b m k w h0 h1 hm hk
  · exact BallotNext_arg_arg b m k w h0 h1 hm hk
  · exact BallotNext_arg_yes b m k w h0 h1 hm hG
  · exact BallotNext_arg_no b m k w h0 h1 hm (by omega) (by omega) hG
  · exact BallotNext_arg_arg b m k w h0 h1 hm hk
  · exact BallotNext_arg_arg b m k w h0 h1 hm hk
  · exact BallotNext_arg_yes b m k w h0 h1 hm hG
  · exact BallotNext_arg_no b m k w h0 h1 hm (by omega) (by omega) hG
  · exact BallotNext_yes_arg b m k w h0 h1 hF hk
  · exact BallotNext_yes_arg b m k w h0 h1 hF hk
  · exact BallotNext_yes_yes b m k w h0 h1 hF hG
  · exact BallotNext_yes_no b m k w h0 h1 hF (by omega) (by omega) hG
  · exact BallotNext_no_arg b m k w h0 h1 (by omega) (by omega) hF hk
  · exact BallotNext_no_arg b m k w h0 h1 (by omega) (by omega) hF hk
  · exact BallotNext_no_yes b m k w h0 h1 (by omega) (by omega) hF hG
  · exact BallotNext_no_no b m k w h0 h1 (by omega) (by omega) hF (by omega) (by omega) hG
end Go.Proofs.Ytdohnobfaignpaa
