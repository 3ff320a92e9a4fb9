/-
  The walk of CmdsParses.
-/
import Derived.Test.YtdohnobfaignpaaDoorCmdL
namespace Go.Proofs.YtdohnobfaignpaaDoor
open Go.RowKit Go.Sort Go.Lib
set_option linter.unusedVariables false

/-- What both parse, in definite numbers. -/
theorem parse_def (s : ByteArray) : ∃ (k ch ep nd : Nat) (x : Int), Cm k ch ep nd ∧ (x = 0 ∧ s.data.toList = txtOf k ch ep nd ∨ x = 4 ∧ k = 0 ∧ ch = 0 ∧ ep = 0 ∧ nd = 0) ∧
    ∀ e w w', PEnd s w e w' → e = .returned (.tuple #[.agg #[.int .i64 k, .int .i64 ch, .int .u64 ep, .int .i64 nd], .int .i64 x]) ∧ Kept NoB w w' := by
  by_cases h : ∃ k ch ep nd : Nat, Cm k ch ep nd ∧ s.data.toList = txtOf k ch ep nd
  · obtain ⟨k, ch, ep, nd, hc, ht⟩ := h
    refine ⟨k, ch, ep, nd, 0, hc, .inl ⟨rfl, ht⟩, fun e w w' ⟨hp, hk⟩ => ⟨?_, hk⟩⟩
    rcases hp with ⟨k', ch', ep', nd', hc', ht', he⟩ | ⟨hno, _⟩
    · obtain ⟨rfl, rfl, rfl, rfl⟩ := txt_inj hc hc' (ht.symm.trans ht')
      exact he
    · exact absurd ht (hno k ch ep nd hc)
  · refine ⟨0, 0, 0, 0, 4, ⟨by unfold Vld; omega, by omega⟩, .inr ⟨rfl, rfl, rfl, rfl, rfl⟩, fun e w w' ⟨hp, hk⟩ => ⟨?_, hk⟩⟩
    rcases hp with ⟨k', ch', ep', nd', hc', ht', he⟩ | ⟨hno, he⟩
    · exact absurd ⟨k', ch', ep', nd', hc', ht'⟩ h
    · exact he
theorem num_def (l : List UInt8) (most : Nat) : ∃ (n : Nat) (x : Int), NumIs l most n x := by
  by_cases hd : Dig l ∧ l.length ≤ 20
  · by_cases hv : valF 0 l ≤ MaxU ∧ valF 0 l ≤ most
    · exact ⟨_, _, .inr ⟨hd.1, hd.2, .inl ⟨hv.1, hv.2, rfl, rfl⟩⟩⟩
    · exact ⟨_, _, .inr ⟨hd.1, hd.2, .inr ⟨hv, rfl, rfl⟩⟩⟩
  · exact ⟨_, _, .inl ⟨hd, rfl, rfl⟩⟩
set_option maxRecDepth 100000 in
set_option maxHeartbeats 2000000 in
theorem CmdsParses_in (s : ByteArray) (most : Nat) (w : World) (hm : most ≤ MaxU) (hs : s.size ≤ 100) (hv : Vars w) :
    Calls Tryd.prog 6 #[.string s, .int .u64 most] w (BoolEnd true w) := by
  obtain ⟨k, ch, ep, nd, x, hc, hx, hp⟩ := parse_def s
  obtain ⟨n, y, hn⟩ := num_def s.data.toList most
  have HP : Hid (∀ w, Vars w → Calls Tryd.prog 15 #[.string s] w fun e w' => e = .returned (.tuple #[.agg #[.int .i64 k, .int .i64 ch, .int .u64 ep, .int .i64 nd], .int .i64 x]) ∧ Kept NoB w w') := Lib.hid (fun w hv => (Parse_any s w (by omega) hv).mono fun e w' h => hp e w w' h)
  have HQ : Hid (∀ w, Calls Tryd.prog 28 #[.string s] w fun e w' => e = .returned (.tuple #[.agg #[.int .i64 k, .int .i64 ch, .int .u64 ep, .int .i64 nd], .int .i64 x]) ∧ Kept NoB w w') := Lib.hid (fun w => (RParse_any s w (by omega)).mono fun e w' h => hp e w w' h)
  have HN : Hid (∀ w, Vars w → Calls Tryd.prog 29 #[.string s, .int .u64 most] w fun e w' => e = .returned (.tuple #[.int .u64 n, .int .i64 y]) ∧ Kept NoB w w') := Lib.hid (fun w hv => (Number_any s most w hm (by omega) hv).mono fun e w' ⟨n', y', h1, h2, h3⟩ => by
    obtain ⟨rfl, rfl⟩ := hn.one h1
    exact ⟨h2, h3⟩)
  have HM : Hid (∀ w, Calls Tryd.prog 30 #[.string s, .int .u64 most] w fun e w' => e = .returned (.tuple #[.int .u64 n, .int .i64 y]) ∧ Kept NoB w w') := Lib.hid (fun w => (RNumber_any s most w (by omega)).mono fun e w' ⟨n', y', h1, h2, h3⟩ => by
    obtain ⟨rfl, rfl⟩ := hn.one h1
    exact ⟨h2, h3⟩)
  have HT : Hid (∀ w, Vars w → Calls Tryd.prog 9 #[.agg #[.int .i64 k, .int .i64 ch, .int .u64 ep, .int .i64 nd]] w (TextEnd (txtOf k ch ep nd) 0 w)) := Lib.hid (fun w hv => TextOf_any k ch ep nd w hv hc)
  have HV := Lib.hid hv
  have hs' : (s.size : Int) ≤ 100 := by omega
  obtain ⟨t, ht⟩ : ∃ t, t = txtOf k ch ep nd := ⟨_, rfl⟩
  rw [← ht] at HT
  have hxt : (x = 0 ∧ s.toList = t) ∨ x = 4 := by
    rcases hx with ⟨h1, h2⟩ | ⟨h1, _⟩
    · exact .inl ⟨h1, by rw [toL, h2, ht]⟩
    · exact .inr h1
  clear hc hx hp hn hv ht
  go_enter Tryd.func6, Tryd.ntmps6
  go_wp2_with fail
  refine (HP.out _ HV.out).mono ?_
  rintro e w1 ⟨rfl, hk⟩
  have hc1 := heap_alloc_new w1 (.cells #[.int .i64 (k : Int), .int .i64 (ch : Int), .int .u64 (ep : Int), .int .i64 (nd : Int)] 24)
  have HC1 := Lib.hid hc1
  have HK1 := Lib.hid (hk.alloc (.cells #[.int .i64 (k : Int), .int .i64 (ch : Int), .int .u64 (ep : Int), .int .i64 (nd : Int)] 24))
  clear hk hc1
  go_wp2_with fail
  refine (HQ.out _).mono ?_
  rintro e w2 ⟨rfl, hk⟩
  have hc2 := heap_alloc_new w2 (.cells #[.int .i64 (k : Int), .int .i64 (ch : Int), .int .u64 (ep : Int), .int .i64 (nd : Int)] 24)
  have hc12 := balloc (hk.heap (fun h => h) HC1.out) (.cells #[.int .i64 (k : Int), .int .i64 (ch : Int), .int .u64 (ep : Int), .int .i64 (nd : Int)] 24)
  have HC2 := Lib.hid hc2
  have HC12 := Lib.hid hc12
  have HK2 := Lib.hid ((HK1.out.trans hk (fun _ _ h => h)).alloc (.cells #[.int .i64 (k : Int), .int .i64 (ch : Int), .int .u64 (ep : Int), .int .i64 (nd : Int)] 24))
  clear hk hc2 hc12
  go_wp2_with fail
  refine (HN.out _ (HV.out.kept HK2.out)).mono ?_
  rintro e w3 ⟨rfl, hk⟩
  have HC3 := Lib.hid (hk.heap (fun h => h) HC12.out)
  have HD3 := Lib.hid (hk.heap (fun h => h) HC2.out)
  have HK3 := Lib.hid (HK2.out.trans hk (fun _ _ h => h))
  clear hk
  go_wp2_with fail
  refine (HM.out _).mono ?_
  rintro e w4 ⟨rfl, hk⟩
  have hc4 := hk.heap (fun h => h) HC3.out
  have HC4 := Lib.hid hc4
  have HD4 := Lib.hid (hk.heap (fun h => h) HD3.out)
  have HK4 := Lib.hid (HK3.out.trans hk (fun _ _ h => h))
  obtain ⟨c0, c1, c2, c3, _⟩ := cells4 hc4
  clear hk hc4
  go_wp2_with fail
  refine (HT.out _ (HV.out.kept HK4.out)).mono ?_
  rintro e w5 ⟨rfl, hk⟩
  have HK5 := Lib.hid (HK4.out.trans hk (fun _ _ h => h))
  obtain ⟨c0, c1, c2, c3, _⟩ := cells4 (hk.heap (fun h => h) HC4.out)
  obtain ⟨d0, d1, d2, d3, _⟩ := cells4 (hk.heap (fun h => h) HD4.out)
  have HA := Lib.hid (awake8 w5 (HV.out.kept HK5.out))
  clear hk
  rcases hxt with ⟨rfl, hst⟩ | rfl
  · go_wp2_with (go_at_call 13; refine HA.out.mono ?_; rintro e w6 ⟨rfl, hk⟩; have HK6 := Lib.hid (HK5.out.trans hk (fun _ _ h => h)); clear hk)
    go_ret
    exact ⟨rfl, HK6.out⟩
  · go_wp2_with (go_at_call 13; refine HA.out.mono ?_; rintro e w6 ⟨rfl, hk⟩; have HK6 := Lib.hid (HK5.out.trans hk (fun _ _ h => h)); clear hk)
    go_ret
    exact ⟨rfl, HK6.out⟩
theorem CmdsParses_any (s : ByteArray) (most : Int) (w : World) (h0 : 0 ≤ most) (hm : most ≤ 18446744073709551615) (hs : s.size ≤ 9223372036854775807) (hv : Vars w) :
    Calls Tryd.prog 6 #[.string s, .int .u64 most] w (BoolEnd true w) := by
  obtain ⟨m, rfl⟩ : ∃ m : Nat, most = m := ⟨most.toNat, by omega⟩
  by_cases h : s.size ≤ 100
  · exact CmdsParses_in s m w (by have hM : MaxU = 18446744073709551615 := rfl; omega) h hv
  · have h1 : (100 : Int) < (s.size : Int) := by omega
    have HA := Lib.hid (awake8 w hv)
    clear hv h
    go_enter Tryd.func6, Tryd.ntmps6
    go_wp2_with (go_at_call 13; refine HA.out.mono ?_; rintro e w6 ⟨rfl, hk⟩; have HK6 := Lib.hid hk; clear hk)
    go_ret
    exact ⟨rfl, HK6.out⟩
end Go.Proofs.YtdohnobfaignpaaDoor
