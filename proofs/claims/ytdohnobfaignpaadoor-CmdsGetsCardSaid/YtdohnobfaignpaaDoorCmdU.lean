/-
  The walk of CmdsChecks.
-/
import Derived.Test.YtdohnobfaignpaaDoorCmdT
import Derived.Test.YtdohnobfaignpaaDoorCmdH
import Derived.Test.YtdohnobfaignpaaDoorRef
namespace Go.Proofs.YtdohnobfaignpaaDoor
open Go.RowKit Go.Sort Go.Lib
set_option linter.unusedVariables false

/-- A kind's name, or nothing. -/
def nmK (kind : Int) : List UInt8 := if kind < 0 ∨ 4 < kind then [] else nmL kind.toNat
theorem CName_all (kind : Int) (w : World) (hv : Vars w) : Calls Tryd.prog 11 #[.int .i64 kind] w fun e w' => e = .returned (.string ⟨(nmK kind).toArray⟩) ∧ w = w' := by
  unfold nmK
  by_cases h : kind < 0 ∨ 4 < kind
  · rw [if_pos h]
    exact Name_no kind w h
  · rw [if_neg h]
    obtain ⟨n, rfl⟩ := Int.eq_ofNat_of_zero_le (show 0 ≤ kind by omega)
    exact Name_yes n w (by omega) hv
theorem CRName_all (kind : Int) (w : World) : Calls Tryd.prog 12 #[.int .i64 kind] w fun e w' => e = .returned (.string ⟨(nmK kind).toArray⟩) ∧ w = w' := by
  unfold nmK
  by_cases h : kind < 0 ∨ 4 < kind
  · rw [if_pos h]
    exact RName_no kind w h
  · rw [if_neg h]
    obtain ⟨n, rfl⟩ := Int.eq_ofNat_of_zero_le (show 0 ≤ kind by omega)
    exact RName_yes n w (by omega)
theorem CRText_all (k ch ep nd : Nat) (w : World) (h : Cm k ch ep nd) : Calls Tryd.prog 18 #[.agg #[.int .i64 k, .int .i64 ch, .int .u64 ep, .int .i64 nd]] w (StrEnd (txtOf k ch ep nd) w) := by
  obtain ⟨h, he⟩ := h
  unfold Vld at h
  unfold txtOf
  by_cases h0 : k = 0
  · rw [if_pos h0]
    subst h0
    exact RText_zero ch ep nd w
  · rw [if_neg h0]
    exact CRText_any k ch ep nd w (by omega) (by omega) (by omega) he (by omega)
set_option maxRecDepth 100000 in
set_option maxHeartbeats 2000000 in
theorem CmdsChecks_good (k ch ep nd : Nat) (kind : Int) (w : World) (hc : Cm k ch ep nd) (hv : Vars w) :
    Calls Tryd.prog 3 #[.agg #[.int .i64 k, .int .i64 ch, .int .u64 ep, .int .i64 nd], .int .i64 kind] w (BoolEnd true w) := by
  have HV := Lib.hid hv
  have HCM := Lib.hid hc
  obtain ⟨hk4, hc3, hep, hnd⟩ := hc.le
  have H7 : Hid (∀ w, Calls Tryd.prog 7 #[.agg #[.int .i64 (k : Int), .int .i64 (ch : Int), .int .u64 (ep : Int), .int .i64 (nd : Int)]] w fun e w' => e = .returned (.int .i64 0) ∧ Kept NoB w w') :=
    Lib.hid (fun w => (RCheck_any k ch ep nd w (by omega)).mono (by rintro e w' ⟨y, hy, rfl, hk⟩; exact ⟨by rw [hy.one hc.chk], hk⟩))
  have H10 : Hid (∀ w, Calls Tryd.prog 10 #[.agg #[.int .i64 (k : Int), .int .i64 (ch : Int), .int .u64 (ep : Int), .int .i64 (nd : Int)]] w fun e w' => e = .returned (.int .i64 0) ∧ Kept NoB w w') :=
    Lib.hid (fun w => (Check_any k ch ep nd w (by omega)).mono (by rintro e w' ⟨y, hy, rfl, hk⟩; exact ⟨by rw [hy.one hc.chk], hk⟩))
  have HTX : Hid (∀ w, Vars w → Calls Tryd.prog 9 #[.agg #[.int .i64 k, .int .i64 ch, .int .u64 ep, .int .i64 nd]] w (TextEnd (txtOf k ch ep nd) 0 w)) := Lib.hid (fun w hv => TextOf_any k ch ep nd w hv hc)
  have HRT : Hid (∀ w, Calls Tryd.prog 18 #[.agg #[.int .i64 k, .int .i64 ch, .int .u64 ep, .int .i64 nd]] w (StrEnd (txtOf k ch ep nd) w)) := Lib.hid (fun w => CRText_all k ch ep nd w hc)
  have HPA : Hid (∀ w, Vars w → Calls Tryd.prog 15 #[.string ⟨(txtOf k ch ep nd).toArray⟩] w fun e w' => e = .returned (.tuple #[.agg #[.int .i64 k, .int .i64 ch, .int .u64 ep, .int .i64 nd], .int .i64 0]) ∧ Kept NoB w w') :=
    Lib.hid (fun w hv => Parse_yes _ k ch ep nd w hv hc rfl)
  clear hv hc
  obtain ⟨t, ht⟩ : ∃ t, t = txtOf k ch ep nd := ⟨_, rfl⟩
  rw [← ht] at HTX HRT HPA
  clear ht
  go_enter Tryd.func3, Tryd.ntmps3
  go_wp2_with fail
  have HB0 := Lib.hid (heap_alloc_new w (.cells #[.int .i64 (k : Int), .int .i64 (ch : Int), .int .u64 (ep : Int), .int .i64 (nd : Int)] 24))
  have HK0 := Lib.hid ((Kept.refl NoB w).alloc (.cells #[.int .i64 (k : Int), .int .i64 (ch : Int), .int .u64 (ep : Int), .int .i64 (nd : Int)] 24))
  refine (H7.out _).mono ?_
  rintro e w1 ⟨rfl, hk⟩
  have HB1 := Lib.hid (hk.heap (fun h => h) HB0.out)
  have HK1 := Lib.hid (HK0.out.trans hk (fun _ _ h => h))
  obtain ⟨c0, c1, c2, c3, _⟩ := cells4 HB1.out
  clear hk
  go_wp2_with fail
  refine (Encode_ok k ch ep nd _ HCM.out).mono ?_
  rintro e w2 ⟨xv, rfl, hx, hk⟩
  have HX := Lib.hid hx
  obtain ⟨xa, xc, rfl, _⟩ := hx
  rw [cbs_len] at HX ⊢
  have HB2 := Lib.hid (hk.heap (fun h => h) HB1.out)
  have HK2 := Lib.hid (HK1.out.trans hk (fun _ _ h => h))
  clear hk c0 c1 c2 c3
  obtain ⟨c0, c1, c2, c3, _⟩ := cells4 HB2.out
  go_wp2_with fail
  refine (HTX.out _ (HV.out.kept HK2.out)).mono ?_
  rintro e w3 ⟨rfl, hk⟩
  have HB3 := Lib.hid (hk.heap (fun h => h) HB2.out)
  have HK3 := Lib.hid (HK2.out.trans hk (fun _ _ h => h))
  have HX3 := Lib.hid (HX.out.kept hk (fun _ _ h => h))
  clear hk c0 c1 c2 c3
  obtain ⟨c0, c1, c2, c3, _⟩ := cells4 HB3.out
  go_wp2_with fail
  refine (H10.out _).mono ?_
  rintro e w4 ⟨rfl, hk⟩
  have HB4 := Lib.hid (hk.heap (fun h => h) HB3.out)
  have HK4 := Lib.hid (HK3.out.trans hk (fun _ _ h => h))
  have HX4 := Lib.hid (HX3.out.kept hk (fun _ _ h => h))
  have HN1 := Lib.hid (CName_all kind w4 (HV.out.kept HK4.out))
  have HN2 := Lib.hid (CRName_all kind w4)
  obtain ⟨nm, hnm⟩ : ∃ nm, nm = nmK kind := ⟨_, rfl⟩
  rw [← hnm] at HN1 HN2
  clear hk c0 c1 c2 c3 hnm
  obtain ⟨c0, c1, c2, c3, _⟩ := cells4 HB4.out
  go_wp2_with fail
  refine HN1.out.mono ?_
  rintro e w' ⟨rfl, rfl⟩
  go_wp2_with fail
  refine HN2.out.mono ?_
  rintro e w' ⟨rfl, rfl⟩
  go_wp2_with fail
  refine (Decode_any _ (cbs k ch ep nd) _ w4 HX4.out (by rw [cbs_len]; decide)).mono ?_
  rintro e w5 hd
  obtain ⟨rfl, hk⟩ := dec_def (DecIs.of HCM.out) hd
  have HB5 := Lib.hid (balloc (hk.heap (fun h => h) HB4.out) (.cells #[.int .i64 (k : Int), .int .i64 (ch : Int), .int .u64 (ep : Int), .int .i64 (nd : Int)] 24))
  have HD5 := Lib.hid (heap_alloc_new w5 (.cells #[.int .i64 (k : Int), .int .i64 (ch : Int), .int .u64 (ep : Int), .int .i64 (nd : Int)] 24))
  have HK5 := Lib.hid ((HK4.out.trans hk (fun _ _ h => h)).alloc (.cells #[.int .i64 (k : Int), .int .i64 (ch : Int), .int .u64 (ep : Int), .int .i64 (nd : Int)] 24))
  have HX5 := Lib.hid (HX4.out.kept (hk.alloc (.cells #[.int .i64 (k : Int), .int .i64 (ch : Int), .int .u64 (ep : Int), .int .i64 (nd : Int)] 24)) (fun _ _ h => h))
  have hlt5 := heap_lt (hk.heap (fun h => h) HB4.out)
  clear hd hk c0 c1 c2 c3
  go_wp2_with fail
  refine (HPA.out _ (HV.out.kept HK5.out)).mono ?_
  rintro e w6 ⟨rfl, hk⟩
  have HB6 := Lib.hid (balloc (hk.heap (fun h => h) HB5.out) (.cells #[.int .i64 (k : Int), .int .i64 (ch : Int), .int .u64 (ep : Int), .int .i64 (nd : Int)] 24))
  have HD6 := Lib.hid (balloc (hk.heap (fun h => h) HD5.out) (.cells #[.int .i64 (k : Int), .int .i64 (ch : Int), .int .u64 (ep : Int), .int .i64 (nd : Int)] 24))
  have HE6 := Lib.hid (heap_alloc_new w6 (.cells #[.int .i64 (k : Int), .int .i64 (ch : Int), .int .u64 (ep : Int), .int .i64 (nd : Int)] 24))
  have HK6 := Lib.hid ((HK5.out.trans hk (fun _ _ h => h)).alloc (.cells #[.int .i64 (k : Int), .int .i64 (ch : Int), .int .u64 (ep : Int), .int .i64 (nd : Int)] 24))
  have HX6 := Lib.hid (HX5.out.kept (hk.alloc (.cells #[.int .i64 (k : Int), .int .i64 (ch : Int), .int .u64 (ep : Int), .int .i64 (nd : Int)] 24)) (fun _ _ h => h))
  obtain ⟨c0, c1, c2, c3, _⟩ := cells4 (hk.heap (fun h => h) HB5.out)
  have hlt6 := heap_lt (hk.heap (fun h => h) HB5.out)
  clear hk
  go_wp2_with fail
  refine (CRBytes_any k ch ep nd _ HCM.out).mono ?_
  rintro e w7 ⟨bv, rfl, hb, hk⟩
  have HBV := Lib.hid hb
  obtain ⟨ba, bc, rfl⟩ := own_form hb.2.1
  rw [cbs_len] at HBV ⊢
  have HB7 := Lib.hid (hk.heap (fun h => h) HB6.out)
  have HD7 := Lib.hid (hk.heap (fun h => h) HD6.out)
  have HE7 := Lib.hid (hk.heap (fun h => h) HE6.out)
  have HK7 := Lib.hid (HK6.out.trans hk (fun _ _ h => h))
  have HX7 := Lib.hid (HX6.out.kept hk (fun _ _ h => h))
  clear hk hb c0 c1 c2 c3 hlt5 hlt6
  go_wp2_with fail
  refine (Same_any _ _ _ _ _ _ w7 HX7.out HBV.out.bsl).mono ?_
  rintro e w8 ⟨rfl, hk⟩
  rw [decide_eq_true rfl]
  have HB8 := Lib.hid (hk.heap (fun h => h) HB7.out)
  have HD8 := Lib.hid (hk.heap (fun h => h) HD7.out)
  have HE8 := Lib.hid (hk.heap (fun h => h) HE7.out)
  have HK8 := Lib.hid (HK7.out.trans hk (fun _ _ h => h))
  obtain ⟨c0, c1, c2, c3, _⟩ := cells4 HB8.out
  clear hk
  go_wp2_with fail
  refine (HRT.out _).mono ?_
  rintro e w9 ⟨rfl, hk⟩
  have HK9 := Lib.hid (HK8.out.trans hk (fun _ _ h => h))
  have HA := Lib.hid (awake8 w9 (HV.out.kept HK9.out))
  clear c0 c1 c2 c3
  obtain ⟨c0, c1, c2, c3, _⟩ := cells4 (hk.heap (fun h => h) HB8.out)
  obtain ⟨d0, d1, d2, d3, _⟩ := cells4 (hk.heap (fun h => h) HD8.out)
  obtain ⟨e0, e1, e2, e3, _⟩ := cells4 (hk.heap (fun h => h) HE8.out)
  clear hk
  go_wp2_with (go_at_call 13; refine HA.out.mono ?_; rintro e w10 ⟨rfl, hk⟩; have HK10 := Lib.hid (HK9.out.trans hk (fun _ _ h => h)); clear hk)
  go_ret
  exact ⟨rfl, HK10.out⟩
set_option maxRecDepth 100000 in
set_option maxHeartbeats 2000000 in
theorem CmdsChecks_bad (k ch ep nd x : Int) (kind : Int) (w : World) (he : 0 ≤ ep) (hx : Chk k ch ep nd x) (hx0 : x ≠ 0) (hv : Vars w) :
    Calls Tryd.prog 3 #[.agg #[.int .i64 k, .int .i64 ch, .int .u64 ep, .int .i64 nd], .int .i64 kind] w (BoolEnd true w) := by
  have HV := Lib.hid hv
  have H7 : Hid (∀ w, Calls Tryd.prog 7 #[.agg #[.int .i64 k, .int .i64 ch, .int .u64 ep, .int .i64 nd]] w fun e w' => e = .returned (.int .i64 x) ∧ Kept NoB w w') :=
    Lib.hid (fun w => (RCheck_any k ch ep nd w he).mono (by rintro e w' ⟨y, hy, rfl, hk⟩; exact ⟨by rw [hy.one hx], hk⟩))
  have H10 : Hid (∀ w, Calls Tryd.prog 10 #[.agg #[.int .i64 k, .int .i64 ch, .int .u64 ep, .int .i64 nd]] w fun e w' => e = .returned (.int .i64 x) ∧ Kept NoB w w') :=
    Lib.hid (fun w => (Check_any k ch ep nd w he).mono (by rintro e w' ⟨y, hy, rfl, hk⟩; exact ⟨by rw [hy.one hx], hk⟩))
  have HEN : Hid (∀ w, Calls Tryd.prog 8 #[.agg #[.int .i64 k, .int .i64 ch, .int .u64 ep, .int .i64 nd]] w fun r w' => r = .returned (.tuple #[.slice none 0 0, .int .i64 x]) ∧ Kept NoB w w') :=
    Lib.hid (fun w => Encode_bad k ch ep nd x w he hx hx0)
  have HTX : Hid (∀ w, Calls Tryd.prog 9 #[.agg #[.int .i64 k, .int .i64 ch, .int .u64 ep, .int .i64 nd]] w (TextEnd [] x w)) := Lib.hid (fun w => Text_bad k ch ep nd x w he hx hx0)
  have hxb : (x != 0) = true := by simpa using hx0
  clear hv hx hx0
  go_enter Tryd.func3, Tryd.ntmps3
  go_wp2_with fail
  have HB0 := Lib.hid (heap_alloc_new w (.cells #[.int .i64 k, .int .i64 ch, .int .u64 ep, .int .i64 nd] 24))
  have HK0 := Lib.hid ((Kept.refl NoB w).alloc (.cells #[.int .i64 k, .int .i64 ch, .int .u64 ep, .int .i64 nd] 24))
  refine (H7.out _).mono ?_
  rintro e w1 ⟨rfl, hk⟩
  have HB1 := Lib.hid (hk.heap (fun h => h) HB0.out)
  have HK1 := Lib.hid (HK0.out.trans hk (fun _ _ h => h))
  obtain ⟨c0, c1, c2, c3, _⟩ := cells4 HB1.out
  clear hk
  go_wp2_with fail
  refine (HEN.out _).mono ?_
  rintro e w2 ⟨rfl, hk⟩
  have HB2 := Lib.hid (hk.heap (fun h => h) HB1.out)
  have HK2 := Lib.hid (HK1.out.trans hk (fun _ _ h => h))
  clear hk c0 c1 c2 c3
  obtain ⟨c0, c1, c2, c3, _⟩ := cells4 HB2.out
  go_wp2_with fail
  refine (HTX.out _).mono ?_
  rintro e w3 ⟨rfl, hk⟩
  have HB3 := Lib.hid (hk.heap (fun h => h) HB2.out)
  have HK3 := Lib.hid (HK2.out.trans hk (fun _ _ h => h))
  clear hk c0 c1 c2 c3
  obtain ⟨c0, c1, c2, c3, _⟩ := cells4 HB3.out
  go_wp2_with fail
  refine (H10.out _).mono ?_
  rintro e w4 ⟨rfl, hk⟩
  have HK4 := Lib.hid (HK3.out.trans hk (fun _ _ h => h))
  have HN1 := Lib.hid (CName_all kind w4 (HV.out.kept HK4.out))
  have HN2 := Lib.hid (CRName_all kind w4)
  have HA := Lib.hid (awake8 w4 (HV.out.kept HK4.out))
  obtain ⟨nm, hnm⟩ : ∃ nm, nm = nmK kind := ⟨_, rfl⟩
  rw [← hnm] at HN1 HN2
  clear hk c0 c1 c2 c3 hnm
  go_wp2_with fail
  refine HN1.out.mono ?_
  rintro e w' ⟨rfl, rfl⟩
  go_wp2_with fail
  refine HN2.out.mono ?_
  rintro e w' ⟨rfl, rfl⟩
  go_wp2_with (go_at_call 13; refine HA.out.mono ?_; rintro e w10 ⟨rfl, hk⟩; have HK10 := Lib.hid (HK4.out.trans hk (fun _ _ h => h)); clear hk)
  go_ret
  exact ⟨rfl, HK10.out⟩
theorem CmdsChecks_any (k ch ep nd : Int) (kind : Int) (w : World) (he : 0 ≤ ep) (he2 : ep ≤ 18446744073709551615) (hv : Vars w) :
    Calls Tryd.prog 3 #[.agg #[.int .i64 k, .int .i64 ch, .int .u64 ep, .int .i64 nd], .int .i64 kind] w (BoolEnd true w) := by
  obtain ⟨x, hx⟩ : ∃ x, Chk k ch ep nd x := ⟨_, chk_is _ _ _ _⟩
  by_cases hx0 : x = 0
  · subst hx0
    have hV := Chk.ok.1 hx
    have hV2 := hV
    unfold Vld at hV2
    obtain ⟨k', rfl⟩ := Int.eq_ofNat_of_zero_le (show 0 ≤ k by omega)
    obtain ⟨ch', rfl⟩ := Int.eq_ofNat_of_zero_le (show 0 ≤ ch by omega)
    obtain ⟨ep', rfl⟩ := Int.eq_ofNat_of_zero_le he
    obtain ⟨nd', rfl⟩ := Int.eq_ofNat_of_zero_le (show 0 ≤ nd by omega)
    exact CmdsChecks_good k' ch' ep' nd' kind w ⟨hV, by omega⟩ hv
  · exact CmdsChecks_bad k ch ep nd x kind w he hx hx0 hv
end Go.Proofs.YtdohnobfaignpaaDoor
