/-
  Package conf's answer: texts.
-/
import Derived.Test.YtlnfbfdmicmafaaDoorCnfAH
import Derived.Test.YtlnfbfdmicmafaaDoorCnfJ
namespace Go.Proofs.YtlnfbfdmicmafaaDoor
open Go.RowKit Go.Sort Go.Lib
set_option linter.unusedVariables false
set_option linter.unusedSimpArgs false

set_option maxRecDepth 100000 in
theorem RText9_bad (v : Value) (c : Cf) (F : Nat → Prop) (w : World) (h : CfV w F v c) (hR : ¬ Rgt c) : Calls Tryd.prog 19 #[v] w (StrE (textC c) w) := by
  obtain ⟨u, rfl, hn, hb0, hbt, hnl⟩ := id h
  obtain ⟨a, cap, rfl, _⟩ := id hn
  have HE : Hid (textC c = []) := Lib.hid (if_neg hR)
  have HK := Lib.hid ((Kept.refl NoB w).alloc (.cells #[.int .i64 c.ch, .int .u64 c.ep, .slice a c.ns.length cap, .bool c.fr, .int .i64 c.jn] 26))
  have HR : Hid (∀ w', Kept NoB w w' → Calls Tryd.prog 10 #[.agg #[.int .i64 c.ch, .int .u64 c.ep, .slice a c.ns.length cap, .bool c.fr, .int .i64 c.jn]] w' (BoolE false w')) := Lib.hid (fun w' hk => by
    have := RRight_any _ c F w' (h.kept hk (fun _ _ _ h => h))
    rwa [show rgtB c = false from decide_eq_false hR] at this)
  obtain ⟨T, hT⟩ : ∃ T, T = textC c := ⟨_, rfl⟩
  rw [← hT] at HE ⊢
  clear h hn hR hT
  obtain ⟨ch, ep, ns, fr, jn⟩ := c
  simp only at HR HK hnl ⊢
  go_enter Tryd.func19, Tryd.ntmps19
  go_wp2_with fail
  refine (HR.out _ HK.out).mono ?_
  rintro e w1 ⟨rfl, hk⟩
  have HK1 := Lib.hid (HK.out.trans hk (fun _ _ h => h))
  clear hk
  go_wp2
  go_ret
  exact ⟨(by rw [HE.out] <;> rfl), HK1.out⟩
set_option maxRecDepth 100000 in
set_option maxHeartbeats 4000000 in
theorem RText9_good (v : Value) (c : Cf) (F : Nat → Prop) (w : World) (h : CfV w F v c) (hR : Rgt c) : Calls Tryd.prog 19 #[v] w (StrE (textC c) w) := by
  obtain ⟨u, rfl, hn, hb0, hbt, hnl⟩ := id h
  obtain ⟨a, cap, rfl, _⟩ := id hn
  have hk0 : Kept NoB w (w.alloc (.cells #[.int .i64 c.ch, .int .u64 c.ep, .slice a c.ns.length cap, .bool c.fr, .int .i64 c.jn] 26)) := (Kept.refl NoB w).alloc _
  have HB0 := Lib.hid (heap_alloc_new w (.cells #[.int .i64 c.ch, .int .u64 c.ep, .slice a c.ns.length cap, .bool c.fr, .int .i64 c.jn] 26))
  have HK := Lib.hid hk0
  have HN := Lib.hid (fun w' (hk : Kept NoB w w') => hn.kept hk (fun _ _ _ h => h))
  have HR : Hid (∀ w', Kept NoB w w' → Calls Tryd.prog 10 #[.agg #[.int .i64 c.ch, .int .u64 c.ep, .slice a c.ns.length cap, .bool c.fr, .int .i64 c.jn]] w' (BoolE true w')) := Lib.hid (fun w' hk => by
    have := RRight_any _ c F w' (h.kept hk (fun _ _ _ h => h))
    rwa [show rgtB c = true from decide_eq_true hR] at this)
  have hTX : textC c = txJ (txF (txA c.ch.toNat c.ep.toNat ++ txN c.ns) c.fr) c.jn := if_pos hR
  obtain ⟨r0, r1, r2, r3, r4, r5, r6⟩ := hR
  have hns := (unq_ns r6).1
  have hjn : c.jn ≠ 0 → 1 ≤ c.jn ∧ c.jn ≤ 24 := fun hne => r6.1 c.jn (by unfold Cf.mem; rw [if_neg hne]; simp)
  obtain ⟨T, hT⟩ : ∃ T, T = textC c := ⟨_, rfl⟩
  rw [← hT] at hTX ⊢
  have HTX := Lib.hid hTX
  have HNS := Lib.hid hns
  have HJN := Lib.hid hjn
  clear h hn hT hTX hk0 r5 r6 hns hjn
  obtain ⟨ch, ep, ns, fr, jn⟩ := c
  simp only at HR HB0 HK HN HTX HNS HJN r0 r1 r2 r3 r4 hb0 hbt hnl ⊢
  obtain ⟨chN, rfl⟩ := Int.eq_ofNat_of_zero_le r0
  obtain ⟨epN, rfl⟩ := Int.eq_ofNat_of_zero_le hb0
  have hch : chN < 100 := by omega
  have hch64 : chN < 18446744073709551616 := by omega
  have hwc : IntKind.u64.wrap (chN : Int) = (chN : Int) := IntWalk.u64_in _ (by omega)
  have hep : epN < 18446744073709551616 := by unfold topE at hbt; omega
  rw [Int.toNat_natCast, Int.toNat_natCast] at HTX
  have l1 := dec_len chN (by omega)
  have l2 := dec_len epN hep
  obtain ⟨s1, e1⟩ : ∃ x, x = [99, 104, 97, 105, 110, 32] ++ Lib.decDigits chN := ⟨_, rfl⟩
  obtain ⟨s2, e2⟩ : ∃ x, x = s1 ++ [32, 101, 112, 111, 99, 104, 32] := ⟨_, rfl⟩
  obtain ⟨s3, e3⟩ : ∃ x, x = s2 ++ Lib.decDigits epN := ⟨_, rfl⟩
  obtain ⟨s4, e4⟩ : ∃ x, x = s3 ++ [58] := ⟨_, rfl⟩
  have g1 : s1.length ≤ 26 := by rw [e1]; simp; omega
  have g2 : s2.length ≤ 33 := by rw [e2]; simp; omega
  have g3 : s3.length ≤ 53 := by rw [e3]; simp; omega
  have g4 : s4.length ≤ 54 := by rw [e4]; simp; omega
  have a1 := add_lists [99, 104, 97, 105, 110, 32] (Lib.decDigits chN) (by simp) (by omega)
  have a2 := add_lists s1 [32, 101, 112, 111, 99, 104, 32] (by omega) (by simp)
  have a3 := add_lists s2 (Lib.decDigits epN) (by omega) (by omega)
  have a4 := add_lists s3 [58] (by omega) (by simp)
  have HA : Hid (s4 = txA chN epN) := Lib.hid (by rw [e4, e3, e2, e1]; rfl)
  rw [← e1] at a1
  rw [← e2] at a2
  rw [← e3] at a3
  rw [← e4] at a4
  clear e1 e2 e3 e4 g1 g2 g3 l1 l2 r0
  go_enter Tryd.func19, Tryd.ntmps19
  go_wp2_with fail
  refine (HR.out _ HK.out).mono ?_
  rintro e w1 ⟨rfl, hk⟩
  have HK1 := Lib.hid (HK.out.trans hk (fun _ _ h => h))
  have HB1 := Lib.hid (hk.heap (fun h => h) HB0.out)
  obtain ⟨c0, c1, c2, c3, c4⟩ := cells5 HB1.out
  clear hk
  go_wp2_with fail
  have HKc := Lib.hid (Kept.refl NoB w1)
  go_region_held3 (fun w' => w'.cell? ⟨w.heap.size, 0, none⟩ = some (.int .i64 (chN : Int)) ∧ w'.cell? ⟨w.heap.size, 1, none⟩ = some (.int .u64 (epN : Int)))
    (first
      | exact ⟨HKc.out.cell (p := ⟨w.heap.size, 0, none⟩) (fun h => h) c0, HKc.out.cell (p := ⟨w.heap.size, 1, none⟩) (fun h => h) c1⟩
      | exact ⟨cell_drew c0, cell_drew c1⟩
      | go_keep)
    ((go_at_call 55; (first | (with_reducible refine (Digits_any chN hch64 _).mono ?_) | (with_reducible refine (Digits_any epN hep _).mono ?_)); rintro e w6 ⟨rfl, hk6⟩; (first | replace HKc := Lib.hid (HKc.out.trans hk6 (fun _ _ h => h)) | replace HKc := Lib.hid (HKc.out.drew.trans hk6 (fun _ _ h => h))); clear hk6))
  all_goals
    have HK2 := Lib.hid (HK1.out.trans HKc.out (fun _ _ h => h))
    have HB2 := Lib.hid (HKc.out.heap (fun h => h) HB1.out)
    clear c0 c1 c2 c3 c4 a1 a2 a3 a4
    obtain ⟨c0, c1, c2, c3, c4⟩ := cells5 HB2.out
    go_wp2_with fail
    go_loopw [3, 4] (fun s i wr => ∃ (k : Nat) (q : List UInt8), i = .int .i64 k ∧ k ≤ ns.length ∧ s = .string ⟨q.toArray⟩ ∧ q = s4 ++ txN (ns.take k) ∧ q.length ≤ 54 + 21 * k ∧ Kept NoB w wr ∧ wr.heap[w.heap.size]? = some (.cells #[.int .i64 (chN : Int), .int .u64 (epN : Int), .slice a ns.length cap, .bool fr, .int .i64 jn] 26 (0, 0))) (fun _ i _ => ns.length - (RowKit.intOf i).toNat)
    case atStart => exact ⟨0, s4, rfl, Nat.zero_le _, rfl, by simp [txN], by omega, HK2.out, HB2.out⟩
    case round =>
      obtain ⟨k, q, rfl, hk, rfl, hq, hql, hkk, hbb⟩ := hrel
      have HQ := Lib.hid hq
      have HKR := Lib.hid hkk
      have HBR := Lib.hid hbb
      clear hq hkk hbb c0 c1 c2 c3 c4
      by_cases hlt : k < ns.length
      · obtain ⟨b, o, rfl, _, _, hc⟩ := (HN.out _ HKR.out).at_ hlt
        have HTK := Lib.hid (take_one hlt)
        have hxm : ns.getD k 0 ∈ ns := by rw [getD_at hlt]; exact List.getElem_mem _
        have hxr := HNS.out _ hxm
        obtain ⟨x, hx⟩ : ∃ x, x = ns.getD k 0 := ⟨_, rfl⟩
        rw [← hx] at hc HTK hxr
        obtain ⟨n, rfl⟩ := Int.eq_ofNat_of_zero_le (show 0 ≤ x by omega)
        have hn : n < 100 := by omega
        have hnl2 := dec_len n (by omega)
        have hk1 : (k : Int) < (ns.length : Int) := by omega
        have hwn : IntKind.u64.wrap (n : Int) = (n : Int) := IntWalk.u64_in _ (by omega)
        obtain ⟨p, hp⟩ : ∃ p, p = q ++ [32] := ⟨_, rfl⟩
        have hpl : p.length = q.length + 1 := by rw [hp]; simp
        have b1 := add_lists q [32] (by omega) (by simp)
        rw [← hp] at b1
        have b2 := add_lists p (Lib.decDigits n) (by omega) (by omega)
        obtain ⟨q2, hq2⟩ : ∃ q2, q2 = p ++ Lib.decDigits n := ⟨_, rfl⟩
        rw [← hq2] at b2
        obtain ⟨c0, c1, c2, c3, c4⟩ := cells5 HBR.out
        have HQ2 : Hid (q2 = s4 ++ txN (ns.take (k + 1))) := Lib.hid (by
          rw [hq2, hp, HQ.out, HTK.out, txN_app]
          simp [txN, dgN])
        have hq2l : q2.length ≤ 54 + 21 * (k + 1) := by rw [hq2]; simp; omega
        clear hx hp hxm hxr hq2
        go_wp2_with fail
        refine (Digits_any n (by omega) _).mono ?_
        rintro e w6 ⟨rfl, hk6⟩
        have HK6 := Lib.hid (HKR.out.trans hk6 (fun _ _ h => h))
        have HB6 := Lib.hid (hk6.heap (fun h => h) HBR.out)
        clear hk6
        go_wp2
        exact ⟨⟨k + 1, q2, by go_num, by omega, rfl, HQ2.out, hq2l, HK6.out, HB6.out⟩, by simp [RowKit.intOf]; omega⟩
      · obtain rfl : k = ns.length := by omega
        have HQE : Hid (q = txA chN epN ++ txN ns) := Lib.hid (by rw [HQ.out, HA.out, List.take_length])
        obtain ⟨c0, c1, c2, c3, c4⟩ := cells5 HBR.out
        obtain ⟨q3, hq3⟩ : ∃ q3, q3 = txF q fr := ⟨_, rfl⟩
        have hq3l : q3.length ≤ q.length + 1 := by rw [hq3]; unfold txF; split <;> simp
        have d1 := add_lists q [42] (by omega) (by simp)
        have HT3 : Hid (T = txJ q3 jn) := Lib.hid (by rw [HTX.out, hq3, HQE.out])
        cases fr with
        | false =>
          have hqq : q3 = q := by rw [hq3]; rfl
          subst hqq
          clear d1 hq3
          by_cases hj : jn = 0
          · subst hj
            have HF : Hid (T = q3) := Lib.hid (by rw [HT3.out]; rfl)
            go_wp2
            go_ret
            exact ⟨(by rw [HF.out] <;> rfl), HKR.out⟩
          · have hjr := HJN.out hj
            obtain ⟨m, rfl⟩ := Int.eq_ofNat_of_zero_le (show 0 ≤ jn by omega)
            have hm : m < 100 := by omega
            have hml := dec_len m (by omega)
            have hjb : ((m : Int) != 0) = true := by simpa using hj
            have hwm : IntKind.u64.wrap (m : Int) = (m : Int) := IntWalk.u64_in _ (by omega)
            obtain ⟨p, hp⟩ : ∃ p, p = q3 ++ [32, 43] := ⟨_, rfl⟩
            have hpl : p.length = q3.length + 2 := by rw [hp]; simp
            have b1 := add_lists q3 [32, 43] (by omega) (by simp)
            rw [← hp] at b1
            have b2 := add_lists p (Lib.decDigits m) (by omega) (by omega)
            have HF : Hid (T = p ++ Lib.decDigits m) := Lib.hid (by rw [HT3.out, hp]; unfold txJ dgN; rw [if_neg hj, Int.toNat_natCast, List.append_assoc])
            obtain ⟨q4, hq4⟩ : ∃ q4, q4 = p ++ Lib.decDigits m := ⟨_, rfl⟩
            rw [← hq4] at b2 HF
            clear hp hjr hj hq4
            go_wp2_with fail
            refine (Digits_any m (by omega) _).mono ?_
            rintro e w6 ⟨rfl, hk6⟩
            have HK6 := Lib.hid (HKR.out.trans hk6 (fun _ _ h => h))
            clear hk6
            go_wp2
            go_ret
            exact ⟨(by rw [HF.out] <;> rfl), HK6.out⟩
        | true =>
          have hqq : q ++ [42] = q3 := by rw [hq3]; rfl
          rw [hqq] at d1
          clear hqq hq3
          by_cases hj : jn = 0
          · subst hj
            have HF : Hid (T = q3) := Lib.hid (by rw [HT3.out]; rfl)
            go_wp2
            go_ret
            exact ⟨(by rw [HF.out] <;> rfl), HKR.out⟩
          · have hjr := HJN.out hj
            obtain ⟨m, rfl⟩ := Int.eq_ofNat_of_zero_le (show 0 ≤ jn by omega)
            have hm : m < 100 := by omega
            have hml := dec_len m (by omega)
            have hjb : ((m : Int) != 0) = true := by simpa using hj
            have hwm : IntKind.u64.wrap (m : Int) = (m : Int) := IntWalk.u64_in _ (by omega)
            obtain ⟨p, hp⟩ : ∃ p, p = q3 ++ [32, 43] := ⟨_, rfl⟩
            have hpl : p.length = q3.length + 2 := by rw [hp]; simp
            have b1 := add_lists q3 [32, 43] (by omega) (by simp)
            rw [← hp] at b1
            have b2 := add_lists p (Lib.decDigits m) (by omega) (by omega)
            have HF : Hid (T = p ++ Lib.decDigits m) := Lib.hid (by rw [HT3.out, hp]; unfold txJ dgN; rw [if_neg hj, Int.toNat_natCast, List.append_assoc])
            obtain ⟨q4, hq4⟩ : ∃ q4, q4 = p ++ Lib.decDigits m := ⟨_, rfl⟩
            rw [← hq4] at b2 HF
            clear hp hjr hj hq4
            go_wp2_with fail
            refine (Digits_any m (by omega) _).mono ?_
            rintro e w6 ⟨rfl, hk6⟩
            have HK6 := Lib.hid (HKR.out.trans hk6 (fun _ _ h => h))
            clear hk6
            go_wp2
            go_ret
            exact ⟨(by rw [HF.out] <;> rfl), HK6.out⟩
theorem RText9_any (v : Value) (c : Cf) (F : Nat → Prop) (w : World) (h : CfV w F v c) : Calls Tryd.prog 19 #[v] w (StrE (textC c) w) := by
  by_cases hR : Rgt c
  · exact RText9_good v c F w h hR
  · exact RText9_bad v c F w h hR
end Go.Proofs.YtlnfbfdmicmafaaDoor
