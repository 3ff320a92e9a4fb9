/-
  Package conf and its answer: texts.
-/
import Derived.Test.YtbdenjmnohhhiaaDoorCnfU
import Derived.Test.YtbdenjmnohhhiaaDoorCmdB
import Derived.Deep.RegionHeld3
namespace Go.Proofs.YtbdenjmnohhhiaaDoor
open Go.RowKit Go.Sort Go.Lib
set_option linter.unusedVariables false
set_option linter.unusedSimpArgs false

/-- The library's table of powers. -/
def Tab9 (w : World) : Prop := Lib.TabIs Tryd.prog w "internal/strconv.uint64pow10" .u64 Lib.pow10Tab
theorem Tab9.kept {w w' : World} (h : Tab9 w) (hk : Kept NoB w w') : Tab9 w' := tab_kept h hk
abbrev dgN (n : Int) : List UInt8 := Lib.decDigits n.toNat
/-- The text's head, nodes, end. -/
def txA (ch ep : Nat) : List UInt8 := [99, 104, 97, 105, 110, 32] ++ Lib.decDigits ch ++ [32, 101, 112, 111, 99, 104, 32] ++ Lib.decDigits ep ++ [58]
def txN : List Int → List UInt8
  | [] => []
  | x :: l => [32] ++ dgN x ++ txN l
theorem txN_app (l m : List Int) : txN (l ++ m) = txN l ++ txN m := by
  induction l with
  | nil => rfl
  | cons x l ih => simp [txN, ih]
def txF (s : List UInt8) (fr : Bool) : List UInt8 := if fr then s ++ [42] else s
def txJ (s : List UInt8) (jn : Int) : List UInt8 := if jn = 0 then s else s ++ ([32, 43] ++ dgN jn)
def textC (c : Cf) : List UInt8 := if Rgt c then txJ (txF (txA c.ch.toNat c.ep.toNat ++ txN c.ns) c.fr) c.jn else []
def StrE (l : List UInt8) (w : World) (e : Ending) (w' : World) : Prop := e = .returned (.string ⟨l.toArray⟩) ∧ Kept NoB w w'
theorem dec_small (n : Nat) (h : n < 100) : (Lib.decDigits n).length ≤ 20 := dec_len n (by omega)
theorem txN_len (l : List Int) (h : ∀ x ∈ l, 1 ≤ x ∧ x ≤ 24) : (txN l).length ≤ 21 * l.length := by
  induction l with
  | nil => simp [txN]
  | cons x l ih =>
    have h1 := ih (fun y hy => h y (by simp [hy]))
    have h2 := dec_len x.toNat (by have := h x (by simp); omega)
    simp only [txN, dgN, List.length_append, List.length_cons, List.length_nil]
    omega
theorem txA_len (ch ep : Nat) (h1 : ch < 100) (h2 : ep < 18446744073709551616) : (txA ch ep).length ≤ 60 := by
  have := dec_len ch (by omega)
  have := dec_len ep h2
  unfold txA
  simp only [List.length_append, List.length_cons, List.length_nil]
  omega
theorem itoa9 (n : Nat) (hn : n < 100) (w : World) : Calls Tryd.prog 39 #[.int .i64 (n : Int)] w fun e w' => e = .returned (.string ⟨(Lib.decDigits n).toArray⟩) ∧ w = w' := (Tryd.strconv_Itoa_small n hn w).mono fun _ _ h => ⟨h.1, h.2.symm⟩
set_option maxRecDepth 100000 in
theorem Text9_bad (v : Value) (c : Cf) (F : Nat → Prop) (w : World) (h : CfV w F v c) (hR : ¬ Rgt c) : Calls Tryd.prog 20 #[v] w (StrE (textC c) w) := by
  obtain ⟨u, rfl, hn, hb0, hbt, hnl⟩ := id h
  obtain ⟨a, cap, rfl, _⟩ := id hn
  have HE : Hid (textC c = []) := Lib.hid (if_neg hR)
  have HK := Lib.hid ((Kept.refl NoB w).alloc (.cells #[.int .i64 c.ch, .int .u64 c.ep, .slice a c.ns.length cap, .bool c.fr, .int .i64 c.jn] 25))
  have HR : Hid (∀ w', Kept NoB w w' → Calls Tryd.prog 21 #[.agg #[.int .i64 c.ch, .int .u64 c.ep, .slice a c.ns.length cap, .bool c.fr, .int .i64 c.jn]] w' (BoolE false w')) := Lib.hid (fun w' hk => by
    have := Right_any _ c F w' (h.kept hk (fun _ _ _ h => h))
    rwa [show rgtB c = false from decide_eq_false hR] at this)
  obtain ⟨T, hT⟩ : ∃ T, T = textC c := ⟨_, rfl⟩
  rw [← hT] at HE ⊢
  clear h hn hR hT
  obtain ⟨ch, ep, ns, fr, jn⟩ := c
  simp only at HR HK hnl ⊢
  go_enter Tryd.func20, Tryd.ntmps20
  go_wp2_with fail
  refine (HR.out _ HK.out).mono ?_
  rintro e w1 ⟨rfl, hk⟩
  have HK1 := Lib.hid (HK.out.trans hk (fun _ _ h => h))
  clear hk
  go_wp2
  go_ret
  exact ⟨(by rw [HE.out] <;> rfl), HK1.out⟩
set_option maxRecDepth 100000 in
set_option maxHeartbeats 4000000 in
theorem Text9_good (v : Value) (c : Cf) (F : Nat → Prop) (w : World) (h : CfV w F v c) (hR : Rgt c) (ht : Tab9 w) : Calls Tryd.prog 20 #[v] w (StrE (textC c) w) := by
  obtain ⟨u, rfl, hn, hb0, hbt, hnl⟩ := id h
  obtain ⟨a, cap, rfl, _⟩ := id hn
  have hk0 : Kept NoB w (w.alloc (.cells #[.int .i64 c.ch, .int .u64 c.ep, .slice a c.ns.length cap, .bool c.fr, .int .i64 c.jn] 25)) := (Kept.refl NoB w).alloc _
  have HB0 := Lib.hid (heap_alloc_new w (.cells #[.int .i64 c.ch, .int .u64 c.ep, .slice a c.ns.length cap, .bool c.fr, .int .i64 c.jn] 25))
  have HK := Lib.hid hk0
  have HN := Lib.hid (fun w' (hk : Kept NoB w w') => hn.kept hk (fun _ _ _ h => h))
  have HT := Lib.hid ht
  have HR : Hid (∀ w', Kept NoB w w' → Calls Tryd.prog 21 #[.agg #[.int .i64 c.ch, .int .u64 c.ep, .slice a c.ns.length cap, .bool c.fr, .int .i64 c.jn]] w' (BoolE true w')) := Lib.hid (fun w' hk => by
    have := Right_any _ c F w' (h.kept hk (fun _ _ _ h => h))
    rwa [show rgtB c = true from decide_eq_true hR] at this)
  have hTX : textC c = txJ (txF (txA c.ch.toNat c.ep.toNat ++ txN c.ns) c.fr) c.jn := if_pos hR
  obtain ⟨r0, r1, r2, r3, r4, r5, r6⟩ := hR
  have hns := (unq_ns r6).1
  have hjn : c.jn ≠ 0 → 1 ≤ c.jn ∧ c.jn ≤ 24 := fun hne => r6.1 c.jn (by unfold Cf.mem; rw [if_neg hne]; simp)
  obtain ⟨T, hT⟩ : ∃ T, T = textC c := ⟨_, rfl⟩
  rw [← hT] at hTX ⊢
  have HTX := Lib.hid hTX
  have HNS := Lib.hid hns
  have HJN := Lib.hid hjn
  clear h hn ht hT hTX hk0 r5 r6 hns hjn
  obtain ⟨ch, ep, ns, fr, jn⟩ := c
  simp only at HR HB0 HK HN HTX HNS HJN r0 r1 r2 r3 r4 hb0 hbt hnl ⊢
  obtain ⟨chN, rfl⟩ := Int.eq_ofNat_of_zero_le r0
  obtain ⟨epN, rfl⟩ := Int.eq_ofNat_of_zero_le hb0
  have hch : chN < 100 := by omega
  have hep : epN < 18446744073709551616 := by unfold topE at hbt; omega
  rw [Int.toNat_natCast, Int.toNat_natCast] at HTX
  have l1 := dec_len chN (by omega)
  have l2 := dec_len epN hep
  obtain ⟨s1, e1⟩ : ∃ x, x = [99, 104, 97, 105, 110, 32] ++ Lib.decDigits chN := ⟨_, rfl⟩
  obtain ⟨s2, e2⟩ : ∃ x, x = s1 ++ [32, 101, 112, 111, 99, 104, 32] := ⟨_, rfl⟩
  obtain ⟨s3, e3⟩ : ∃ x, x = s2 ++ Lib.decDigits epN := ⟨_, rfl⟩
  obtain ⟨s4, e4⟩ : ∃ x, x = s3 ++ [58] := ⟨_, rfl⟩
  have g1 : s1.length ≤ 26 := by rw [e1]; simp; omega
  have g2 : s2.length ≤ 33 := by rw [e2]; simp; omega
  have g3 : s3.length ≤ 53 := by rw [e3]; simp; omega
  have g4 : s4.length ≤ 54 := by rw [e4]; simp; omega
  have a1 := add_lists [99, 104, 97, 105, 110, 32] (Lib.decDigits chN) (by simp) (by omega)
  have a2 := add_lists s1 [32, 101, 112, 111, 99, 104, 32] (by omega) (by simp)
  have a3 := add_lists s2 (Lib.decDigits epN) (by omega) (by omega)
  have a4 := add_lists s3 [58] (by omega) (by simp)
  have HA : Hid (s4 = txA chN epN) := Lib.hid (by rw [e4, e3, e2, e1]; rfl)
  rw [← e1] at a1
  rw [← e2] at a2
  rw [← e3] at a3
  rw [← e4] at a4
  clear e1 e2 e3 e4 g1 g2 g3 l1 l2 r0
  go_enter Tryd.func20, Tryd.ntmps20
  go_wp2_with fail
  refine (HR.out _ HK.out).mono ?_
  rintro e w1 ⟨rfl, hk⟩
  have HK1 := Lib.hid (HK.out.trans hk (fun _ _ h => h))
  have HB1 := Lib.hid (hk.heap (fun h => h) HB0.out)
  obtain ⟨c0, c1, c2, c3, c4⟩ := cells5 HB1.out
  clear hk
  go_wp2_with fail
  have HKc := Lib.hid (Kept.refl NoB w1)
  go_region_held3 (fun w' => w'.cell? ⟨w.heap.size, 0, none⟩ = some (.int .i64 (chN : Int)) ∧ w'.cell? ⟨w.heap.size, 1, none⟩ = some (.int .u64 (epN : Int)))
    (first
      | exact ⟨cell_drew c0, cell_drew c1⟩
      | exact ⟨HKc.out.cell (p := ⟨w.heap.size, 0, none⟩) (fun h => h) c0, HKc.out.cell (p := ⟨w.heap.size, 1, none⟩) (fun h => h) c1⟩
      | go_keep)
    (first
      | (go_at_call 39; refine (itoa9 chN hch _).mono ?_; rintro e w6 ⟨rfl, rfl⟩)
      | (go_at_call 40; refine (FormatUint_any epN _ hep (by first | exact HT.out.kept HK1.out | exact HT.out.kept HK1.out.drew)).mono ?_; rintro e w6 ⟨rfl, hk6⟩; (first | replace HKc := Lib.hid (HKc.out.drew.trans hk6 (fun _ _ h => h)) | replace HKc := Lib.hid (HKc.out.trans hk6 (fun _ _ h => h))); clear hk6))
  all_goals
    have HK2 := Lib.hid (HK1.out.trans HKc.out (fun _ _ h => h))
    have HB2 := Lib.hid (HKc.out.heap (fun h => h) HB1.out)
    clear c0 c1 c2 c3 c4 a1 a2 a3 a4
    obtain ⟨c0, c1, c2, c3, c4⟩ := cells5 HB2.out
    go_wp2_with fail
    go_loopw [3, 5, 22] (fun s _ i wr => ∃ (k : Nat) (q : List UInt8), i = .int .i64 k ∧ k ≤ ns.length ∧ s = .string ⟨q.toArray⟩ ∧ q = s4 ++ txN (ns.take k) ∧ q.length ≤ 54 + 21 * k ∧ Kept NoB w wr ∧ wr.heap[w.heap.size]? = some (.cells #[.int .i64 (chN : Int), .int .u64 (epN : Int), .slice a ns.length cap, .bool fr, .int .i64 jn] 25 (0, 0))) (fun _ _ i _ => ns.length - (RowKit.intOf i).toNat)
    case atStart => exact ⟨0, s4, rfl, Nat.zero_le _, rfl, by simp [txN], by omega, HK2.out, HB2.out⟩
    case round =>
      obtain ⟨k, q, rfl, hk, rfl, hq, hql, hkk, hbb⟩ := hrel
      have HQ := Lib.hid hq
      have HKR := Lib.hid hkk
      have HBR := Lib.hid hbb
      clear hq hkk hbb c0 c1 c2 c3 c4
      by_cases hlt : k < ns.length
      · obtain ⟨b, o, rfl, _, _, hc⟩ := (HN.out _ HKR.out).at_ hlt
        have HTK := Lib.hid (take_one hlt)
        have hxm : ns.getD k 0 ∈ ns := by rw [getD_at hlt]; exact List.getElem_mem _
        have hxr := HNS.out _ hxm
        obtain ⟨x, hx⟩ : ∃ x, x = ns.getD k 0 := ⟨_, rfl⟩
        rw [← hx] at hc HTK hxr
        obtain ⟨n, rfl⟩ := Int.eq_ofNat_of_zero_le (show 0 ≤ x by omega)
        have hn : n < 100 := by omega
        have hnl2 := dec_len n (by omega)
        have hk1 : (k : Int) < (ns.length : Int) := by omega
        obtain ⟨p, hp⟩ : ∃ p, p = [32] ++ Lib.decDigits n := ⟨_, rfl⟩
        have hpl : p.length ≤ 21 := by rw [hp]; simp; omega
        have b1 := add_lists [32] (Lib.decDigits n) (by simp) (by omega)
        rw [← hp] at b1
        have b2 := add_lists q p (by omega) (by omega)
        obtain ⟨q2, hq2⟩ : ∃ q2, q2 = q ++ p := ⟨_, rfl⟩
        rw [← hq2] at b2
        have HQ2 : Hid (q2 = s4 ++ txN (ns.take (k + 1))) := Lib.hid (by
          rw [hq2, HQ.out, HTK.out, txN_app, hp]
          simp [txN, dgN])
        have hq2l : q2.length ≤ 54 + 21 * (k + 1) := by rw [hq2]; simp; omega
        clear hx hp hxm hxr hq2
        go_wp2_with (go_at_call 39; refine (itoa9 n hn _).mono ?_; rintro e w6 ⟨rfl, rfl⟩)
        exact ⟨⟨k + 1, q2, by go_num, by omega, rfl, HQ2.out, hq2l, HKR.out, HBR.out⟩, by simp [RowKit.intOf]; omega⟩
      · obtain rfl : k = ns.length := by omega
        have HQE : Hid (q = txA chN epN ++ txN ns) := Lib.hid (by rw [HQ.out, HA.out, List.take_length])
        obtain ⟨c0, c1, c2, c3, c4⟩ := cells5 HBR.out
        obtain ⟨q3, hq3⟩ : ∃ q3, q3 = txF q fr := ⟨_, rfl⟩
        have hq3l : q3.length ≤ q.length + 1 := by rw [hq3]; unfold txF; split <;> simp
        have d1 := add_lists q [42] (by omega) (by simp)
        have HT3 : Hid (T = txJ q3 jn) := Lib.hid (by rw [HTX.out, hq3, HQE.out])
        cases fr with
        | false =>
          have hqq : q3 = q := by rw [hq3]; rfl
          subst hqq
          clear d1 hq3
          by_cases hj : jn = 0
          · subst hj
            have HF : Hid (T = q3) := Lib.hid (by rw [HT3.out]; rfl)
            go_wp2
            go_ret
            exact ⟨(by rw [HF.out] <;> rfl), HKR.out⟩
          · have hjr := HJN.out hj
            obtain ⟨m, rfl⟩ := Int.eq_ofNat_of_zero_le (show 0 ≤ jn by omega)
            have hm : m < 100 := by omega
            have hml := dec_len m (by omega)
            have hjb : ((m : Int) != 0) = true := by simpa using hj
            obtain ⟨p, hp⟩ : ∃ p, p = [32, 43] ++ Lib.decDigits m := ⟨_, rfl⟩
            have hpl : p.length ≤ 22 := by rw [hp]; simp; omega
            have b1 := add_lists [32, 43] (Lib.decDigits m) (by simp) (by omega)
            rw [← hp] at b1
            have b2 := add_lists q3 p (by omega) (by omega)
            have HF : Hid (T = q3 ++ p) := Lib.hid (by rw [HT3.out, hp]; unfold txJ dgN; rw [if_neg hj, Int.toNat_natCast])
            obtain ⟨q4, hq4⟩ : ∃ q4, q4 = q3 ++ p := ⟨_, rfl⟩
            rw [← hq4] at b2 HF
            clear hp hjr hj hq4
            go_wp2_with (go_at_call 39; refine (itoa9 m hm _).mono ?_; rintro e w6 ⟨rfl, rfl⟩)
            go_ret
            exact ⟨(by rw [HF.out] <;> rfl), HKR.out⟩
        | true =>
          have hqq : q ++ [42] = q3 := by rw [hq3]; rfl
          rw [hqq] at d1
          clear hqq hq3
          by_cases hj : jn = 0
          · subst hj
            have HF : Hid (T = q3) := Lib.hid (by rw [HT3.out]; rfl)
            go_wp2
            go_ret
            exact ⟨(by rw [HF.out] <;> rfl), HKR.out⟩
          · have hjr := HJN.out hj
            obtain ⟨m, rfl⟩ := Int.eq_ofNat_of_zero_le (show 0 ≤ jn by omega)
            have hm : m < 100 := by omega
            have hml := dec_len m (by omega)
            have hjb : ((m : Int) != 0) = true := by simpa using hj
            obtain ⟨p, hp⟩ : ∃ p, p = [32, 43] ++ Lib.decDigits m := ⟨_, rfl⟩
            have hpl : p.length ≤ 22 := by rw [hp]; simp; omega
            have b1 := add_lists [32, 43] (Lib.decDigits m) (by simp) (by omega)
            rw [← hp] at b1
            have b2 := add_lists q3 p (by omega) (by omega)
            have HF : Hid (T = q3 ++ p) := Lib.hid (by rw [HT3.out, hp]; unfold txJ dgN; rw [if_neg hj, Int.toNat_natCast])
            obtain ⟨q4, hq4⟩ : ∃ q4, q4 = q3 ++ p := ⟨_, rfl⟩
            rw [← hq4] at b2 HF
            clear hp hjr hj hq4
            go_wp2_with (go_at_call 39; refine (itoa9 m hm _).mono ?_; rintro e w6 ⟨rfl, rfl⟩)
            go_ret
            exact ⟨(by rw [HF.out] <;> rfl), HKR.out⟩
theorem Text9_any (v : Value) (c : Cf) (F : Nat → Prop) (w : World) (h : CfV w F v c) (ht : Tab9 w) : Calls Tryd.prog 20 #[v] w (StrE (textC c) w) := by
  by_cases hR : Rgt c
  · exact Text9_good v c F w h hR ht
  · exact Text9_bad v c F w h hR
end Go.Proofs.YtbdenjmnohhhiaaDoor
