/-
  The answer's Get.
-/
import Derived.Test.YtdohnobfaignpaaDoorCmdQ
namespace Go.Proofs.YtdohnobfaignpaaDoor
open Go.RowKit Go.Sort Go.Lib
set_option linter.unusedVariables false

def RGetEnd (s : ISt) (F : Nat → Prop) (w : World) (r : Ending) (w' : World) : Prop :=
  ∃ v' : Value, ∃ k ch ep nd e : Nat, GetIs s k ch ep nd e ∧ e < 100 ∧ r = .returned (.tuple #[v', .agg #[.int .i64 k, .int .i64 ch, .int .u64 ep, .int .i64 nd], .int .i64 e]) ∧ RAt w' F v' (s.raw 11).1 ∧ Kept NoB w w'
theorem get_is2 (s : ISt) (hB : IsB s.l) (h : (s.raw 11).1.err = 0) :
    ∃ k ch ep nd : Nat, s.l.take 11 = cbs k ch ep nd ∧ (s.raw 11).2 = cbs k ch ep nd ∧ k < 256 ∧ ch < 256 ∧ ep < 18446744073709551616 ∧ nd < 256 ∧ (Vld k ch ep nd → GetIs s k ch ep nd 0) ∧ (¬ Vld k ch ep nd → GetIs s 0 0 0 0 4) := by
  obtain ⟨k, ch, ep, nd, a1, a2, a3, a4, he, h0, ht, b1, b2, b3⟩ := c4_ok s hB h
  have hr : (s.raw 11).2 = s.l.take 11 := by
    obtain ⟨l, err⟩ := s
    obtain rfl : err = 0 := h0
    have hl := congrArg List.length ht
    rw [cbs_len, List.length_take] at hl
    rw [show (11 : Int) = ((11 : Nat) : Int) from rfl, raw_ok' l 11 (by show 11 ≤ l.length; have : min 11 l.length = 11 := hl; omega)]
  refine ⟨k, ch, ep, nd, ht, hr.trans ht, by omega, by omega, by omega, by omega, fun hv => .inl ⟨rfl, h0, ⟨hv, he⟩, ht⟩, fun hv => .inr ⟨rfl, rfl, rfl, rfl, ?_, by rw [if_pos h]; rfl⟩⟩
  rintro k' ch' ep' nd' hc ⟨_, hc2⟩
  have hle := hc.le
  have hq := ht.symm.trans hc2
  unfold cbs at hq
  obtain ⟨hq, h4⟩ := app_inj hq (by simp [be_len])
  obtain ⟨hq, h3⟩ := app_inj hq (by simp [be_len])
  obtain ⟨h1, h2⟩ := app_inj hq (by simp [be_len])
  have q1 := be_inj h1 (by omega) (by omega)
  have q2 := be_inj h2 (by omega) (by omega)
  have q3 := be_inj h3 (by omega) (by omega)
  have q4 := be_inj h4 (by omega) (by omega)
  subst q1 q2 q3 q4
  exact hv hc.1
theorem cbs_form (k ch ep nd : Nat) (h1 : k < 256) (h2 : ch < 256) (h4 : nd < 256) : cbs k ch ep nd = (k : Int) :: (ch : Int) :: (be ep 8 ++ [(nd : Int)]) := by
  rw [cbs, be_one k h1, be_one ch h2, be_one nd h4]
  simp
/-- A block of a reader's two cells. -/
theorem cells2 {w : World} {b : Nat} {x y : Value} {t : TypeId} (h : w.heap[b]? = some (.cells #[x, y] t (0, 0))) :
    w.cell? ⟨b, 0, none⟩ = some x ∧ w.cell? ⟨b, 1, none⟩ = some y ∧ w.frozen? ⟨b, 0, none⟩ = false ∧ w.frozen? ⟨b, 1, none⟩ = false :=
  ⟨cell_of_row _ _ 0 _ _ _ h, cell_of_row _ _ 1 _ _ _ h, by simp [World.frozen?, h], by simp [World.frozen?, h]⟩
/-- The bytes in the middle. -/
theorem mid_bsl {w : World} {F : Nat → Prop} {b o cap : Nat} {k ch ep nd : Nat} (h1 : k < 256) (h2 : ch < 256) (h4 : nd < 256) (hc : 11 ≤ cap) (hm : cap ≤ maxLen) (hr : Rd w F (some ⟨b, o, none⟩) (cbs k ch ep nd)) :
    BSl w F (.slice (some ⟨b, o + 2, none⟩) 8 (cap - 2)) (be ep 8) := by
  have hl : (cbs k ch ep nd).length ≤ cap := by rw [cbs_len]; exact hc
  have h := (bsl_drop (n := 2) hl hm (fun h => by cases h) hr)
  rw [if_neg (by omega)] at h
  obtain ⟨a', c', he, hc', hm', hn', hr'⟩ := h
  have e2 : ((cbs k ch ep nd).drop 2).length = 9 := by rw [List.length_drop, cbs_len]
  have ha : a' = some ⟨b, o + 2, none⟩ ∧ c' = cap - 2 := by
    injection he with e1 e3 e4
    exact ⟨e1.symm, e4.symm⟩
  obtain ⟨rfl, rfl⟩ := ha
  have h := bsl_take (n := 8) hc' hm' hn' hr' (by omega)
  have e3 : ((cbs k ch ep nd).drop 2).take 8 = be ep 8 := by
    rw [cbs_form k ch ep nd h1 h2 h4]
    show (be ep 8 ++ [(nd : Int)]).take 8 = be ep 8
    rw [List.take_append_of_le_length (by rw [be_len]; exact Nat.le_refl _), List.take_of_length_le (by rw [be_len]; exact Nat.le_refl _)]
  rw [e3] at h
  exact h
/-- What is laid into the blocks of an answer. -/
theorem rget_fin {w0 w : World} {b : Nat} {x0 x1 y0 y1 y2 y3 : Value} (x y : Value) (k ch ep nd : Int) (hk : Kept NoB w0 w) (hw : w0.heap.size ≤ b) (hb : w.heap[b + 1]? = some (.cells #[x0, x1] 51 (0, 0))) (hc : w.heap[b + 2]? = some (.cells #[y0, y1, y2, y3] 24 (0, 0))) {W : World}
    (hW : ((((((w.setCell ⟨b + 1, 0, none⟩ x).setCell ⟨b + 1, 1, none⟩ y).setCell ⟨b + 1 + 1, 0, none⟩ (.int .i64 k)).setCell ⟨b + 1 + 1, 1, none⟩ (.int .i64 ch)).setCell ⟨b + 1 + 1, 2, none⟩ (.int .u64 ep)).setCell ⟨b + 1 + 1, 3, none⟩ (.int .i64 nd)) = W) :
    W.heap[b + 1]? = some (.cells #[x, y] 51 (0, 0)) ∧ W.heap[b + 1 + 1]? = some (.cells #[.int .i64 k, .int .i64 ch, .int .u64 ep, .int .i64 nd] 24 (0, 0)) ∧ Kept NoB w0 W ∧ Kept (Ge w0.heap.size) w W := by
  subst hW
  refine ⟨?_, ?_, ?_, ?_⟩
  · simp [World.setCell, Array.getElem?_modify, hb]
  · simp [World.setCell, Array.getElem?_modify, hc]
  · exact new_kept (new_kept (new_kept (new_kept (new_kept (new_kept hk (by omega) _ _) (by omega) _ _) (by omega) _ _) (by omega) _ _) (by omega) _ _) (by omega) _ _
  · exact ((((((Kept.refl _ w).ge (by omega) _ _).ge (by omega) _ _).ge (by omega) _ _).ge (by omega) _ _).ge (by omega) _ _).ge (by omega) _ _
set_option maxRecDepth 100000 in
set_option maxHeartbeats 2000000 in
theorem CRGet_any (v : Value) (s : ISt) (F : Nat → Prop) (w : World) (h : RAt w F v s) (hF : ∀ k, F k → k < w.heap.size) :
    Calls Tryd.prog 25 #[v] w (RGetEnd s F w) := by
  have HO := Lib.hid h
  have HF := Lib.hid hF
  obtain ⟨hok, b, rfl, hb⟩ := h
  have HOK := Lib.hid hok
  have HSB := Lib.hid hb.isB
  obtain ⟨pa, pcap, rfl, _⟩ := hb
  clear hF hok
  have HRW : Hid (∀ w, RAt w F (.agg #[.slice pa s.l.length pcap, .int .i64 s.err]) s → (∀ k, F k → k < w.heap.size) → Calls Tryd.prog 42 #[.agg #[.slice pa s.l.length pcap, .int .i64 s.err], .int .i64 11] w fun r w' => ∃ v' b, r = .returned (.tuple #[v', b]) ∧ RAt w' F v' (s.raw 11).1 ∧ BSl w' F b (s.raw 11).2 ∧ Kept NoB w w') :=
    Lib.hid (fun w h1 h2 => RRaw_any _ s 11 F w h1 h2 (by omega))
  go_enter Tryd.func25, Tryd.ntmps25
  go_wp2_with fail
  obtain ⟨n0, hn0⟩ : ∃ n0, n0 = s.l.length := ⟨_, rfl⟩
  rw [← hn0] at HRW ⊢
  have HQ : Hid (RAt w F (.agg #[.slice pa n0 pcap, .int .i64 s.err]) s) := Lib.hid (by rw [hn0]; exact HO.out)
  have hsz : (((w.alloc (.cells #[.slice pa n0 pcap, .int .i64 s.err] 51)).alloc (.cells #[.slice none 0 0, .int .i64 0] 51)).alloc (.cells #[.int .i64 0, .int .i64 0, .int .u64 0, .int .i64 0] 24)).heap.size = w.heap.size + 3 := by simp
  have hs1 : (w.alloc (.cells #[.slice pa n0 pcap, .int .i64 s.err] 51)).heap.size = w.heap.size + 1 := by simp
  have hs2 : ((w.alloc (.cells #[.slice pa n0 pcap, .int .i64 s.err] 51)).alloc (.cells #[.slice none 0 0, .int .i64 0] 51)).heap.size = w.heap.size + 2 := by simp
  have hr0 := balloc (heap_alloc_new (w.alloc (.cells #[.slice pa n0 pcap, .int .i64 s.err] 51)) (.cells #[.slice none 0 0, .int .i64 0] 51)) (.cells #[.int .i64 0, .int .i64 0, .int .u64 0, .int .i64 0] 24)
  have hc0 := heap_alloc_new ((w.alloc (.cells #[.slice pa n0 pcap, .int .i64 s.err] 51)).alloc (.cells #[.slice none 0 0, .int .i64 0] 51)) (.cells #[.int .i64 0, .int .i64 0, .int .u64 0, .int .i64 0] 24)
  rw [hs1] at hr0
  rw [hs2] at hc0
  have HK0 := Lib.hid ((((Kept.refl NoB w).alloc (.cells #[.slice pa n0 pcap, .int .i64 s.err] 51)).alloc (.cells #[.slice none 0 0, .int .i64 0] 51)).alloc (.cells #[.int .i64 0, .int .i64 0, .int .u64 0, .int .i64 0] 24))
  refine (HRW.out _ (HQ.out.kept HK0.out (fun _ _ h => h)) (fun k hk => by have := HF.out k hk; rw [hsz]; omega)).mono ?_
  rintro e w1 ⟨v', b2, rfl, hv', hb2, hk⟩
  have HR1 := Lib.hid (hk.heap (fun h => h) hr0)
  have HC1 := Lib.hid (hk.heap (fun h => h) hc0)
  have HK1 := Lib.hid (HK0.out.trans hk (fun _ _ h => h))
  have HV := Lib.hid hv'
  have hz1 : w.heap.size + 3 ≤ w1.heap.size := by have := hk.size; rw [hsz] at this; exact this
  obtain ⟨_, bb, rfl, hbb⟩ := hv'
  obtain ⟨ja, jcap, rfl, _⟩ := hbb
  obtain ⟨ba, bcap, rfl, hbc, hbm, hbn, hbr⟩ := hb2
  clear hr0 hc0 hk hsz hs1 hs2 HK0 HRW HQ HO
  obtain ⟨x, hx⟩ : ∃ x, (s.raw 11).1.err = x := ⟨_, rfl⟩
  obtain ⟨n1, hn1⟩ : ∃ n1, n1 = (s.raw 11).1.l.length := ⟨_, rfl⟩
  have HX := Lib.hid hx
  have HN1 := Lib.hid hn1
  rw [hx, ← hn1] at HV ⊢
  obtain ⟨j0, j1, jf0, jf1⟩ := cells2 HR1.out
  obtain ⟨c0, c1, c2, c3, f0, f1, f2, f3⟩ := cells4 HC1.out
  have he1 := hx
  by_cases he : x = 0
  · clear he1
    subst he
    obtain ⟨k, ch, ep, nd, ht, h2, hk1, hk2, hk3, hk4, hy, hn⟩ := get_is2 s HSB.out hx
    rw [h2] at hbr hbc ⊢
    have HY := Lib.hid hy
    have HN := Lib.hid hn
    have HBR := Lib.hid hbr
    rw [cbs_len] at hbc ⊢
    obtain ⟨bb, bo, rfl, hFb, hbl, hcl⟩ := hbr.2 (by rw [cbs_len]; decide)
    have hf := cbs_form k ch ep nd hk1 hk2 hk4
    have d0 := hcl 0 (by rw [cbs_len]; decide)
    have d1 := hcl 1 (by rw [cbs_len]; decide)
    have d10 := hcl 10 (by rw [cbs_len]; decide)
    have g0 : (cbs k ch ep nd).getD 0 0 = (k : Int) := by rw [hf]; rfl
    have g1 : (cbs k ch ep nd).getD 1 0 = (ch : Int) := by rw [hf]; rfl
    have g10 : (cbs k ch ep nd).getD 10 0 = (nd : Int) := by
      rw [hf]
      show (be ep 8 ++ [(nd : Int)]).getD 8 0 = _
      rw [List.getD_eq_getElem?_getD, List.getElem?_append_right (by rw [be_len]; exact Nat.le_refl _), be_len]
      rfl
    rw [g0] at d0
    rw [g1] at d1
    rw [g10] at d10
    rw [Nat.add_zero] at d0
    have HMB := Lib.hid (mid_bsl hk1 hk2 hk4 hbc hbm HBR.out)
    have hcm : (11 : Int) ≤ (bcap : Int) := by omega
    have hcm2 : (10 : Int) ≤ (bcap : Int) := by omega
    have hcm3 : 10 ≤ bcap := by omega
    have hcm4 : ¬ bcap = 2 := by omega
    have hcm5 : ¬ (bcap : Int) = 2 := by omega
    clear hf g0 g1 g10 hcl h2 ht hy hn hbr hx hn1
    go_wp2_with fail
    have HKW := Lib.hid (HK1.out.alloc (.cells #[.slice ja n1 jcap, .int .i64 0] 51))
    have HRW := Lib.hid (balloc HR1.out (.cells #[.slice ja n1 jcap, .int .i64 0] 51))
    have HCW := Lib.hid (balloc HC1.out (.cells #[.slice ja n1 jcap, .int .i64 0] 51))
    have hjw := heap_alloc_new w1 (.cells #[.slice ja n1 jcap, .int .i64 0] 51)
    have HVW := Lib.hid (HV.out.kept ((Kept.refl NoB w1).alloc (.cells #[.slice ja n1 jcap, .int .i64 0] 51)) (fun _ _ h => h))
    have HMW := Lib.hid (HMB.out.kept ((Kept.refl NoB w1).alloc (.cells #[.slice ja n1 jcap, .int .i64 0] 51)) (fun _ _ h => h))
    have d0w := cell_alloc d0 (.cells #[.slice ja n1 jcap, .int .i64 0] 51)
    have d1w := cell_alloc d1 (.cells #[.slice ja n1 jcap, .int .i64 0] 51)
    have d10w := cell_alloc d10 (.cells #[.slice ja n1 jcap, .int .i64 0] 51)
    have hzw : (w1.alloc (.cells #[.slice ja n1 jcap, .int .i64 0] 51)).heap.size = w1.heap.size + 1 := by simp
    have hne : ¬ bb = w1.heap.size + 1 := by omega
    clear j0 j1 jf0 jf1 c0 c1 c2 c3 f0 f1 f2 f3 d0 d1 d10
    generalize hW : w1.alloc (.cells #[.slice ja n1 jcap, .int .i64 0] 51) = W at *
    clear hW
    rw [← hzw] at hne
    have HJW := Lib.hid hjw
    clear hjw
    have hw1 : IntKind.i64.wrap (k : Int) = (k : Int) := IntWalk.i64_in _ (by omega)
    have hw2 : IntKind.i64.wrap (ch : Int) = (ch : Int) := IntWalk.i64_in _ (by omega)
    have hw4 : IntKind.i64.wrap (nd : Int) = (nd : Int) := IntWalk.i64_in _ (by omega)
    have hnum : num (be ep 8) = ep := by rw [num_be]; exact Nat.mod_eq_of_lt (by omega)
    go_region_held3 (fun w' => w'.cell? ⟨bb, bo, none⟩ = some (.int .u8 (k : Int)) ∧ w'.cell? ⟨bb, bo + 1, none⟩ = some (.int .u8 (ch : Int)) ∧ w'.cell? ⟨bb, bo + 10, none⟩ = some (.int .u8 (nd : Int)))
      (first
        | exact ⟨cell_drew d0w, cell_drew d1w, cell_drew d10w⟩
        | exact ⟨cell_drew (cell_alloc d0w _), cell_drew (cell_alloc d1w _), cell_drew (cell_alloc d10w _)⟩
        | exact ⟨cell_alloc (cell_drew d0w) _, cell_alloc (cell_drew d1w) _, cell_alloc (cell_drew d10w) _⟩
        | go_keep)
      ((go_at_call 43; refine (Num_any _ (be ep 8) F _ (by first | exact HMW.out.kept (S := NoB) ((Kept.refl _ _).drew) (fun _ _ h => h) | exact HMW.out.kept (S := NoB) (((Kept.refl _ _).alloc _).drew) (fun _ _ h => h) | exact HMW.out.kept (S := NoB) (((Kept.refl _ _).drew).alloc _) (fun _ _ h => h)) (by rw [be_len]; exact Nat.le_refl _)).mono ?_; rintro e w2 ⟨rfl, rfl⟩))
    all_goals
      have HKD := Lib.hid (HKW.out.alloc (.cells #[.int .i64 (k : Int), .int .i64 (ch : Int), .int .u64 (ep : Int), .int .i64 (nd : Int)] 24)).drew
      have HRD := Lib.hid (show (W.alloc (.cells #[.int .i64 (k : Int), .int .i64 (ch : Int), .int .u64 (ep : Int), .int .i64 (nd : Int)] 24)).drew.heap[w.heap.size + 1]? = _ from balloc HRW.out (.cells #[.int .i64 (k : Int), .int .i64 (ch : Int), .int .u64 (ep : Int), .int .i64 (nd : Int)] 24))
      have HCD := Lib.hid (show (W.alloc (.cells #[.int .i64 (k : Int), .int .i64 (ch : Int), .int .u64 (ep : Int), .int .i64 (nd : Int)] 24)).drew.heap[w.heap.size + 2]? = _ from balloc HCW.out (.cells #[.int .i64 (k : Int), .int .i64 (ch : Int), .int .u64 (ep : Int), .int .i64 (nd : Int)] 24))
      have HJD := Lib.hid (show (W.alloc (.cells #[.int .i64 (k : Int), .int .i64 (ch : Int), .int .u64 (ep : Int), .int .i64 (nd : Int)] 24)).drew.heap[w1.heap.size]? = _ from balloc HJW.out (.cells #[.int .i64 (k : Int), .int .i64 (ch : Int), .int .u64 (ep : Int), .int .i64 (nd : Int)] 24))
      have HXD := Lib.hid (show (W.alloc (.cells #[.int .i64 (k : Int), .int .i64 (ch : Int), .int .u64 (ep : Int), .int .i64 (nd : Int)] 24)).drew.heap[W.heap.size]? = _ from heap_alloc_new W (.cells #[.int .i64 (k : Int), .int .i64 (ch : Int), .int .u64 (ep : Int), .int .i64 (nd : Int)] 24))
      have HVD := Lib.hid (HVW.out.kept (((Kept.refl NoB W).alloc (.cells #[.int .i64 (k : Int), .int .i64 (ch : Int), .int .u64 (ep : Int), .int .i64 (nd : Int)] 24)).drew) (fun _ _ h => h))
      rw [hzw] at HXD
      clear HKW HRW HCW HJW HVW HMW d0w d1w d10w hw1 hw2 hw4 hnum HMB HV HR1 HC1 hcm hcm2 hcm3 hcm4 hcm5 hne
      generalize hWD : (W.alloc (.cells #[.int .i64 (k : Int), .int .i64 (ch : Int), .int .u64 (ep : Int), .int .i64 (nd : Int)] 24)).drew = WD at *
      clear hWD
      by_cases hV : Vld k ch ep nd
      · have HVL := Lib.hid hV
        have HCK : Hid (∀ w, Calls Tryd.prog 7 #[.agg #[.int .i64 (k : Int), .int .i64 (ch : Int), .int .u64 (ep : Int), .int .i64 (nd : Int)]] w fun e w' => e = .returned (.int .i64 0) ∧ Kept NoB w w') :=
          Lib.hid (fun w => (RCheck_any k ch ep nd w (by omega)).mono (by rintro e w' ⟨y, hy, rfl, hk⟩; exact ⟨by rw [hy.one (Chk.ok.2 hV)], hk⟩))
        obtain ⟨c0, c1, c2, c3, f0, f1, f2, f3⟩ := cells4 HXD.out
        clear hV
        go_wp2_with fail
        refine (HCK.out _).mono ?_
        rintro e w6 ⟨rfl, hk⟩
        have HR6 := Lib.hid (hk.heap (fun h => h) HRD.out)
        have HC6 := Lib.hid (hk.heap (fun h => h) HCD.out)
        have HJ6 := Lib.hid (hk.heap (fun h => h) HJD.out)
        have HX6 := Lib.hid (hk.heap (fun h => h) HXD.out)
        have HV6 := Lib.hid (HVD.out.kept hk (fun _ _ h => h))
        have HK6 := Lib.hid (HKD.out.trans hk (fun _ _ h => h))
        clear c0 c1 c2 c3 f0 f1 f2 f3 hk
        obtain ⟨c0, c1, c2, c3, f0, f1, f2, f3⟩ := cells4 HX6.out
        obtain ⟨t0, t1, t2, t3, g0, g1, g2, g3⟩ := cells4 HC6.out
        obtain ⟨j0, j1, jf0, jf1⟩ := cells2 HJ6.out
        obtain ⟨i0, i1, if0, if1⟩ := cells2 HR6.out
        have l1 := heap_lt HX6.out
        have hne1 : ¬ w1.heap.size + 1 = w.heap.size + 1 := by omega
        have hne2 : ¬ w1.heap.size + 1 = w.heap.size + 1 + 1 := by omega
        have hne3 : ¬ w1.heap.size = w.heap.size + 1 := by omega
        have hne4 : ¬ w1.heap.size = w.heap.size + 1 + 1 := by omega
        go_wp2_with fail
        go_region
        go_wp2
        clear j0 j1 t0 t1 t2 t3
        generalize hW : World.setCell (World.setCell (World.setCell (World.setCell (World.setCell (World.setCell w6 _ _) _ _) _ _) _ _) _ _) _ _ = W7
        obtain ⟨q1, q2, q3, q4⟩ := rget_fin (.slice ja n1 jcap) (.int .i64 0) k ch ep nd HK6.out (Nat.le_refl _) HR6.out HC6.out hW
        have hfv := HV6.out.kept q4 (fun k hk h => by have h1 := HF.out k hk; have h2 : w.heap.size ≤ k := h; omega)
        obtain ⟨j0, j1, _, _⟩ := cells2 q1
        obtain ⟨t0, t1, t2, t3, _⟩ := cells4 q2
        exact bodyPost_ret (v := .tuple #[.agg #[.slice ja n1 jcap, .int .i64 0], .agg #[.int .i64 k, .int .i64 ch, .int .u64 ep, .int .i64 nd], .int .i64 0]) (by simp [results, Tryd.results25, go_sem, j0, j1, t0, t1, t2, t3]) rfl ⟨_, k, ch, ep, nd, 0, HY.out HVL.out, by decide, rfl, hfv.kept (S := NoB) ((Kept.refl _ _).drew) (fun _ _ h => h), q3.drew⟩
      · obtain ⟨x, hx⟩ : ∃ x, Chk k ch ep nd x := ⟨_, chk_is _ _ _ _⟩
        have hx0 : x ≠ 0 := fun h => hV (Chk.ok.1 (h ▸ hx))
        have hxb : (x != 0) = true := by simpa using hx0
        have HVL := Lib.hid hV
        have HCK : Hid (∀ w, Calls Tryd.prog 7 #[.agg #[.int .i64 (k : Int), .int .i64 (ch : Int), .int .u64 (ep : Int), .int .i64 (nd : Int)]] w fun e w' => e = .returned (.int .i64 x) ∧ Kept NoB w w') :=
          Lib.hid (fun w => (RCheck_any k ch ep nd w (by omega)).mono (by rintro e w' ⟨y, hy, rfl, hk⟩; exact ⟨by rw [hy.one hx], hk⟩))
        obtain ⟨c0, c1, c2, c3, f0, f1, f2, f3⟩ := cells4 HXD.out
        clear hV hx hx0
        go_wp2_with fail
        refine (HCK.out _).mono ?_
        rintro e w6 ⟨rfl, hk⟩
        have HR6 := Lib.hid (hk.heap (fun h => h) HRD.out)
        have HC6 := Lib.hid (hk.heap (fun h => h) HCD.out)
        have HJ6 := Lib.hid (hk.heap (fun h => h) HJD.out)
        have HV6 := Lib.hid (HVD.out.kept hk (fun _ _ h => h))
        have HK6 := Lib.hid (HKD.out.trans hk (fun _ _ h => h))
        clear c0 c1 c2 c3 f0 f1 f2 f3
        obtain ⟨t0, t1, t2, t3, g0, g1, g2, g3⟩ := cells4 HC6.out
        obtain ⟨j0, j1, jf0, jf1⟩ := cells2 HJ6.out
        obtain ⟨i0, i1, if0, if1⟩ := cells2 HR6.out
        have l1 := heap_lt HJ6.out
        have hne3 : ¬ w1.heap.size = w.heap.size + 1 := by omega
        have hne4 : ¬ w1.heap.size = w.heap.size + 1 + 1 := by omega
        clear hk
        go_wp2
        clear j0 j1 t0 t1 t2 t3
        generalize hW : World.setCell (World.setCell (World.setCell (World.setCell (World.setCell (World.setCell w6 _ _) _ _) _ _) _ _) _ _) _ _ = W7
        obtain ⟨q1, q2, q3, q4⟩ := rget_fin (.slice ja n1 jcap) (.int .i64 0) 0 0 0 0 HK6.out (Nat.le_refl _) HR6.out HC6.out hW
        have hfv := HV6.out.kept q4 (fun k hk h => by have h1 := HF.out k hk; have h2 : w.heap.size ≤ k := h; omega)
        obtain ⟨j0, j1, _, _⟩ := cells2 q1
        obtain ⟨t0, t1, t2, t3, _⟩ := cells4 q2
        exact bodyPost_ret (v := .tuple #[.agg #[.slice ja n1 jcap, .int .i64 0], .agg #[.int .i64 0, .int .i64 0, .int .u64 0, .int .i64 0], .int .i64 4]) (by simp [results, Tryd.results25, go_sem, j0, j1, t0, t1, t2, t3]) rfl ⟨_, 0, 0, 0, 0, 4, HN.out HVL.out, by decide, rfl, hfv, q3⟩
  · have he0 : (s.raw 11).1.err ≠ 0 := by rw [hx]; exact he
    obtain ⟨hG, hE, hL⟩ := raw_l s HOK.out he0
    rw [hx] at hG hE hL
    have HE := Lib.hid hE
    have HL := Lib.hid hL
    have HGI := Lib.hid hG
    have hxb : (x != 0) = true := by simpa using he
    have HJ1 := Lib.hid (heap_alloc_new w1 (.cells #[.slice ja n1 jcap, .int .i64 x] 51))
    clear hG hE hL hx hn1 he he0 he1
    go_wp2_with fail
    have l1 : w1.heap.size < (w1.alloc (.cells #[.slice ja n1 jcap, .int .i64 x] 51)).heap.size := by simp
    have HR6 := Lib.hid (balloc HR1.out (.cells #[.slice ja n1 jcap, .int .i64 x] 51))
    have HC6 := Lib.hid (balloc HC1.out (.cells #[.slice ja n1 jcap, .int .i64 x] 51))
    have HV6 := Lib.hid (HV.out.kept ((Kept.refl NoB w1).alloc (.cells #[.slice ja n1 jcap, .int .i64 x] 51)) (fun _ _ h => h))
    have HK6 := Lib.hid (HK1.out.alloc (.cells #[.slice ja n1 jcap, .int .i64 x] 51))
    generalize hWW : w1.alloc (.cells #[.slice ja n1 jcap, .int .i64 x] 51) = w6 at *
    clear hWW j0 j1 jf0 jf1 c0 c1 c2 c3 f0 f1 f2 f3
    obtain ⟨t0, t1, t2, t3, g0, g1, g2, g3⟩ := cells4 HC6.out
    obtain ⟨j0, j1, jf0, jf1⟩ := cells2 HJ1.out
    obtain ⟨i0, i1, if0, if1⟩ := cells2 HR6.out
    have hne3 : ¬ w1.heap.size = w.heap.size + 1 := by omega
    have hne4 : ¬ w1.heap.size = w.heap.size + 1 + 1 := by omega
    go_region
    all_goals
      go_wp2
      clear j0 j1 t0 t1 t2 t3
      generalize hW : World.setCell (World.setCell (World.setCell (World.setCell (World.setCell (World.setCell w6 _ _) _ _) _ _) _ _) _ _) _ _ = W7
      obtain ⟨q1, q2, q3, q4⟩ := rget_fin (.slice ja n1 jcap) (.int .i64 x) 0 0 0 0 HK6.out (Nat.le_refl _) HR6.out HC6.out hW
      have hfv := HV6.out.kept q4 (fun k hk h => by have h1 := HF.out k hk; have h2 : w.heap.size ≤ k := h; omega)
      obtain ⟨j0, j1, _, _⟩ := cells2 q1
      obtain ⟨t0, t1, t2, t3, _⟩ := cells4 q2
      exact bodyPost_ret (v := .tuple #[.agg #[.slice ja n1 jcap, .int .i64 x], .agg #[.int .i64 0, .int .i64 0, .int .u64 0, .int .i64 0], .int .i64 x]) (by simp [results, Tryd.results25, go_sem, j0, j1, t0, t1, t2, t3]) rfl ⟨_, 0, 0, 0, 0, _, HGI.out, HL.out, by rw [HE.out]; rfl, hfv.kept (S := NoB) ((Kept.refl _ _).drew) (fun _ _ h => h), q3.drew⟩
end Go.Proofs.YtdohnobfaignpaaDoor
