/-
  The chapter's Parse.
-/
import Derived.Test.YtdohnobfaignpaaDoorCmdK
namespace Go.Proofs.YtdohnobfaignpaaDoor
open Go.RowKit Go.Sort Go.Lib
set_option linter.unusedVariables false

theorem SOwn.form {B : Nat} {w : World} {v : Value} {l : List (List UInt8)} (h : SOwn B w v l) : ∃ a c, v = .slice a l.length c ∧ ∀ i, i < l.length → ∃ g, a = some ⟨g, 0, none⟩ ∧ g < w.heap.size ∧ w.cell? ⟨g, i, none⟩ = some (.string ⟨(l.getD i []).toArray⟩) := by
  rcases h.2 with ⟨hv, hn⟩ | ⟨g, cap, cur, hv, hb, hh, h1, h2, h3, h4⟩
  · exact ⟨none, 0, by rw [hv, hn], fun i hi => by omega⟩
  · refine ⟨_, cap, hv, fun i hi => ⟨g, rfl, heap_lt hh, ?_⟩⟩
    have := World.ownsRow.cellAt (hv ▸ h : w.ownsRow B 9 1 (.slice (some ⟨g, 0, none⟩) l.length cap) l.length (sv l)) i (by omega)
    rw [this]
    simp [sv, List.getElem?_eq_getElem hi, List.getD_eq_getElem?_getD]
/-- The words of a text that is a command's, but no Noop's. -/
theorem words_of {l : List UInt8} {k ch ep nd : Nat} (hc : Cm k ch ep nd) (hl : l = txtOf k ch ep nd) (hn : l ≠ nmL 0) : 1 ≤ k ∧ k ≤ 4 ∧ l = txtL k ch ep nd ∧ wgo [] l = [nmL k, Lib.decDigits ch, Lib.decDigits ep, Lib.decDigits nd] ∧ ch ≤ 3 ∧ nd ≤ 24 ∧ ep ≤ MaxU := by
  have hM : MaxU = 18446744073709551615 := rfl
  obtain ⟨hv, he⟩ := hc
  unfold txtOf at hl
  by_cases h0 : k = 0
  · rw [if_pos h0] at hl; exact absurd hl hn
  · rw [if_neg h0] at hl
    unfold Vld at hv
    exact ⟨by omega, by omega, hl, by rw [hl]; exact wgo_txt k ch ep nd, by omega, by omega, by omega⟩
/-- Whether no command has this text. -/
def NoCm (l : List UInt8) : Prop := ∀ k ch ep nd : Nat, Cm k ch ep nd → l ≠ txtOf k ch ep nd
theorem no_len {l : List UInt8} (hn : l ≠ nmL 0) (h : (wgo [] l).length ≠ 4) : NoCm l := fun k ch ep nd hc hl => by
  have := (words_of hc hl hn).2.2.2.1
  rw [this] at h
  exact h rfl
theorem no_err {l x0 x1 x2 x3 : List UInt8} (hn : l ≠ nmL 0) (hw : wgo [] l = [x0, x1, x2, x3]) {n1 n2 n3 : Nat} {e1 e2 e3 : Int} (h1 : NumIs x1 255 n1 e1) (h2 : NumIs x2 MaxU n2 e2) (h3 : NumIs x3 255 n3 e3)
    {k ch ep nd : Nat} (hc : Cm k ch ep nd) (hl : l = txtOf k ch ep nd) : e1 = 0 ∧ e2 = 0 ∧ e3 = 0 ∧ n1 = ch ∧ n2 = ep ∧ n3 = nd ∧ 1 ≤ k ∧ k ≤ 4 ∧ l = txtL k ch ep nd := by
  have hM : MaxU = 18446744073709551615 := rfl
  obtain ⟨a, b, c, d, f, g, i⟩ := words_of hc hl hn
  rw [hw] at d
  injection d with _ d
  injection d with d1 d
  injection d with d2 d
  injection d with d3 d
  subst d1 d2 d3
  have r1 := h1.one (num_dec ch 255 (by omega) (by omega))
  have r2 := h2.one (num_dec ep MaxU (by omega) (by omega))
  have r3 := h3.one (num_dec nd 255 (by omega) (by omega))
  exact ⟨r1.2, r2.2, r3.2, r1.1, r2.1, r3.1, a, b, c⟩
theorem wgo_len (l : List UInt8) : ∀ (cur x : List UInt8), x ∈ wgo cur l → x.length ≤ cur.length + l.length := by
  induction l with
  | nil => intro cur x hx; have : x = cur := by simpa [wgo] using hx
           rw [this]; simp
  | cons c l ih =>
    intro cur x hx
    rw [wgo] at hx
    split at hx
    · rcases List.mem_cons.1 hx with rfl | hx
      · simp
      · have := ih [] x hx
        simp at this ⊢
        omega
    · have := ih (cur ++ [c]) x hx
      simp at this ⊢
      omega
theorem RNum_of (x : List UInt8) (most : Nat) (w : World) (h : x.length ≤ 1000000) : Calls Tryd.prog 30 #[.string ⟨x.toArray⟩, .int .u64 most] w (NumEnds x most w) := by
  have h1 := RNumber_any ⟨x.toArray⟩ most w (by simp [ByteArray.size]; omega)
  have e : (⟨x.toArray⟩ : ByteArray).data.toList = x := by simp
  rw [e] at h1
  exact h1
/-- That no command of a kind below j has this text. -/
def NoBelow (l : List UInt8) (j ch ep nd : Nat) : Prop := ∀ k, 1 ≤ k → k < j → Cm k ch ep nd → l ≠ txtL k ch ep nd
set_option maxRecDepth 100000 in
set_option maxHeartbeats 4000000 in
theorem RParse_any (s : ByteArray) (w : World) (hs : s.size ≤ 1000000) : Calls Tryd.prog 28 #[.string s] w (PEnd s w) := by
  have hr := heap_alloc_new w (.cells #[.int .i64 0, .int .i64 0, .int .u64 0, .int .i64 0] 24)
  have HR := Lib.hid hr
  have HK0 := Lib.hid ((Kept.refl NoB w).alloc (.cells #[.int .i64 0, .int .i64 0, .int .u64 0, .int .i64 0] 24))
  clear hr
  by_cases hz : s.data.toList = nmL 0
  · have h1 : s.toList = [110, 111, 111, 112] := by rw [toL]; exact hz
    have HZ := Lib.hid hz
    obtain ⟨r0, r1, r2, r3, f0, f1, f2, f3⟩ := cells4 HR.out
    have hlt := heap_lt HR.out
    clear hz
    go_enter Tryd.func28, Tryd.ntmps28
    go_wp2
    exact bodyPost_ret (v := .tuple #[.agg #[.int .i64 0, .int .i64 0, .int .u64 0, .int .i64 0], .int .i64 0]) (by simp [results, Tryd.results28, go_sem, r0, r1, r2, r3]) rfl ⟨.inl ⟨0, 0, 0, 0, ⟨by unfold Vld; omega, by omega⟩, HZ.out, rfl⟩, HK0.out⟩
  · have h1 : ¬ s.toList = [110, 111, 111, 112] := by rw [toL]; exact hz
    have h1b : (s.toList == [110, 111, 111, 112]) = false := by simpa using h1
    have HZ := Lib.hid hz
    have HW := Lib.hid (Words_any s (w.alloc (.cells #[.int .i64 0, .int .i64 0, .int .u64 0, .int .i64 0] 24)) hs)
    clear hz
    go_enter Tryd.func28, Tryd.ntmps28
    go_wp2_with fail
    refine HW.out.mono ?_
    rintro e w1 ⟨v, rfl, ho, hk⟩
    obtain ⟨a, c, rfl, hcell⟩ := ho.form
    have hr1 := hk.heap (fun h => h) HR.out
    have HR1 := Lib.hid hr1
    have HK1 := Lib.hid (HK0.out.trans hk (fun _ _ h => h))
    have HCL := Lib.hid hcell
    clear ho hk hr1 hcell HW
    by_cases h4 : (wgo [] s.data.toList).length = 4
    · obtain ⟨x0, x1, x2, x3, hw⟩ : ∃ x0 x1 x2 x3, wgo [] s.data.toList = [x0, x1, x2, x3] := by
        match hh : wgo [] s.data.toList, h4 with
        | [x0, x1, x2, x3], _ => exact ⟨x0, x1, x2, x3, rfl⟩
      have HWD := Lib.hid hw
      rw [hw] at HCL ⊢
      obtain ⟨g, rfl, hg, p1⟩ := HCL.out 1 (by simp)
      obtain ⟨_, e2, _, p2⟩ := HCL.out 2 (by simp)
      obtain ⟨_, e3, _, p3⟩ := HCL.out 3 (by simp)
      injection e2 with e2
      injection e2 with e2
      subst e2
      injection e3 with e3
      injection e3 with e3
      subst e3
      have hxl : x1.length ≤ 1000000 ∧ x2.length ≤ 1000000 ∧ x3.length ≤ 1000000 := by
        have hb : ∀ x, x ∈ wgo [] s.data.toList → x.length ≤ 1000000 := fun x hx => by
          have := wgo_len _ _ x hx
          have h2 := size_len s
          simp only [List.length_nil] at this
          omega
        rw [hw] at hb
        exact ⟨hb x1 (by simp), hb x2 (by simp), hb x3 (by simp)⟩
      have HN1 := Lib.hid (fun w => RNum_of x1 255 w hxl.1)
      have HN2 := Lib.hid (fun w => RNum_of x2 MaxU w hxl.2.1)
      have HN3 := Lib.hid (fun w => RNum_of x3 255 w hxl.2.2)
      have p1' : w1.cell? ⟨g, 1, none⟩ = some (.string ⟨x1.toArray⟩) := p1
      have p2' : w1.cell? ⟨g, 2, none⟩ = some (.string ⟨x2.toArray⟩) := p2
      have p3' : w1.cell? ⟨g, 3, none⟩ = some (.string ⟨x3.toArray⟩) := p3
      have hlen4 : ([x0, x1, x2, x3] : List (List UInt8)).length = 4 := rfl
      rw [hlen4]
      clear hw h4 p1 p2 p3 hxl hlen4 HCL h1
      go_wp2_with fail
      refine (HN1.out _).mono ?_
      rintro e w2 ⟨ch, e1, hn1, rfl, hk⟩
      have q2 := hk.cell (p := ⟨g, 2, none⟩) (fun h => h) p2'
      have q3 := hk.cell (p := ⟨g, 3, none⟩) (fun h => h) p3'
      have hr2 := hk.heap (fun h => h) HR1.out
      have HR2 := Lib.hid hr2
      have HK2 := Lib.hid (HK1.out.trans hk (fun _ _ h => h))
      have HNI1 := Lib.hid hn1
      have hch := hn1.le.2
      clear p1' p2' p3' hk hr2 hn1
      go_wp2_with fail
      refine (HN2.out _).mono ?_
      rintro e w3 ⟨ep, e2, hn2, rfl, hk⟩
      have t3 := hk.cell (p := ⟨g, 3, none⟩) (fun h => h) q3
      have hr3 := hk.heap (fun h => h) HR2.out
      have HR3 := Lib.hid hr3
      have HK3 := Lib.hid (HK2.out.trans hk (fun _ _ h => h))
      have HNI2 := Lib.hid hn2
      have HEP := Lib.hid hn2.le.2
      clear q2 q3 hk hr3 hn2
      go_wp2_with fail
      refine (HN3.out _).mono ?_
      rintro e w4 ⟨nd, e3, hn3, rfl, hk⟩
      have hr4 := hk.heap (fun h => h) HR3.out
      have HR4 := Lib.hid hr4
      have HK4 := Lib.hid (HK3.out.trans hk (fun _ _ h => h))
      have HNI3 := Lib.hid hn3
      have hnd := hn3.le.2
      clear t3 hk hr4 hn3
      by_cases he : e1 = 0 ∧ e2 = 0 ∧ e3 = 0
      · obtain ⟨rfl, rfl, rfl⟩ := he
        have hch0 : (0 : Int) ≤ (ch : Int) := by omega
        have hch1 : (ch : Int) ≤ 255 := by omega
        have hnd0 : (0 : Int) ≤ (nd : Int) := by omega
        have hnd1 : (nd : Int) ≤ 255 := by omega
        go_wp2
        go_loopw [11] (fun i wr => ∃ j : Nat, 1 ≤ j ∧ j ≤ 5 ∧ i = .int .i64 j ∧ Hid (NoBelow s.data.toList j ch ep nd) ∧ Hid (wr.heap[w.heap.size]? = some (.cells #[.int .i64 0, .int .i64 0, .int .u64 0, .int .i64 0] 24 (0, 0))) ∧ Kept NoB w wr) (fun i _ => 5 - (RowKit.intOf i).toNat)
        case atStart => exact ⟨1, by omega, by omega, rfl, (fun k h1 h2 => by omega), HR4.out, HK4.out⟩
        case round =>
          obtain ⟨j, hj1, hj5, rfl, HNB, HRR, hkk⟩ := hrel
          have HKK := Lib.hid hkk
          clear hkk
          by_cases hlt : j < 5
          · have hlt4 : (j : Int) ≤ 4 := by omega
            have hc1 := heap_alloc_new wr (.cells #[.int .i64 (j : Int), .int .i64 (ch : Int), .int .u64 (ep : Int), .int .i64 (nd : Int)] 24)
            have HC1 := Lib.hid hc1
            have HR1' := Lib.hid (balloc HRR.out (.cells #[.int .i64 (j : Int), .int .i64 (ch : Int), .int .u64 (ep : Int), .int .i64 (nd : Int)] 24))
            have HCK := Lib.hid (RCheck_any j ch ep nd (wr.alloc (.cells #[.int .i64 (j : Int), .int .i64 (ch : Int), .int .u64 (ep : Int), .int .i64 (nd : Int)] 24)) (by omega))
            clear hc1
            go_wp2_with fail
            refine HCK.out.mono ?_
            rintro e w5 ⟨x, hx, rfl, hk⟩
            have hr5 := hk.heap (fun h => h) HR1'.out
            have hb5 := hk.heap (fun h => h) HC1.out
            have HR5 := Lib.hid hr5
            have HB5 := Lib.hid hb5
            have HK5 := Lib.hid ((HKK.out.alloc _).trans hk (fun _ _ h => h))
            obtain ⟨b0, b1, b2, b3, _⟩ := cells4 hb5
            clear hk hr5 hb5 HCK HC1 HR1'
            by_cases hV : Vld j ch ep nd
            · obtain rfl : x = 0 := hx.one (Chk.ok.2 hV)
              have HV := Lib.hid hV
              have HX := Lib.hid (CRText_any j ch ep nd w5 hj1 (by omega) (by omega) (by have := HEP.out; have hM : MaxU = 18446744073709551615 := rfl; omega) (by omega))
              clear hV hx
              go_wp2_with fail
              refine HX.out.mono ?_
              rintro e w6 ⟨rfl, hk⟩
              have hr6 := hk.heap (fun h => h) HR5.out
              have hb6 := hk.heap (fun h => h) HB5.out
              have HR6 := Lib.hid hr6
              have HK6 := Lib.hid (HK5.out.trans hk (fun _ _ h => h))
              obtain ⟨r0, r1, r2, r3, f0, f1, f2, f3⟩ := cells4 hr6
              obtain ⟨c0, c1, c2, c3, _⟩ := cells4 hb6
              have hltr := heap_lt hr6
              clear hk hr6 hb6 HX b0 b1 b2 b3
              by_cases heq : s.data.toList = txtL j ch ep nd
              · have HE : Hid (Cm j ch ep nd ∧ s.data.toList = txtOf j ch ep nd) := Lib.hid ⟨⟨HV.out, by have := HEP.out; have hM : MaxU = 18446744073709551615 := rfl; omega⟩, by unfold txtOf; rw [if_neg (by omega)]; exact heq⟩
                have h1 : s.toList = txtL j ch ep nd := by rw [toL]; exact heq
                obtain ⟨t, ht⟩ : ∃ t, t = txtL j ch ep nd := ⟨_, rfl⟩
                rw [← ht] at h1 ⊢
                clear heq ht
                go_wp2
                have hfin := cmd_cells (k := j) (ch := ch) (ep := ep) (nd := nd) HR6.out
                have hkf := cmd_kept (k := j) (ch := ch) (ep := ep) (nd := nd) HK6.out (Nat.le_refl w.heap.size)
                generalize hW : World.setCell (World.setCell (World.setCell (World.setCell w6 _ _) _ _) _ _) _ _ = W at hfin hkf ⊢
                obtain ⟨r0, r1, r2, r3, _⟩ := cells4 hfin
                exact bodyPost_ret (v := .tuple #[.agg #[.int .i64 j, .int .i64 ch, .int .u64 ep, .int .i64 nd], .int .i64 0]) (by simp [results, Tryd.results28, go_sem, r0, r1, r2, r3]) rfl ⟨.inl ⟨j, ch, ep, nd, HE.out.1, HE.out.2, rfl⟩, hkf⟩
              · have HNB2 : Hid (NoBelow s.data.toList (j + 1) ch ep nd) := Lib.hid (fun k h1 h2 hc => by
                  rcases (by omega : k < j ∨ k = j) with h | rfl
                  · exact HNB.out k h1 h hc
                  · exact heq)
                have h1 : ¬ txtL j ch ep nd = s.toList := fun h => heq (by rw [← toL]; exact h.symm)
                obtain ⟨t, ht⟩ : ∃ t, t = txtL j ch ep nd := ⟨_, rfl⟩
                rw [← ht] at h1 ⊢
                have h3 : (t == s.toList) = false := by simpa using h1
                clear heq ht
                go_wp2
                go_roundw
                case rel => exact ⟨j + 1, by omega, by omega, by go_num, HNB2.out, HR6.out, HK6.out⟩
                case measure => simp [RowKit.intOf]; omega
            · have hx0 : x ≠ 0 := fun h => hV (Chk.ok.1 (h ▸ hx))
              have hxb : ((x : Int) == 0) = false := by simpa using hx0
              have HNB2 : Hid (NoBelow s.data.toList (j + 1) ch ep nd) := Lib.hid (fun k h1 h2 hc => by
                rcases (by omega : k < j ∨ k = j) with h | rfl
                · exact HNB.out k h1 h hc
                · exact absurd hc.1 hV)
              clear hV hx hx0 b0 b1 b2 b3
              go_wp2
              go_roundw
              case rel => exact ⟨j + 1, by omega, by omega, by go_num, HNB2.out, HR5.out, HK5.out⟩
              case measure => simp [RowKit.intOf]; omega
          · obtain rfl : j = 5 := by omega
            have HNO : Hid (NoCm s.data.toList) := Lib.hid (fun k ch' ep' nd' hc hl => by
              obtain ⟨_, _, _, rfl, rfl, rfl, h1, h2, h3⟩ := no_err HZ.out HWD.out HNI1.out HNI2.out HNI3.out hc hl
              exact HNB.out k h1 (by omega) hc h3)
            obtain ⟨r0, r1, r2, r3, f0, f1, f2, f3⟩ := cells4 HRR.out
            have hltr := heap_lt HRR.out
            go_wp2
            have hfin := cmd_cells (k := 0) (ch := 0) (ep := 0) (nd := 0) HRR.out
            have hkf := cmd_kept (k := 0) (ch := 0) (ep := 0) (nd := 0) HKK.out (Nat.le_refl w.heap.size)
            generalize hW : World.setCell (World.setCell (World.setCell (World.setCell wr _ _) _ _) _ _) _ _ = W at hfin hkf ⊢
            obtain ⟨r0, r1, r2, r3, _⟩ := cells4 hfin
            exact bodyPost_ret (v := .tuple #[.agg #[.int .i64 0, .int .i64 0, .int .u64 0, .int .i64 0], .int .i64 4]) (by simp [results, Tryd.results28, go_sem, r0, r1, r2, r3]) rfl ⟨.inr ⟨HNO.out, rfl⟩, hkf⟩
      · have HNO : Hid (NoCm s.data.toList) := Lib.hid (fun k ch' ep' nd' hc hl => by
          obtain ⟨a, b, c, _⟩ := no_err HZ.out HWD.out HNI1.out HNI2.out HNI3.out hc hl
          exact he ⟨a, b, c⟩)
        obtain ⟨r0, r1, r2, r3, f0, f1, f2, f3⟩ := cells4 HR4.out
        have hltr := heap_lt HR4.out
        have hcase : (e1 ≠ 0) ∨ (e1 = 0 ∧ e2 ≠ 0) ∨ (e1 = 0 ∧ e2 = 0 ∧ e3 ≠ 0) := by omega
        clear he
        rcases hcase with h | ⟨rfl, h⟩ | ⟨rfl, rfl, h⟩
        · have hb : ((e1 : Int) != 0) = true := by simpa using h
          clear h
          go_wp2
          have hfin := cmd_cells (k := 0) (ch := 0) (ep := 0) (nd := 0) HR4.out
          have hkf := cmd_kept (k := 0) (ch := 0) (ep := 0) (nd := 0) HK4.out (Nat.le_refl w.heap.size)
          generalize hW : World.setCell (World.setCell (World.setCell (World.setCell w4 _ _) _ _) _ _) _ _ = W at hfin hkf ⊢
          obtain ⟨r0, r1, r2, r3, _⟩ := cells4 hfin
          exact bodyPost_ret (v := .tuple #[.agg #[.int .i64 0, .int .i64 0, .int .u64 0, .int .i64 0], .int .i64 4]) (by simp [results, Tryd.results28, go_sem, r0, r1, r2, r3]) rfl ⟨.inr ⟨HNO.out, rfl⟩, hkf⟩
        · have hb : ((e2 : Int) != 0) = true := by simpa using h
          clear h
          go_wp2
          have hfin := cmd_cells (k := 0) (ch := 0) (ep := 0) (nd := 0) HR4.out
          have hkf := cmd_kept (k := 0) (ch := 0) (ep := 0) (nd := 0) HK4.out (Nat.le_refl w.heap.size)
          generalize hW : World.setCell (World.setCell (World.setCell (World.setCell w4 _ _) _ _) _ _) _ _ = W at hfin hkf ⊢
          obtain ⟨r0, r1, r2, r3, _⟩ := cells4 hfin
          exact bodyPost_ret (v := .tuple #[.agg #[.int .i64 0, .int .i64 0, .int .u64 0, .int .i64 0], .int .i64 4]) (by simp [results, Tryd.results28, go_sem, r0, r1, r2, r3]) rfl ⟨.inr ⟨HNO.out, rfl⟩, hkf⟩
        · have hb : ((e3 : Int) != 0) = true := by simpa using h
          clear h
          go_wp2
          have hfin := cmd_cells (k := 0) (ch := 0) (ep := 0) (nd := 0) HR4.out
          have hkf := cmd_kept (k := 0) (ch := 0) (ep := 0) (nd := 0) HK4.out (Nat.le_refl w.heap.size)
          generalize hW : World.setCell (World.setCell (World.setCell (World.setCell w4 _ _) _ _) _ _) _ _ = W at hfin hkf ⊢
          obtain ⟨r0, r1, r2, r3, _⟩ := cells4 hfin
          exact bodyPost_ret (v := .tuple #[.agg #[.int .i64 0, .int .i64 0, .int .u64 0, .int .i64 0], .int .i64 4]) (by simp [results, Tryd.results28, go_sem, r0, r1, r2, r3]) rfl ⟨.inr ⟨HNO.out, rfl⟩, hkf⟩
    · have HNO := Lib.hid (no_len HZ.out h4)
      have h4b : (((wgo [] s.data.toList).length : Int) != 4) = true := by simpa using (by omega : ¬ ((wgo [] s.data.toList).length : Int) = 4)
      obtain ⟨r0, r1, r2, r3, f0, f1, f2, f3⟩ := cells4 HR1.out
      have hlt := heap_lt HR1.out
      clear h4
      go_wp2
      have hfin := cmd_cells (k := 0) (ch := 0) (ep := 0) (nd := 0) HR1.out
      have hkf := cmd_kept (k := 0) (ch := 0) (ep := 0) (nd := 0) HK1.out (Nat.le_refl w.heap.size)
      generalize hW : World.setCell (World.setCell (World.setCell (World.setCell w1 _ _) _ _) _ _) _ _ = W at hfin hkf ⊢
      obtain ⟨r0, r1, r2, r3, _⟩ := cells4 hfin
      exact bodyPost_ret (v := .tuple #[.agg #[.int .i64 0, .int .i64 0, .int .u64 0, .int .i64 0], .int .i64 4]) (by simp [results, Tryd.results28, go_sem, r0, r1, r2, r3]) rfl ⟨.inr ⟨HNO.out, rfl⟩, hkf⟩
end Go.Proofs.YtdohnobfaignpaaDoor
