/-
  The walk of CraqWaits.
-/
import Derived.Test.YtnnmkmipeoajjaaGreatDoorCrqJ
import Derived.Test.YtnnmkmipeoajjaaGreatDoorCrqL
import Derived.Deep.CutBlock
namespace Go.Proofs.YtnnmkmipeoajjaaGreatDoor
open Go.RowKit
set_option linter.unusedVariables false
set_option linter.unusedSimpArgs false

set_option maxRecDepth 100000 in
set_option maxHeartbeats 4000000 in
theorem CraqWaits_any (w : World) (v : Value) (n : Nat) (it : Nat → Op22) (h : Ops22 w v n it) (ht : Tab10 w) : Calls Tryz.prog 3 #[v] w fun e w' => e = .returned (.bool true) ∧ Kept NoB w w' := by
  have HAW := Lib.hid (fun w' (hk : Kept NoB w w') => awake22 w' (ht.kept hk (fun h => h)))
  have HN := Lib.hid (QNew_any w)
  obtain ⟨a, c, rfl, hnc, hcm, hrow⟩ := h
  have HROW := Lib.hid hrow
  unfold maxLen at hcm
  clear hrow ht
  go_enter Tryz.func3, Tryz.ntmps3
  go_wp2_with fail
  refine HN.out.mono ?_
  rintro e w1 ⟨rfl, hr, hw1⟩
  have hk1 : Kept NoB w w1 := by rw [hw1]; exact (Kept.refl _ _).alloc _
  have HS0 : Hid (St22 w w.heap.size w1.heap.size 0 [] (w1.alloc (.cells #[.int .u64 0, .slice none 0 0] 28))) := Lib.hid (by
    have hk2 := (Kept.refl NoB w1).alloc (.cells #[.int .u64 0, .slice none 0 0] 28)
    exact ⟨⟨none, 0, hr.no hk2, fun j hj => by simp [Value.ownBlock] at hj⟩, ⟨_, heap_alloc_new w1 _, RqOw.nil _ _ _⟩, hk1.trans hk2 (fun _ _ h => h), Nat.le_refl _, hk1.size⟩)
  obtain ⟨g, hg⟩ : ∃ g, g = w.heap.size := ⟨_, rfl⟩
  obtain ⟨b, hb⟩ : ∃ b, b = w1.heap.size := ⟨_, rfl⟩
  rw [← hb] at HS0
  have HS0 : Hid (St22 w g b 0 [] (w1.alloc (.cells #[.int .u64 0, .slice none 0 0] 28))) := Lib.hid (by rw [hg]; exact HS0.out)
  have HGG := Lib.hid hg
  have HBB := Lib.hid hb
  clear hr hw1 hk1 hg
  go_wp2_with fail
  rw [← HGG.out]
  rw [← hb]
  clear hb
  go_loopw [5] (fun iv wr => ∃ (i : Nat) (tk : Int) (L : List Rq), i ≤ n ∧ i ≤ 60 ∧ iv = .int .i64 i ∧ Wt22 tk L i ∧ St22 w g b tk L wr) (fun iv _ => 60 - (intOf iv).toNat)
  case atStart => exact ⟨0, 0, [], Nat.zero_le _, by omega, rfl, Wt22.none (Int.le_refl _) (Int.le_refl _), HS0.out⟩
  case round =>
    obtain ⟨i, tk, L, hi, hi60, rfl, hwt, hst⟩ := hrel
    have HST := Lib.hid hst
    have HWT := Lib.hid hwt
    clear hst hwt HS0
    by_cases hin : i < n
    · have hini : (i : Int) < (n : Int) := by omega
      by_cases h60 : i < 60
      · have h60i : (i : Int) < 60 := by omega
        have hi0 : (0 : Int) ≤ (i : Int) := by omega
        obtain ⟨r, o, ha, hr, hcell⟩ := HROW.out (by omega)
        subst ha
        have hq := (hcell i hin).no HST.out.kp
        obtain ⟨⟨ok, oc, on, okey⟩, hop⟩ : ∃ z, z = it i := ⟨_, rfl⟩
        rw [← hop] at hq
        obtain ⟨e0, e1, e2, e3, hn0, hkey0⟩ := hq
        simp only at e0 e1 e2 e3 hn0 hkey0
        clear hcell hop
        go_upto_region 7 with fail
        obtain ⟨V, hV⟩ : ∃ V, V = wr.alloc (.cells #[.int .i64 ok, .int .i64 oc, .int .u64 on, .int .u32 okey] 31) := ⟨_, rfl⟩
        obtain ⟨b6, hb6⟩ : ∃ b6, b6 = wr.heap.size := ⟨_, rfl⟩
        have HSV : Hid (St22 w g b tk L V) := Lib.hid (by rw [hV]; exact HST.out.no ((Kept.refl _ _).alloc _))
        have HOB : Hid (V.heap[b6]? = some (.cells #[.int .i64 ok, .int .i64 oc, .int .u64 on, .int .u32 okey] 31 (0, 0))) := Lib.hid (by rw [hV, hb6]; exact heap_alloc_new wr _)
        rw [← hV, ← hb6]
        clear hV hb6 e0 e1 e2 e3
        obtain ⟨p0, p1, p2, p3, _⟩ := cells4q HOB.out
        go_upto_block 2 with fail
        obtain ⟨⟨pa, pd, hrd, hro⟩, ⟨lv, hch, hcr⟩, _, _, _⟩ := HSV.out
        obtain ⟨la, lc, rfl⟩ := hcr.form
        have HRD := Lib.hid hrd
        have HRO := Lib.hid hro
        have HCH := Lib.hid hch
        have HCR := Lib.hid hcr
        clear hrd hro hch hcr
        have hL16 := HWT.out.len
        have htk0 := HWT.out.t0
        have htk1 : tk ≤ 60 := by have := HWT.out.ti; omega
        go_cut [] from 40 to 106 (fun wc => ∃ (tk' : Int) (L' : List Rq), Wt22 tk' L' (i + 1) ∧ St22 w g b tk' L' wc)
        case first =>
          by_cases hk0 : ok = 0
          · have dk0 : (ok == 0) = true := by simp [hk0]
            have hask := QAsk_any g pa pd tk L oc on okey V HRD.out HWT.out.d hL16 htk0 (by omega) hn0 hkey0
            have hrask := fun (W : World) (hr : RqOw 37 0 W (.slice la L.length lc) L) => RAsk_any (.slice la L.length lc) tk L oc on okey W hr (by omega) htk0 (by omega) hn0 hkey0
            have hwn := HWT.out.ask oc on okey
            unfold QAskP at hask
            unfold RAskP at hrask
            obtain ⟨z, hz⟩ : ∃ z, z = askF tk L oc on okey := ⟨_, rfl⟩
            rw [← hz] at hask hwn
            simp only [← hz] at hrask
            obtain ⟨tk', L', ⟨xt, xc, xn, xk⟩, er⟩ := z
            simp only [rqv, rrv] at hask hrask hwn
            have HRA := Lib.hid hrask
            have HWN := Lib.hid hwn
            clear hrask hwn hz hk0
            go_wp2_with fail
            refine hask.mono ?_
            rintro e w2 ⟨rfl, ⟨pa', pd', hr', ho'⟩, hf⟩
            have hm2 := St22.step HRD.out HRO.out HCH.out HCR.out HSV.out.kp HSV.out.gw HSV.out.bw hr' ho' hf
            have hk7 := (Kept.refl NoB w2).alloc (.cells #[.int .u64 xt, .int .i64 xc, .int .u64 xn, .int .u32 xk] 33)
            have HM3 := Lib.hid (hm2.no hk7)
            have HB7 := Lib.hid (heap_alloc_new w2 (.cells #[.int .u64 xt, .int .i64 xc, .int .u64 xn, .int .u32 xk] 33))
            have HO3 := Lib.hid (hk7.heap (fun h => h) (hf.heap (not_ft HRD.out HOB.out (by decide) (by decide)) HOB.out))
            have HC3 := Lib.hid (hk7.heap (fun h => h) (hf.heap (not_ft HRD.out HCH.out (by decide) (by decide)) HCH.out))
            have HR3 := Lib.hid ((HCR.out.kept hf (rqow_ft HRD.out HCR.out)).no hk7)
            have hk73 := hk7.size
            have hbs := heap_lt (hf.heap (not_ft HRD.out HCH.out (by decide) (by decide)) HCH.out)
            clear hm2 hask hr' ho' hf p0 p1 p2 p3
            go_upto_region 13 with fail
            obtain ⟨W3, hW3⟩ : ∃ W3, W3 = w2.alloc (.cells #[.int .u64 xt, .int .i64 xc, .int .u64 xn, .int .u32 xk] 33) := ⟨_, rfl⟩
            obtain ⟨b7, hb7⟩ : ∃ b7, b7 = w2.heap.size := ⟨_, rfl⟩
            have hb7b : ¬ b7 = b := by omega
            have hbb7 : ¬ b = b7 := by omega
            rw [← hW3] at HM3 HB7 HO3 HC3 HR3 ⊢
            rw [← hb7] at HB7 ⊢
            obtain ⟨p0, p1, p2, p3, _⟩ := cells4q HO3.out
            obtain ⟨y0, y1, _, _⟩ := cells2q HC3.out
            clear hW3 hb7 hk7 hk73 hbs
            go_wp2_with fail
            refine (HRA.out W3 HR3.out).mono ?_
            rintro e w4 ⟨lv', rfl, hr4, hk4⟩
            obtain ⟨la', lc', rfl⟩ := hr4.form
            have hkA := (Kept.refl NoB w4).alloc (.cells #[.int .u64 tk', .slice la' L'.length lc'] 28)
            have hkB := hkA.alloc (.cells #[.int .u64 xt, .int .i64 xc, .int .u64 xn, .int .u32 xk] 37)
            have h9 := blkV_alloc (heap_alloc_new w4 (.cells #[.int .u64 tk', .slice la' L'.length lc'] 28)) (.cells #[.int .u64 xt, .int .i64 xc, .int .u64 xn, .int .u32 xk] 37)
            have h10 := heap_alloc_new (w4.alloc (.cells #[.int .u64 tk', .slice la' L'.length lc'] 28)) (.cells #[.int .u64 xt, .int .i64 xc, .int .u64 xn, .int .u32 xk] 37)
            rw [World.size_alloc] at h10
            obtain ⟨W5, hW5⟩ : ∃ W5, W5 = (w4.alloc (.cells #[.int .u64 tk', .slice la' L'.length lc'] 28)).alloc (.cells #[.int .u64 xt, .int .i64 xc, .int .u64 xn, .int .u32 xk] 37) := ⟨_, rfl⟩
            rw [← hW5] at hkB h9 h10
            have hk35 := hk4.trans hkB (fun _ _ h => h)
            have h7 := hk35.heap (fun h => h) HB7.out
            have hbC := hk35.heap (fun h => h) HC3.out
            have HST5 := Lib.hid (HM3.out.step hk35 (hr4.no hkB))
            have HB7' := Lib.hid h7
            have hb4 := heap_lt (hk4.heap (fun h => h) HC3.out)
            have hW5s := Lib.hid hW5
            obtain ⟨b9, hb9⟩ : ∃ b9, b9 = w4.heap.size := ⟨_, rfl⟩
            obtain ⟨b10, hb10⟩ : ∃ b10, b10 = w4.heap.size + 1 := ⟨_, rfl⟩
            have hb9b : ¬ b9 = b := by omega
            have hbb9 : ¬ b = b9 := by omega
            have hb10b : ¬ b10 = b := by omega
            have hbb10 : ¬ b = b10 := by omega
            rw [← hb9] at h9
            rw [← hb10] at h10
            have H910 := Lib.hid (And.intro hb9 hb10)
            have H9 := Lib.hid h9
            have H10 := Lib.hid h10
            have HBC := Lib.hid hbC
            clear p0 p1 p2 p3 y0 y1 hkA hkB h9 h10 hW5 hk35 h7 hbC hb9 hb10 hb4 hr4 hk4
            go_upto_region 14 with fail
            rw [← hW5s.out]
            rw [← H910.out.2]
            rw [← H910.out.1]
            obtain ⟨q0, q1, _, _⟩ := cells2q H9.out
            obtain ⟨y0, y1, z0, z1⟩ := cells2q HBC.out
            obtain ⟨s0, s1, s2, s3, _⟩ := cells4q H10.out
            obtain ⟨u0, u1, u2, u3, _⟩ := cells4q HB7'.out
            obtain ⟨m', hm'⟩ : ∃ m', m' = L'.length := ⟨_, rfl⟩
            have HM' := Lib.hid hm'
            rw [← hm'] at q1 HST5 ⊢
            clear hm'
            go_wp2
            go_meet
            case rel => exact ⟨_, _, HWN.out, HST5.out⟩
          · have dk0 : (ok == 0) = false := by simpa using hk0
            by_cases hk1 : ok = 1
            · have dk1 : (ok == 1) = true := by simp [hk1]
              have hask := QTold_any g pa pd tk L on V HRD.out HWT.out.d (by omega)
              have hrask := fun (W : World) (hr : RqOw 37 0 W (.slice la L.length lc) L) => RTold_any (.slice la L.length lc) tk L on W hr HWT.out.d (by omega)
              have hwn := HWT.out.told on
              unfold QToldP at hask
              unfold RToldP at hrask
              obtain ⟨z, hz⟩ : ∃ z, z = toldF L on := ⟨_, rfl⟩
              rw [← hz] at hask hwn
              simp only [← hz] at hrask
              obtain ⟨L', ⟨xt, xc, xn, xk⟩, er⟩ := z
              simp only [rqv, rrv] at hask hrask hwn
              have HRA := Lib.hid hrask
              have HWN := Lib.hid hwn
              clear hrask hwn hz hk0 hk1
              go_wp2_with fail
              refine hask.mono ?_
              rintro e w2 ⟨rfl, ⟨pa', pd', hr', ho'⟩, hf⟩
              have hm2 := St22.step HRD.out HRO.out HCH.out HCR.out HSV.out.kp HSV.out.gw HSV.out.bw hr' ho' hf
              have hk7 := (Kept.refl NoB w2).alloc (.cells #[.int .u64 xt, .int .i64 xc, .int .u64 xn, .int .u32 xk] 33)
              have HM3 := Lib.hid (hm2.no hk7)
              have HB7 := Lib.hid (heap_alloc_new w2 (.cells #[.int .u64 xt, .int .i64 xc, .int .u64 xn, .int .u32 xk] 33))
              have HO3 := Lib.hid (hk7.heap (fun h => h) (hf.heap (not_ft HRD.out HOB.out (by decide) (by decide)) HOB.out))
              have HC3 := Lib.hid (hk7.heap (fun h => h) (hf.heap (not_ft HRD.out HCH.out (by decide) (by decide)) HCH.out))
              have HR3 := Lib.hid ((HCR.out.kept hf (rqow_ft HRD.out HCR.out)).no hk7)
              have hk73 := hk7.size
              have hbs := heap_lt (hf.heap (not_ft HRD.out HCH.out (by decide) (by decide)) HCH.out)
              clear hm2 hask hr' ho' hf p0 p1 p2 p3
              go_upto_region 19 with fail
              obtain ⟨W3, hW3⟩ : ∃ W3, W3 = w2.alloc (.cells #[.int .u64 xt, .int .i64 xc, .int .u64 xn, .int .u32 xk] 33) := ⟨_, rfl⟩
              obtain ⟨b7, hb7⟩ : ∃ b7, b7 = w2.heap.size := ⟨_, rfl⟩
              have hb7b : ¬ b7 = b := by omega
              have hbb7 : ¬ b = b7 := by omega
              rw [← hW3] at HM3 HB7 HO3 HC3 HR3 ⊢
              rw [← hb7] at HB7 ⊢
              obtain ⟨p0, p1, p2, p3, _⟩ := cells4q HO3.out
              obtain ⟨y0, y1, _, _⟩ := cells2q HC3.out
              clear hW3 hb7 hk7 hk73 hbs
              go_wp2_with fail
              refine (HRA.out W3 HR3.out).mono ?_
              rintro e w4 ⟨lv', rfl, hr4, hk4⟩
              obtain ⟨la', lc', rfl⟩ := hr4.form
              have hkA := (Kept.refl NoB w4).alloc (.cells #[.int .u64 tk, .slice la' L'.length lc'] 28)
              have hkB := hkA.alloc (.cells #[.int .u64 xt, .int .i64 xc, .int .u64 xn, .int .u32 xk] 37)
              have h9 := blkV_alloc (heap_alloc_new w4 (.cells #[.int .u64 tk, .slice la' L'.length lc'] 28)) (.cells #[.int .u64 xt, .int .i64 xc, .int .u64 xn, .int .u32 xk] 37)
              have h10 := heap_alloc_new (w4.alloc (.cells #[.int .u64 tk, .slice la' L'.length lc'] 28)) (.cells #[.int .u64 xt, .int .i64 xc, .int .u64 xn, .int .u32 xk] 37)
              rw [World.size_alloc] at h10
              obtain ⟨W5, hW5⟩ : ∃ W5, W5 = (w4.alloc (.cells #[.int .u64 tk, .slice la' L'.length lc'] 28)).alloc (.cells #[.int .u64 xt, .int .i64 xc, .int .u64 xn, .int .u32 xk] 37) := ⟨_, rfl⟩
              rw [← hW5] at hkB h9 h10
              have hk35 := hk4.trans hkB (fun _ _ h => h)
              have h7 := hk35.heap (fun h => h) HB7.out
              have hbC := hk35.heap (fun h => h) HC3.out
              have HST5 := Lib.hid (HM3.out.step hk35 (hr4.no hkB))
              have HB7' := Lib.hid h7
              have hb4 := heap_lt (hk4.heap (fun h => h) HC3.out)
              have hW5s := Lib.hid hW5
              obtain ⟨b9, hb9⟩ : ∃ b9, b9 = w4.heap.size := ⟨_, rfl⟩
              obtain ⟨b10, hb10⟩ : ∃ b10, b10 = w4.heap.size + 1 := ⟨_, rfl⟩
              have hb9b : ¬ b9 = b := by omega
              have hbb9 : ¬ b = b9 := by omega
              have hb10b : ¬ b10 = b := by omega
              have hbb10 : ¬ b = b10 := by omega
              rw [← hb9] at h9
              rw [← hb10] at h10
              have H910 := Lib.hid (And.intro hb9 hb10)
              have H9 := Lib.hid h9
              have H10 := Lib.hid h10
              have HBC := Lib.hid hbC
              clear p0 p1 p2 p3 y0 y1 hkA hkB h9 h10 hW5 hk35 h7 hbC hb9 hb10 hb4 hr4 hk4
              go_upto_region 20 with fail
              rw [← hW5s.out]
              rw [← H910.out.2]
              rw [← H910.out.1]
              obtain ⟨q0, q1, _, _⟩ := cells2q H9.out
              obtain ⟨y0, y1, z0, z1⟩ := cells2q HBC.out
              obtain ⟨s0, s1, s2, s3, _⟩ := cells4q H10.out
              obtain ⟨u0, u1, u2, u3, _⟩ := cells4q HB7'.out
              obtain ⟨m', hm'⟩ : ∃ m', m' = L'.length := ⟨_, rfl⟩
              have HM' := Lib.hid hm'
              rw [← hm'] at q1 HST5 ⊢
              clear hm'
              go_wp2
              go_meet
              case rel => exact ⟨_, _, HWN.out, HST5.out⟩
            · have dk1 : (ok == 1) = false := by simpa using hk1
              have HQC := Lib.hid (QClear_any g pa pd tk L V HRD.out)
              obtain ⟨m, hm⟩ : ∃ m, m = L.length := ⟨_, rfl⟩
              have HTEN : Hid (∀ W, Kept (FtR g pa L.length pd) V W → W.cell? ⟨b, 1, none⟩ = some (.slice la m lc)) := Lib.hid (fun W hk => by rw [hm]; exact (cells2q (hk.heap (not_ft HRD.out HCH.out (by decide) (by decide)) HCH.out)).2.1)
              have HT := Lib.hid (HTEN.out _ (Kept.refl _ V).drew)
              have HQC : Hid (Calls Tryz.prog 19 #[.pointer (some ⟨g, 0, none⟩)] V.drew fun e w' => e = .returned (.int .i64 m) ∧ (∃ a' c', RdsAt w' g a' c' tk [] ∧ OwnR V (.slice pa L.length pd) (.slice a' 0 c')) ∧ Kept (FtR g pa L.length pd) V w') := Lib.hid (by
                refine (QClear_any g pa pd tk L V.drew (HRD.out.no (Kept.refl _ V).drew)).mono ?_
                rintro e w' ⟨h1, ⟨a', c', h2, h3⟩, h4⟩
                refine ⟨by rw [hm]; exact h1, ⟨a', c', h2, fun j hj => .inl (h3 j hj.symm).symm⟩, (Kept.refl _ V).drew.trans h4 (fun _ _ h => h)⟩)
              have dm : ((m : Int) != (m : Int)) = false := by simp
              clear hm
              go_upto_region 8 with fail
              go_region_held3 (fun w' => w'.cell? ⟨b, 1, none⟩ = some (.slice la m lc))
                (with_reducible exact HT.out)
                (first
                | (go_at_call 19; (with_reducible refine HQC.out.mono ?_); rintro e w2 ⟨rfl, ⟨a2, c2, hr2, ho2⟩, hf2⟩; have HR2 := Lib.hid hr2; have HO2 := Lib.hid ho2; have HF2 := Lib.hid hf2; replace HT := Lib.hid (HTEN.out _ HF2.out); clear hr2 ho2 hf2))
              have HM2 := Lib.hid (St22.step HRD.out HRO.out HCH.out HCR.out HSV.out.kp HSV.out.gw HSV.out.bw HR2.out HO2.out HF2.out)
              have hbb := HF2.out.heap (not_ft HRD.out HCH.out (by decide) (by decide)) HCH.out
              obtain ⟨y0, y1, z0, z1⟩ := cells2q hbb
              have HBB2 := Lib.hid hbb
              clear hbb
              go_wp2
              have HF := Lib.hid (HM2.out.clear HBB2.out)
              go_meet
              case rel => exact ⟨tk, [], Wt22.none htk0 (by have := HWT.out.ti; omega), HF.out⟩
        case rest =>
          obtain ⟨tk', L', hwt', hst'⟩ := hcut
          have HS' := Lib.hid hst'
          have HW' := Lib.hid hwt'
          clear hwt' hst' p0 p1 p2 p3
          obtain ⟨⟨qa, qd, hrd, hro⟩, ⟨lv, hch, hcr⟩, _, _, _⟩ := HS'.out
          obtain ⟨ra, rc, rfl⟩ := hcr.form
          have hl := HW'.out.len
          have HLE := Lib.hid (fun (W : World) (hk : Kept NoB wc W) => QLen_any g qa qd tk' L' W (hrd.no hk))
          have HLI := Lib.hid (fun (W : World) (hk : Kept NoB wc W) => QList_any g qa qd tk' L' W (hrd.no hk) (by omega))
          have HSA := Lib.hid (fun (W : World) (hk : Kept NoB wc W) (v : Value) (hv : RqOw 33 0 W v L') => same22_any v (.slice ra L'.length rc) L' 0 0 W hv (hcr.no hk) (by omega))
          have HON := Lib.hid (fun (W : World) (v : Value) (hv : RqOw 33 0 W v L') => once_any v L' 0 W hv HW'.out.d (by omega))
          obtain ⟨m', hm'⟩ : ∃ m', m' = L'.length := ⟨_, rfl⟩
          rw [← hm'] at HLE HSA hch hl
          have HLI : Hid (∀ W, Kept NoB wc W → Calls Tryz.prog 22 #[.pointer (some ⟨g, 0, none⟩)] W fun e w' => ∃ a' c', e = .returned (.slice a' m' c') ∧ RqOw 33 0 w' (.slice a' m' c') L' ∧ Kept NoB W w') := Lib.hid (by rw [hm']; exact HLI.out)
          have HTEN : Hid (∀ W, Kept NoB wc W → W.cell? ⟨b, 1, none⟩ = some (.slice ra m' rc)) := Lib.hid (fun W hk => (cells2q (hk.heap (fun h => h) hch)).2.1)
          have HKc := Lib.hid ((Kept.refl NoB wc).drew)
          have HT := Lib.hid (HTEN.out _ HKc.out)
          clear hrd hro hch hcr hm'
          go_upto_region 23 with fail
          go_region_held3 (fun w' => w'.cell? ⟨b, 1, none⟩ = some (.slice ra m' rc))
            (with_reducible exact HT.out)
            (first
            | (go_at_call 20; (with_reducible refine (HLE.out _ HKc.out).mono ?_); rintro e w8 ⟨rfl, rfl⟩)
            | (go_at_call 22; (with_reducible refine (HLI.out _ HKc.out).mono ?_); rintro e w8 ⟨a8, c8, rfl, hr8, hk8⟩; replace HKc := Lib.hid (HKc.out.trans hk8 (fun _ _ h => h)); replace HT := Lib.hid (HTEN.out _ HKc.out); have HR8 := Lib.hid hr8; clear hk8 hr8)
            | (go_at_call 21; (with_reducible refine (HSA.out _ HKc.out _ HR8.out).mono ?_); rintro e w8 ⟨rfl, hk8⟩; replace HKc := Lib.hid (HKc.out.trans hk8 (fun _ _ h => h)); replace HT := Lib.hid (HTEN.out _ HKc.out); clear hk8)
            | (go_at_call 23; (with_reducible refine (HON.out _ _ HR8.out).mono ?_); rintro e w8 ⟨rfl, hk8⟩; replace HKc := Lib.hid (HKc.out.trans hk8 (fun _ _ h => h)); replace HT := Lib.hid (HTEN.out _ HKc.out); clear hk8))
          go_wp2
          go_roundw
          case rel => exact ⟨i + 1, tk', L', by omega, by omega, by go_num, HW'.out, HS'.out.no HKc.out⟩
          case measure => simp [intOf]; omega
      · obtain rfl : i = 60 := by omega
        clear hi hi60
        go_wp2_with fail
        have han := QAskN_any 1 1 1 wr
        have htn := QToldN_any 1
        simp only [rqv, rq0] at han htn
        have HTN := Lib.hid htn
        refine han.mono ?_
        rintro e w2 ⟨rfl, hk2⟩
        have HK2 := Lib.hid ((HST.out.kp.trans hk2 (fun _ _ h => h)).alloc (.cells #[.int .u64 0, .int .i64 0, .int .u64 0, .int .u32 0] 33))
        have HB18 := Lib.hid (heap_alloc_new w2 (.cells #[.int .u64 0, .int .i64 0, .int .u64 0, .int .u32 0] 33))
        clear hk2 han htn
        go_wp2_with fail
        refine (HTN.out _).mono ?_
        rintro e w3 ⟨rfl, hk3⟩
        have HK3 := Lib.hid ((HK2.out.trans hk3 (fun _ _ h => h)).alloc (.cells #[.int .u64 0, .int .i64 0, .int .u64 0, .int .u32 0] 33))
        have h18 := (hk3.alloc (.cells #[.int .u64 0, .int .i64 0, .int .u64 0, .int .u32 0] 33)).heap (fun h => h) HB18.out
        have h20 := heap_alloc_new w3 (.cells #[.int .u64 0, .int .i64 0, .int .u64 0, .int .u32 0] 33)
        have HB := Lib.hid (And.intro h18 h20)
        clear hk3 h18 h20
        go_upto_region 28 with fail
        obtain ⟨W, hW⟩ : ∃ W, W = w3.alloc (.cells #[.int .u64 0, .int .i64 0, .int .u64 0, .int .u32 0] 33) := ⟨_, rfl⟩
        rw [← hW] at HB HK3 ⊢
        obtain ⟨b18, hb18⟩ : ∃ b18, b18 = w2.heap.size := ⟨_, rfl⟩
        obtain ⟨b20, hb20⟩ : ∃ b20, b20 = w3.heap.size := ⟨_, rfl⟩
        rw [← hb18, ← hb20] at HB ⊢
        clear hW hb18 hb20
        obtain ⟨p0, p1, p2, p3, _⟩ := cells4q HB.out.1
        obtain ⟨q0, q1, q2, q3, _⟩ := cells4q HB.out.2
        go_wp2_with fail
        refine (QClearN_any _).mono ?_
        rintro e w5 ⟨rfl, rfl⟩
        go_wp2_with fail
        refine (QLenN_any _).mono ?_
        rintro e w5 ⟨rfl, rfl⟩
        go_wp2_with fail
        refine (QListN_any _).mono ?_
        rintro e w5 ⟨rfl, rfl⟩
        go_wp2_with fail
        refine (HAW.out _ HK3.out).mono ?_
        rintro e w6 ⟨rfl, hk6⟩
        have HK6 := Lib.hid (HK3.out.trans hk6 (fun _ _ h => h))
        clear hk6
        go_wp2
        go_ret
        exact ⟨rfl, HK6.out⟩
    · have hini : ¬ (i : Int) < (n : Int) := by omega
      go_wp2_with fail
      have han := QAskN_any 1 1 1 wr
      have htn := QToldN_any 1
      simp only [rqv, rq0] at han htn
      have HTN := Lib.hid htn
      refine han.mono ?_
      rintro e w2 ⟨rfl, hk2⟩
      have HK2 := Lib.hid ((HST.out.kp.trans hk2 (fun _ _ h => h)).alloc (.cells #[.int .u64 0, .int .i64 0, .int .u64 0, .int .u32 0] 33))
      have HB18 := Lib.hid (heap_alloc_new w2 (.cells #[.int .u64 0, .int .i64 0, .int .u64 0, .int .u32 0] 33))
      clear hk2 han htn
      go_wp2_with fail
      refine (HTN.out _).mono ?_
      rintro e w3 ⟨rfl, hk3⟩
      have HK3 := Lib.hid ((HK2.out.trans hk3 (fun _ _ h => h)).alloc (.cells #[.int .u64 0, .int .i64 0, .int .u64 0, .int .u32 0] 33))
      have h18 := (hk3.alloc (.cells #[.int .u64 0, .int .i64 0, .int .u64 0, .int .u32 0] 33)).heap (fun h => h) HB18.out
      have h20 := heap_alloc_new w3 (.cells #[.int .u64 0, .int .i64 0, .int .u64 0, .int .u32 0] 33)
      have HB := Lib.hid (And.intro h18 h20)
      clear hk3 h18 h20
      go_upto_region 28 with fail
      obtain ⟨W, hW⟩ : ∃ W, W = w3.alloc (.cells #[.int .u64 0, .int .i64 0, .int .u64 0, .int .u32 0] 33) := ⟨_, rfl⟩
      rw [← hW] at HB HK3 ⊢
      obtain ⟨b18, hb18⟩ : ∃ b18, b18 = w2.heap.size := ⟨_, rfl⟩
      obtain ⟨b20, hb20⟩ : ∃ b20, b20 = w3.heap.size := ⟨_, rfl⟩
      rw [← hb18, ← hb20] at HB ⊢
      clear hW hb18 hb20
      obtain ⟨p0, p1, p2, p3, _⟩ := cells4q HB.out.1
      obtain ⟨q0, q1, q2, q3, _⟩ := cells4q HB.out.2
      go_wp2_with fail
      refine (QClearN_any _).mono ?_
      rintro e w5 ⟨rfl, rfl⟩
      go_wp2_with fail
      refine (QLenN_any _).mono ?_
      rintro e w5 ⟨rfl, rfl⟩
      go_wp2_with fail
      refine (QListN_any _).mono ?_
      rintro e w5 ⟨rfl, rfl⟩
      go_wp2_with fail
      refine (HAW.out _ HK3.out).mono ?_
      rintro e w6 ⟨rfl, hk6⟩
      have HK6 := Lib.hid (HK3.out.trans hk6 (fun _ _ h => h))
      clear hk6
      go_wp2
      go_ret
      exact ⟨rfl, HK6.out⟩
end Go.Proofs.YtnnmkmipeoajjaaGreatDoor
