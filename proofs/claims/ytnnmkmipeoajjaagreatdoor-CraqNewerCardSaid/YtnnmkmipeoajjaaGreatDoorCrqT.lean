/-
  The walk of CraqNewer.
-/
import Derived.Test.YtnnmkmipeoajjaaGreatDoorCrqS
import Derived.IntWalk
import Derived.Deep.RegionHeld3
namespace Go.Proofs.YtnnmkmipeoajjaaGreatDoor
open Go.RowKit
set_option linter.unusedVariables false
set_option linter.unusedSimpArgs false

set_option maxRecDepth 100000 in
set_option maxHeartbeats 4000000 in
theorem CraqNewer_any (w : World) (v : Value) (l : List Up) (n1 n2 : Int) (h : UsAt w (fun k => k < w.heap.size) v l) (hfit : FitsU l) (ht : Tab10 w) (p0 : 0 ≤ n1) (p1 : n1 ≤ 255) (p2 : 0 ≤ n2) (p3 : n2 ≤ 255) : Calls Tryz.prog 5 #[v, .int .u8 n1, .int .u8 n2] w fun e w' => e = .returned (.bool true) ∧ Kept NoB w w' := by
  have HAW := Lib.hid (fun w' (hk : Kept NoB w w') => awake22 w' (ht.kept hk (fun h => h)))
  have HTT := Lib.hid (fun w' (hk : Kept NoB w w') => ht.kept hk (fun h => h))
  obtain ⟨a, c, rfl, hlc, hcm, _, hrow⟩ := h
  have HROW := Lib.hid hrow
  have HFIT := Lib.hid hfit
  obtain ⟨m, hm⟩ : ∃ m, m = l.length := ⟨_, rfl⟩
  have HM := Lib.hid hm
  rw [← hm] at hlc ⊢
  unfold maxLen at hcm
  clear hrow hfit ht hm
  by_cases hlen : 40 < m
  · have hl1 : (40 : Int) < (m : Int) := by omega
    have HKW := Lib.hid (Kept.refl NoB w)
    go_enter Tryz.func5, Tryz.ntmps5
    go_wp2_with fail
    refine (HAW.out _ HKW.out).mono ?_
    rintro e wz ⟨rfl, hkz⟩
    have HKZ := Lib.hid (HKW.out.trans hkz (fun _ _ h => h))
    clear hkz
    go_wp2
    go_ret
    exact ⟨rfl, HKZ.out⟩
  · have hl1 : ¬ (40 : Int) < (m : Int) := by omega
    have hfld := fld_vers
    obtain ⟨lo, hlo, hlo2⟩ := tmod22 p0 (show (0 : Int) < (m : Int) + 1 by omega)
    obtain ⟨df, hdf, hdf2⟩ := tmod22 p2 (show (0 : Int) < (m : Int) - (lo : Int) + 1 by omega)
    have hw1 : IntKind.i64.wrap n1 = n1 := IntWalk.i64_in _ (by omega)
    have hw2 : IntKind.i64.wrap n2 = n2 := IntWalk.i64_in _ (by omega)
    have hz1 : ((m : Int) + 1 == 0) = false := by rw [beq_eq_false_iff_ne]; omega
    have hz2 : ((m : Int) - (lo : Int) + 1 == 0) = false := by rw [beq_eq_false_iff_ne]; omega
    have hlm : lo ≤ m := by omega
    obtain ⟨hi, hhi⟩ : ∃ hi, hi = lo + df := ⟨_, rfl⟩
    have hhm : hi ≤ m := by omega
    have hlh : lo ≤ hi := by omega
    have hhi2 : (lo : Int) + (df : Int) = (hi : Int) := by omega
    go_enter Tryz.func5, Tryz.ntmps5
    go_wp2_with fail
    refine (newS_any w).mono ?_
    rintro e w1 ⟨ga, ma, ta, Sa, rfl, hsa, hSa, hk1⟩
    go_wp2_with fail
    refine (newS_any w1).mono ?_
    rintro e w2 ⟨gb, mb, tb, Sb, rfl, hsb, hSb, hk2⟩
    have HN0 : Hid (Nw22 w ga ma ta gb mb tb hi 0 0 s220 s220 Sa Sb w2) := Lib.hid (by
      have h1 := hk1.size
      have h2 := hk2.size
      exact ⟨hsa.no hk2, hsb, fun k h3 h4 => by have := hSa k h3; have := hSb k h4; omega, fun k h3 => by have := hSa k h3; omega, fun k h3 => by have := hSb k h3; omega, gr220.up.up, gr220.up.up, Pre22.refl _, fun _ => rfl, Int.le_refl _, gr220.e0, by decide, hk1.trans hk2 (fun _ _ h => h)⟩)
    clear hsa hSa hk1 hsb hSb hk2 hhi
    go_upto_region 8 with fail
    go_wp2
    go_loopw [11, 12] (fun dv iv wr => ∃ (i : Nat) (d : Int) (sa sb : Sp) (Sa Sb : Nat → Prop), i ≤ m ∧ iv = .int .i64 i ∧ dv = .int .u64 d ∧ Nw22 w ga ma ta gb mb tb hi i d sa sb Sa Sb wr) (fun _ iv _ => m - (intOf iv).toNat)
    case atStart => exact ⟨0, 0, s220, s220, Sa, Sb, Nat.zero_le _, rfl, rfl, HN0.out⟩
    case round =>
      obtain ⟨i, d, sa, sb, Sa, Sb, him, rfl, rfl, hnw⟩ := hrel
      have HNW := Lib.hid hnw
      clear hnw HN0
      by_cases hin : i < m
      · have hini : (i : Int) < (m : Int) := by omega
        have hi0 : (0 : Int) ≤ (i : Int) := by omega
        have hil : i < l.length := by have := HM.out; omega
        obtain ⟨b, o, ha, _, hbw, hat⟩ := HROW.out (by have := HM.out; omega)
        subst ha
        have hq0 := hat i hil
        have hq := hq0.kept HNW.out.kp (fun h => h) (fun _ _ h => h)
        have hf := HFIT.out.at_ hil
        obtain ⟨⟨y0, y1, y2, y3, y4, y5, y6⟩, hy⟩ : ∃ y, y = nthU l i := ⟨_, rfl⟩
        rw [← hy] at hq hf hq0
        obtain ⟨u0, _, _, _, _, _, _, g6, hd0⟩ := hq0
        obtain ⟨u, c0, c1, c2, c3, c4, c5, c6, hd⟩ := hq
        obtain ⟨da, dc, rfl, _⟩ := id hd
        have g6' := HNW.out.kp.cell (p := ⟨b, o + i * 7 + 6, none⟩) (fun h => h) g6
        rw [c6] at g6'
        injection g6' with g6'
        subst g6'
        have HD0 := Lib.hid hd0
        have HF := Lib.hid hf
        simp only at c0 c1 c2 c3 c4 c5 c6 HD0
        clear hat hy hd hf hd0 g6
        by_cases hbig : 2100 < y6.length
        · have hbi : (2100 : Int) < (y6.length : Int) := by omega
          have HKW := Lib.hid HNW.out.kp
          go_wp2_with fail
          refine (HAW.out _ HKW.out).mono ?_
          rintro e wz ⟨rfl, hkz⟩
          have HKZ := Lib.hid (HKW.out.trans hkz (fun _ _ h => h))
          clear hkz
          go_wp2
          go_ret
          exact ⟨rfl, HKZ.out⟩
        · have hbi : ¬ (2100 : Int) < (y6.length : Int) := by omega
          have HEA := Lib.hid (fun (W : World) (hk : Kept NoB wr W) => SEnd_any W Sa ga ma ta sa (HNW.out.A.no hk))
          have he0 := HNW.out.gra.e0
          have hea := HNW.out.ea
          go_upto_region 14 with fail
          obtain ⟨V, hV⟩ : ∃ V, V = wr.alloc (.cells #[.int .u64 y0, .int .i64 y1, .int .u64 y2, .int .i64 y3, .int .u32 y4, .int .u64 y5, .slice da y6.length dc] 62) := ⟨_, rfl⟩
          obtain ⟨bx, hbx⟩ : ∃ bx, bx = wr.heap.size := ⟨_, rfl⟩
          have hkV : Kept NoB wr V := by rw [hV]; exact (Kept.refl _ _).alloc _
          have HBV : Hid (V.heap[bx]? = some (.cells #[.int .u64 y0, .int .i64 y1, .int .u64 y2, .int .i64 y3, .int .u32 y4, .int .u64 y5, .slice da y6.length dc] 62 (0, 0))) := Lib.hid (by rw [hV, hbx]; exact heap_alloc_new wr _)
          have HKV := Lib.hid hkV
          rw [← hV, ← hbx]
          have HBX := Lib.hid hbx
          clear c0 c1 c2 c3 c4 c5 c6 hV hkV hbx
          obtain ⟨c0, c1, c2, c3, c4, c5, c6⟩ := cells7 HBV.out
          have hz := blkU_frozen HBV.out 0
          go_wp2_with fail
          refine (HEA.out V HKV.out).mono ?_
          rintro e wv ⟨rfl, rfl⟩
          have HB2 := Lib.hid (blkU_set HBV.out 0 (.int .u64 (sa.en + 1)))
          have hkS : Kept NoB wr (V.setCell ⟨bx, 0, none⟩ (.int .u64 (sa.en + 1))) := HKV.out.setCell (p := ⟨bx, 0, none⟩) (.inr (by show wr.heap.size ≤ bx; have := HBX.out; omega)) _
          have hfu : FitU ⟨sa.en + 1, y1, y2, y3, y4, y5, y6⟩ := ⟨by show 0 ≤ sa.en + 1; omega, by show sa.en + 1 ≤ _; omega, HF.out.2.2.1, HF.out.2.2.2.1, HF.out.2.2.2.2.1, HF.out.2.2.2.2.2.1, HF.out.2.2.2.2.2.2.1, HF.out.2.2.2.2.2.2.2⟩
          have HFU := Lib.hid hfu
          have HKS := Lib.hid hkS
          have HNS := Lib.hid (HNW.out.no hkS)
          clear hkS hfu
          go_upto_region 15 with fail
          obtain ⟨W, hW⟩ : ∃ W, W = V.setCell ⟨bx, 0, none⟩ (.int .u64 (sa.en + 1)) := ⟨_, rfl⟩
          rw [← hW] at HB2 HKS HNS ⊢
          have hbW := heap_lt HB2.out
          have hSax : ¬ Sa bx := fun h => by have := (HNW.out.la bx h).2; have := HBX.out; omega
          have HSX := Lib.hid hSax
          clear hW c0 c1 c2 c3 c4 c5 c6 hz hSax
          obtain ⟨c0, c1, c2, c3, c4, c5, c6⟩ := cells7 (by simpa using HB2.out : W.heap[bx]? = some (.cells #[.int .u64 (sa.en + 1), .int .i64 y1, .int .u64 y2, .int .i64 y3, .int .u32 y4, .int .u64 y5, .slice da y6.length dc] 62 (0, 0)))
          have HUV := Lib.hid (fun (W' : World) (hk : Kept NoB w W') => show UpV W' (fun k => k < w.heap.size) (.agg #[.int .u64 (sa.en + 1), .int .i64 y1, .int .u64 y2, .int .i64 y3, .int .u32 y4, .int .u64 y5, .slice da y6.length dc]) ⟨sa.en + 1, y1, y2, y3, y4, y5, y6⟩ from ⟨_, rfl, HD0.out.kept hk (fun _ _ h => h)⟩)
          have HAP := Lib.hid (TApply_any W Sa ga ma ta sa (i + 2) _ ⟨sa.en + 1, y1, y2, y3, y4, y5, y6⟩ (fun k => k < w.heap.size) HNS.out.A HNS.out.gra (by omega) (HUV.out W HNS.out.kp) (fun k hk => ⟨Nat.lt_of_lt_of_le hk HNS.out.kp.size, fun h => by have := (HNS.out.la k h).1; omega⟩) (HTT.out W HNS.out.kp) HFU.out)
          go_wp2_with fail
          refine HAP.out.mono ?_
          rintro e w3 ⟨⟨ev, rfl⟩, hA, hkA⟩
          have HA := Lib.hid hA
          have HKA := Lib.hid hkA
          have hb3 := hkA.heap HSX.out HB2.out
          clear hA hkA c0 c1 c2 c3 c4 c5 c6
          by_cases hih : i < hi
          · have hih1 : (i : Int) < (hi : Int) := by omega
            obtain ⟨m1, m2, m3⟩ := HNS.out.mid HKA.out
            obtain ⟨c0, c1, c2, c3, c4, c5, c6⟩ := cells7 (by simpa using hb3 : w3.heap[bx]? = some (.cells #[.int .u64 (sa.en + 1), .int .i64 y1, .int .u64 y2, .int .i64 y3, .int .u32 y4, .int .u64 y5, .slice da y6.length dc] 62 (0, 0)))
            have HBP := Lib.hid (TApply_any w3 Sb gb mb tb sb (i + 2) _ ⟨sa.en + 1, y1, y2, y3, y4, y5, y6⟩ (fun k => k < w.heap.size) m1 HNS.out.grb (by omega) (HUV.out w3 m3) (fun k hk => ⟨Nat.lt_of_lt_of_le hk m3.size, fun h => by have := (m2 k h).1; omega⟩) (HTT.out w3 m3) HFU.out)
            clear m1 m2 m3 hb3
            go_wp2_with fail
            refine HBP.out.mono ?_
            rintro e w4 ⟨⟨ev2, rfl⟩, hB, hkB⟩
            have HN4 := Lib.hid (HNS.out.both (by omega) _ HA.out HKA.out hih hB hkB)
            clear hB hkB c0 c1 c2 c3 c4 c5 c6
            by_cases hil2 : i < lo
            · have hil1 : (i : Int) < (lo : Int) := by omega
              have HEA2 := Lib.hid (SEnd_any w4 _ ga ma ta _ HN4.out.A)
              have HN5 := Lib.hid (HN4.out.done (by omega))
              go_wp2_with fail
              refine HEA2.out.mono ?_
              rintro e wv ⟨rfl, rfl⟩
              go_wp2
              exact ⟨⟨i + 1, _, _, _, _, _, by omega, by go_num, rfl, HN5.out⟩, by simp [intOf]; omega⟩
            · have hil1 : ¬ (i : Int) < (lo : Int) := by omega
              go_wp2
              exact ⟨⟨i + 1, d, _, _, _, _, by omega, by go_num, rfl, HN4.out⟩, by simp [intOf]; omega⟩
          · have hih1 : ¬ (i : Int) < (hi : Int) := by omega
            have hil1 : ¬ (i : Int) < (lo : Int) := by omega
            have HN4 := Lib.hid (HNS.out.one (by omega) _ HA.out HKA.out hih)
            clear hb3
            go_wp2
            exact ⟨⟨i + 1, d, _, _, _, _, by omega, by go_num, rfl, HN4.out⟩, by simp [intOf]; omega⟩
      · obtain rfl : i = m := by omega
        obtain ⟨wx, rfl⟩ : ∃ wx, wx = wr := ⟨wr, rfl⟩
        have hini : ¬ (i : Int) < (i : Int) := by omega
        have hML := HM.out
        have hML2 := Lib.hid hML
        clear hML
        go_upto_region 20 with fail
        clear hini
        go_wp2
        go_loopw [14] (fun jv wr => ∃ j : Nat, j ≤ l.length ∧ jv = .int .i64 j ∧ Kept NoB wx wr) (fun jv _ => l.length - (intOf jv).toNat)
        case atStart => exact ⟨0, Nat.zero_le _, rfl, Kept.refl _ _⟩
        case round =>
          obtain ⟨j, hjle, rfl, hk⟩ := hrel
          have HK := Lib.hid hk
          clear hk
          by_cases hjl : j < l.length
          · have hjl1 : (j : Int) < (i : Int) := by have := HM.out; omega
            have hj0 : (0 : Int) ≤ (j : Int) := by omega
            obtain ⟨b, o, ha, _, hbw, hat⟩ := HROW.out (by omega)
            subst ha
            have hq := (hat j hjl).kept ((HNW.out.kp).trans HK.out (fun _ _ h => h)) (fun h => h) (fun _ _ h => h)
            have hf := HFIT.out.at_ hjl
            obtain ⟨⟨y0, y1, y2, y3, y4, y5, y6⟩, hy⟩ : ∃ y, y = nthU l j := ⟨_, rfl⟩
            rw [← hy] at hq hf
            obtain ⟨u, _, _, _, _, c4, _⟩ := hq
            have hk0 : 0 ≤ y4 := hf.2.2.2.2.1
            have hk1 : y4 ≤ 4294967295 := hf.2.2.2.2.2.1
            simp only at c4
            clear hat hy hf
            obtain ⟨L, hL⟩ : ∃ L, L = (lastV (sb.l y4)).r := ⟨_, rfl⟩
            have HNQ := Lib.hid (HNW.out.no HK.out)
            have HEB := Lib.hid (SEnd_any wr Sb gb mb tb sb HNQ.out.B)
            have hno := SNow_any wr Sa ga ma ta sa y4 sb.en HNQ.out.A hk0 hk1 (HNQ.out.gra.dl y4)
            have HLB := Lib.hid (fun (W' : World) (hk : Kept NoB wx W') => SLast_any W' Sb gb mb tb sb y4 (HNW.out.B.no hk) hk0 hk1 (HNQ.out.grb.dl y4))
            have hth := fun (W' : World) (hk : Kept NoB wx W') => SThen_any W' Sa ga ma ta sa y4 L d (HNW.out.A.no hk) hk0 hk1 (by have := HNQ.out.gra.len y4; omega)
            have hpk := HNQ.out.pr.pick HNQ.out.gra HNQ.out.grb y4 (done := d) HNQ.out.d1
            have hnow := HNQ.out.pr.now y4
            rw [← hL] at HLB hpk hnow
            rw [hpk] at hth
            unfold SThenP at hth
            have hLL : (L != 0 || L == 0) = true := by by_cases e : L = 0 <;> simp [e]
            rw [hLL] at hth
            have HTH := Lib.hid hth
            obtain ⟨bb, hbb⟩ : ∃ bb, bb = !dirtyB (sa.l y4) sb.en := ⟨_, rfl⟩
            have hnow2 : bb = true → (lastV (sa.l y4)).r = L := fun h => hnow (by rw [hbb] at h; simpa using h)
            rw [← hbb] at hno
            have HNO := Lib.hid hno
            have HNOW := Lib.hid hnow2
            have dLL : (L != L) = false := by simp
            clear hno hth hpk hnow hnow2 hbb hLL hL
            go_wp2_with fail
            refine HEB.out.mono ?_
            rintro e wv ⟨rfl, rfl⟩
            go_wp2_with fail
            refine HNO.out.mono ?_
            rintro e w2 ⟨r, q, ua, un, uc, rfl, hr, hk2⟩
            have HK2 := Lib.hid ((HK.out.trans hk2 (fun _ _ h => h)).alloc (.cells #[.int .u64 r, .int .u64 q, .slice ua un uc] 75))
            have HB2 := Lib.hid (heap_alloc_new w2 (.cells #[.int .u64 r, .int .u64 q, .slice ua un uc] 75))
            have hrl : bb = true → r = L := fun h => (hr h).trans (HNOW.out h)
            clear hk2 hr c4
            go_upto_region 25 with fail
            obtain ⟨V, hV⟩ : ∃ V, V = w2.alloc (.cells #[.int .u64 r, .int .u64 q, .slice ua un uc] 75) := ⟨_, rfl⟩
            obtain ⟨b2, hb2⟩ : ∃ b2, b2 = w2.heap.size := ⟨_, rfl⟩
            rw [← hV] at HK2 HB2 ⊢
            rw [← hb2] at HB2 ⊢
            clear hV hb2
            cases bb with
            | false =>
              clear hrl
              go_quiet (fail)
              go_wp2_with fail
              refine (HLB.out _ (HK2.out.drewN _)).mono ?_
              rintro e w4 ⟨q4, ua4, un4, uc4, rfl, hk4⟩
              have HK4 := Lib.hid (((HK2.out.drewN _) : Kept NoB wx _).trans hk4 (fun _ _ h => h))
              clear hk4
              go_wp2_with fail
              refine (HTH.out _ HK4.out).mono ?_
              rintro e w5 ⟨q5, ua5, un5, uc5, rfl, hk5⟩
              have HK5 := Lib.hid ((HK4.out.trans hk5 (fun _ _ h => h)).alloc (.cells #[.int .u64 L, .int .u64 q5, .slice ua5 un5 uc5] 75))
              have HB5 := Lib.hid (heap_alloc_new w5 (.cells #[.int .u64 L, .int .u64 q5, .slice ua5 un5 uc5] 75))
              clear hk5
              go_upto_region 28 with fail
              obtain ⟨V5, hV5⟩ : ∃ V5, V5 = w5.alloc (.cells #[.int .u64 L, .int .u64 q5, .slice ua5 un5 uc5] 75) := ⟨_, rfl⟩
              obtain ⟨b5, hb5⟩ : ∃ b5, b5 = w5.heap.size := ⟨_, rfl⟩
              rw [← hV5] at HK5 HB5 ⊢
              rw [← hb5] at HB5 ⊢
              clear hV5 hb5
              have HTEN : Hid (∀ W', Kept NoB V5 W' → W'.cell? ⟨b5, 0, none⟩ = some (.int .u64 L)) := Lib.hid (fun W' hk => (cells3v (hk.heap (fun h => h) HB5.out)).1)
              have HKc := Lib.hid ((Kept.refl NoB V5).drew)
              have HT := Lib.hid (HTEN.out _ HKc.out)
              go_region_held3 (fun w' => w'.cell? ⟨b5, 0, none⟩ = some (.int .u64 L))
                (with_reducible exact HT.out)
                (first
                | (go_at_call 37; (with_reducible refine (HLB.out _ (HK5.out.trans HKc.out (fun _ _ h => h))).mono ?_); rintro e w8 ⟨q8, ua8, un8, uc8, rfl, hk8⟩; replace HKc := Lib.hid (HKc.out.trans hk8 (fun _ _ h => h)); replace HT := Lib.hid (HTEN.out _ HKc.out); clear hk8))
              go_wp2
              go_roundw
              case rel => exact ⟨j + 1, by omega, by go_num, HK5.out.trans HKc.out (fun _ _ h => h)⟩
              case measure => simp [intOf]; omega
            | true =>
              obtain rfl := hrl rfl
              have HTEN2 : Hid (∀ W', Kept NoB V W' → W'.cell? ⟨b2, 0, none⟩ = some (.int .u64 r)) := Lib.hid (fun W' hk => (cells3v (hk.heap (fun h => h) HB2.out)).1)
              have HKc2 := Lib.hid ((Kept.refl NoB V).drew)
              have HT2 := Lib.hid (HTEN2.out _ HKc2.out)
              go_region_held3 (fun w' => w'.cell? ⟨b2, 0, none⟩ = some (.int .u64 r))
                (with_reducible exact HT2.out)
                (first
                | (go_at_call 37; (with_reducible refine (HLB.out _ (HK2.out.trans HKc2.out (fun _ _ h => h))).mono ?_); rintro e w8 ⟨q8, ua8, un8, uc8, rfl, hk8⟩; replace HKc2 := Lib.hid (HKc2.out.trans hk8 (fun _ _ h => h)); replace HT2 := Lib.hid (HTEN2.out _ HKc2.out); clear hk8))
              go_wp2_with fail
              refine (HLB.out _ (HK2.out.trans HKc2.out (fun _ _ h => h))).mono ?_
              rintro e w4 ⟨q4, ua4, un4, uc4, rfl, hk4⟩
              have HK4 := Lib.hid (((HK2.out.trans HKc2.out (fun _ _ h => h)) : Kept NoB wx _).trans hk4 (fun _ _ h => h))
              clear hk4
              go_wp2_with fail
              refine (HTH.out _ HK4.out).mono ?_
              rintro e w5 ⟨q5, ua5, un5, uc5, rfl, hk5⟩
              have HK5 := Lib.hid ((HK4.out.trans hk5 (fun _ _ h => h)).alloc (.cells #[.int .u64 r, .int .u64 q5, .slice ua5 un5 uc5] 75))
              have HB5 := Lib.hid (heap_alloc_new w5 (.cells #[.int .u64 r, .int .u64 q5, .slice ua5 un5 uc5] 75))
              clear hk5
              go_upto_region 28 with fail
              obtain ⟨V5, hV5⟩ : ∃ V5, V5 = w5.alloc (.cells #[.int .u64 r, .int .u64 q5, .slice ua5 un5 uc5] 75) := ⟨_, rfl⟩
              obtain ⟨b5, hb5⟩ : ∃ b5, b5 = w5.heap.size := ⟨_, rfl⟩
              rw [← hV5] at HK5 HB5 ⊢
              rw [← hb5] at HB5 ⊢
              clear hV5 hb5
              have HTEN : Hid (∀ W', Kept NoB V5 W' → W'.cell? ⟨b5, 0, none⟩ = some (.int .u64 r)) := Lib.hid (fun W' hk => (cells3v (hk.heap (fun h => h) HB5.out)).1)
              have HKc := Lib.hid ((Kept.refl NoB V5).drew)
              have HT := Lib.hid (HTEN.out _ HKc.out)
              go_region_held3 (fun w' => w'.cell? ⟨b5, 0, none⟩ = some (.int .u64 r))
                (with_reducible exact HT.out)
                (first
                | (go_at_call 37; (with_reducible refine (HLB.out _ (HK5.out.trans HKc.out (fun _ _ h => h))).mono ?_); rintro e w8 ⟨q8, ua8, un8, uc8, rfl, hk8⟩; replace HKc := Lib.hid (HKc.out.trans hk8 (fun _ _ h => h)); replace HT := Lib.hid (HTEN.out _ HKc.out); clear hk8))
              go_wp2
              go_roundw
              case rel => exact ⟨j + 1, by omega, by go_num, HK5.out.trans HKc.out (fun _ _ h => h)⟩
              case measure => simp [intOf]; omega
          · obtain rfl : j = l.length := by omega
            have hjl1 : ¬ ((l.length : Nat) : Int) < (i : Int) := by have := HM.out; omega
            have HNQ := Lib.hid (HNW.out.no HK.out)
            have HEA := Lib.hid (SEnd_any wr Sa ga ma ta sa HNQ.out.A)
            have HTR := Lib.hid (STrim_any wr Sa ga ma ta sa (i + 2) sa.en HNQ.out.A HNQ.out.gra (by omega))
            go_wp2_with fail
            refine HEA.out.mono ?_
            rintro e wv ⟨rfl, rfl⟩
            go_wp2_with fail
            refine HTR.out.mono ?_
            rintro e wt ⟨⟨ev, rfl⟩, hat, hkt⟩
            obtain ⟨m1, m2, m3⟩ := HNQ.out.mid hkt
            have HAT := Lib.hid hat
            have HBT := Lib.hid m1
            have HWT := Lib.hid m3
            clear hat hkt m1 m2 m3 hjl1
            go_wp2
            go_loopw [20] (fun jv wr => ∃ j : Nat, j ≤ l.length ∧ jv = .int .i64 j ∧ Kept NoB wt wr) (fun jv _ => l.length - (intOf jv).toNat)
            case atStart => exact ⟨0, Nat.zero_le _, rfl, Kept.refl _ _⟩
            case round =>
              obtain ⟨j, hjle, rfl, hk⟩ := hrel
              have HK := Lib.hid hk
              clear hk
              by_cases hjl : j < l.length
              · have hjl1 : (j : Int) < (i : Int) := by have := HM.out; omega
                have hj0 : (0 : Int) ≤ (j : Int) := by omega
                obtain ⟨b, o, ha, _, hbw, hat⟩ := HROW.out (by omega)
                subst ha
                have hq := (hat j hjl).kept ((HWT.out).trans HK.out (fun _ _ h => h)) (fun h => h) (fun _ _ h => h)
                have hf := HFIT.out.at_ hjl
                obtain ⟨⟨y0, y1, y2, y3, y4, y5, y6⟩, hy⟩ : ∃ y, y = nthU l j := ⟨_, rfl⟩
                rw [← hy] at hq hf
                obtain ⟨u, _, _, _, _, c4, _⟩ := hq
                have hk0 : 0 ≤ y4 := hf.2.2.2.2.1
                have hk1 : y4 ≤ 4294967295 := hf.2.2.2.2.2.1
                simp only at c4
                clear hat hy hf
                obtain ⟨L, hL⟩ : ∃ L, L = (lastV (sb.l y4)).r := ⟨_, rfl⟩
                have HLB := Lib.hid (fun (W' : World) (hk : Kept NoB wt W') => SLast_any W' Sb gb mb tb sb y4 (HBT.out.no hk) hk0 hk1 (HNW.out.grb.dl y4))
                have HEA3 := Lib.hid (fun (W' : World) (hk : Kept NoB wt W') => SEnd_any W' Sa ga ma ta (trimSp sa sa.en) (HAT.out.no hk))
                have hth := fun (W' : World) (hk : Kept NoB wt W') => SThen_any W' Sa ga ma ta (trimSp sa sa.en) y4 L sa.en (HAT.out.no hk) hk0 hk1 (by have h1 := HNW.out.gra.len y4; have h2 := trimV_len (sa.l y4) sa.en; show (trimV (sa.l y4) sa.en).length ≤ _; omega)
                obtain ⟨t1, t2⟩ := HNW.out.pr.trim HNW.out.gra HNW.out.grb y4
                rw [← hL] at HLB t1 t2
                change ∀ (W' : World), Kept NoB wt W' → Calls Tryz.prog 33 _ W' (SThenP W' (pickV (trimV (sa.l y4) sa.en) L sa.en).r L) at hth
                obtain ⟨r3, hr3⟩ : ∃ r3, r3 = (pickV (trimV (sa.l y4) sa.en) L sa.en).r := ⟨_, rfl⟩
                rw [← hr3] at t1 t2 hth
                unfold SThenP at hth
                rw [t2] at hth
                have HTH := Lib.hid hth
                have HEA3 : Hid (∀ (W' : World), Kept NoB wt W' → Calls Tryz.prog 26 #[.pointer (some ⟨ga, 0, none⟩)] W' fun e w' => e = .returned (.int .u64 sa.en) ∧ W' = w') := HEA3
                have dlt : decide (r3 < L) = false := decide_eq_false (by omega)
                clear hth t1 t2 hr3 hL
                go_wp2_with fail
                refine (HLB.out _ HK.out).mono ?_
                rintro e w4 ⟨q4, ua4, un4, uc4, rfl, hk4⟩
                have HK4 := Lib.hid ((HK.out : Kept NoB wt _).trans hk4 (fun _ _ h => h))
                clear hk4
                go_wp2_with fail
                refine (HEA3.out _ HK4.out).mono ?_
                rintro e wv ⟨rfl, rfl⟩
                go_wp2_with fail
                refine (HTH.out _ HK4.out).mono ?_
                rintro e w5 ⟨q5, ua5, un5, uc5, rfl, hk5⟩
                have HK5 := Lib.hid ((HK4.out.trans hk5 (fun _ _ h => h)).alloc (.cells #[.int .u64 r3, .int .u64 q5, .slice ua5 un5 uc5] 75))
                have HB5 := Lib.hid (heap_alloc_new w5 (.cells #[.int .u64 r3, .int .u64 q5, .slice ua5 un5 uc5] 75))
                clear hk5
                go_upto_region 36 with fail
                obtain ⟨V5, hV5⟩ : ∃ V5, V5 = w5.alloc (.cells #[.int .u64 r3, .int .u64 q5, .slice ua5 un5 uc5] 75) := ⟨_, rfl⟩
                obtain ⟨b5, hb5⟩ : ∃ b5, b5 = w5.heap.size := ⟨_, rfl⟩
                rw [← hV5] at HK5 HB5 ⊢
                rw [← hb5] at HB5 ⊢
                clear hV5 hb5
                have HTEN : Hid (∀ W', Kept NoB V5 W' → W'.cell? ⟨b5, 0, none⟩ = some (.int .u64 r3)) := Lib.hid (fun W' hk => (cells3v (hk.heap (fun h => h) HB5.out)).1)
                have HKc := Lib.hid ((Kept.refl NoB V5).drew)
                have HT := Lib.hid (HTEN.out _ HKc.out)
                go_region_held3 (fun w' => w'.cell? ⟨b5, 0, none⟩ = some (.int .u64 r3))
                  (with_reducible exact HT.out)
                  (first
                  | (go_at_call 37; (with_reducible refine (HLB.out _ (HK5.out.trans HKc.out (fun _ _ h => h))).mono ?_); rintro e w8 ⟨q8, ua8, un8, uc8, rfl, hk8⟩; replace HKc := Lib.hid (HKc.out.trans hk8 (fun _ _ h => h)); replace HT := Lib.hid (HTEN.out _ HKc.out); clear hk8))
                go_wp2
                go_roundw
                case rel => exact ⟨j + 1, by omega, by go_num, HK5.out.trans HKc.out (fun _ _ h => h)⟩
                case measure => simp [intOf]; omega
              · obtain rfl : j = l.length := by omega
                have hjl1 : ¬ ((l.length : Nat) : Int) < (i : Int) := by have := HM.out; omega
                have HKW := Lib.hid (HWT.out.trans HK.out (fun _ _ h => h))
                go_wp2_with fail
                refine (HAW.out _ HKW.out).mono ?_
                rintro e wz ⟨rfl, hkz⟩
                have HKZ := Lib.hid (HKW.out.trans hkz (fun _ _ h => h))
                clear hkz
                go_wp2
                go_ret
                exact ⟨rfl, HKZ.out⟩
end Go.Proofs.YtnnmkmipeoajjaaGreatDoor
