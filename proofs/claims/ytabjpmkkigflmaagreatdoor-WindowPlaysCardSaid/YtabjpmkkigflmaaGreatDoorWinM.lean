/-
  The chapter's window: Reach.
-/
import Derived.Test.YtabjpmkkigflmaaGreatDoorWinL
import Derived.Deep.CutRange
namespace Go.Proofs.YtabjpmkkigflmaaGreatDoor
open Go.RowKit
set_option linter.unusedVariables false
set_option linter.unusedSimpArgs false

set_option maxRecDepth 100000 in
set_option maxHeartbeats 4000000 in
theorem RReach20_any (w : World) (v : Value) (x : Wn) (d : Nat) (F : Nat → Prop) (h : RwV w F v x) (hF : ∀ k, F k → k < w.heap.size) (ok : WnOk x) : Calls Tryz.prog 20 #[v, .int .u64 d] w fun e w' => ∃ v' a c, e = .returned (.tuple #[v', .slice a (outW x d).length c]) ∧ RwV w' (NewOr17 F w.heap.size) v' (reachW x d) ∧ UsAt w' (NewOr17 F w.heap.size) (.slice a (outW x d).length c) (outW x d) ∧ Kept NoB w w' := by
  obtain ⟨i0, hi0, hz0, hz1, hz2⟩ := info_parts info_upd
  obtain ⟨u, rfl, hu⟩ := h
  obtain ⟨a, c, rfl⟩ := hu.form
  have HF := Lib.hid hF
  have HU := Lib.hid hu
  have HOF := Lib.hid (out_filter ok d)
  have HOK := Lib.hid (doneW_ok ok d)
  have hfew := ok.few
  have HFI := Lib.hid ok.fit
  have HRW : Hid (reachW x d = forgetW ⟨x.low, x.en, doneW x d, x.l⟩) := Lib.hid rfl
  obtain ⟨lo, en, dn, l⟩ := x
  simp only at HOF HU HFI hu hfew HOK HRW ⊢
  have HDW : Hid (doneW ⟨lo, en, dn, l⟩ d = max dn (min d en)) := Lib.hid rfl
  obtain ⟨DW, hDW⟩ : ∃ z, z = doneW ⟨lo, en, dn, l⟩ d := ⟨_, rfl⟩
  obtain ⟨R, hR⟩ : ∃ z, z = outW ⟨lo, en, dn, l⟩ d := ⟨_, rfl⟩
  obtain ⟨RW, hRW⟩ : ∃ z, z = reachW ⟨lo, en, dn, l⟩ d := ⟨_, rfl⟩
  rw [← hDW] at HOF HOK HRW HDW
  rw [← hR] at HOF ⊢
  rw [← hRW] at HRW ⊢
  obtain ⟨M, hM⟩ : ∃ M, M = min d en := ⟨_, rfl⟩
  have HM : Hid ((en < d → M = en) ∧ (¬ en < d → M = d)) := Lib.hid (by rw [Nat.min_def] at hM; split at hM <;> omega)
  have HFL : Hid ((M < dn → DW = dn) ∧ (¬ M < dn → DW = M)) := Lib.hid (by have := HDW.out; rw [← hM, Nat.max_def] at this; split at this <;> omega)
  obtain ⟨V, hV⟩ : ∃ V, V = (w.alloc (.cells #[.int .u64 lo, .int .u64 en, .int .u64 dn, .slice a l.length c] 29)).alloc (.cells #[.int .u64 0, .int .u64 0, .int .u64 0, .slice none 0 0] 29) := ⟨_, rfl⟩
  have HB1 : Hid (V.heap[w.heap.size]? = some (.cells #[.int .u64 lo, .int .u64 en, .int .u64 dn, .slice a l.length c] 29 (0, 0))) := Lib.hid (by rw [hV]; exact blkU_alloc (heap_alloc_new w _) _)
  have HB2 : Hid (V.heap[w.heap.size + 1]? = some (.cells #[.int .u64 0, .int .u64 0, .int .u64 0, .slice none 0 0] 29 (0, 0))) := Lib.hid (by
    rw [hV]
    have := heap_alloc_new (w.alloc (.cells #[.int .u64 lo, .int .u64 en, .int .u64 dn, .slice a l.length c] 29)) (.cells #[.int .u64 0, .int .u64 0, .int .u64 0, .slice none 0 0] 29)
    simpa using this)
  have HKV : Hid (Kept NoB w V) := Lib.hid (by rw [hV]; exact ((Kept.refl _ _).alloc _).alloc _)
  have HVS : Hid (V.heap.size = w.heap.size + 2) := Lib.hid (by rw [hV]; simp)
  have HV := Lib.hid hV
  obtain ⟨c0, c1, c2, c3⟩ := cells4w HB1.out
  clear hV hu hF ok hDW hR hRW hM
  go_enter Tryz.func20, Tryz.ntmps20
  go_upto_if 11 with fail
  rw [← HV.out]
  go_cut [1] from 11 to 13 (fun x wc => x = .int .u64 M ∧ wc = V)
  case first =>
    by_cases hd : (en : Int) < (d : Int)
    · have hE : (M : Int) = (en : Int) := by have := HM.out; omega
      go_wp2
      all_goals
        go_meet
        case rel => exact ⟨by first | rfl | (rw [hE]; done) | (congr 1; omega), rfl⟩
    · have hE : (M : Int) = (d : Int) := by have := HM.out; omega
      go_wp2
      all_goals
        go_meet
        case rel => exact ⟨by first | rfl | (rw [hE]; done) | (congr 1; omega), rfl⟩
  case rest =>
   obtain ⟨rfl, rfl⟩ := hcut
   go_upto_if 17 with fail
   go_cut [1] from 17 to 19 (fun x w2 => x = .int .u64 DW ∧ w2 = wc)
   case first =>
    by_cases hd : (M : Int) < (dn : Int)
    · have hE : (DW : Int) = (dn : Int) := by have := HFL.out; omega
      go_wp2
      all_goals
        go_meet
        case rel => exact ⟨by first | rfl | (rw [hE]; done) | (congr 1; omega), rfl⟩
    · have hE : (DW : Int) = (M : Int) := by have := HFL.out; omega
      go_wp2
      all_goals
        go_meet
        case rel => exact ⟨by first | rfl | (rw [hE]; done) | (congr 1; omega), rfl⟩
   case rest =>
    obtain ⟨rfl, rfl⟩ := hcut
    go_wp2
    go_loopw [6, 7] (fun ov iv wr => ∃ (k : Nat) (ps : List (Up × Value)), k ≤ l.length ∧ iv = .int .i64 k ∧ UOw 34 wc.heap.size wr ov ps ∧ ps.map Prod.fst = (l.take k).filter (fun u => decide ((dn : Int) < u.q) && decide (u.q ≤ (DW : Int))) ∧ DatU wr F ps ∧ Kept NoB wc wr) (fun _ i _ => l.length - (RowKit.intOf i).toNat)
    case atStart => exact ⟨0, [], Nat.zero_le _, rfl, UOw.nil _ _ _, rfl, (fun p hp => by cases hp), Kept.refl _ _⟩
    case round =>
      obtain ⟨k, ps, hk, rfl, hown, hps, hdat, hK⟩ := hrel
      have HPS := Lib.hid hps
      have HD := Lib.hid hdat
      have HKR := Lib.hid hK
      have HO := Lib.hid hown
      have hk0 : (0 : Int) ≤ (k : Int) := by omega
      have hpl : ps.length ≤ 5000 := by
        have := congrArg List.length hps
        rw [List.length_map] at this
        have h2 := List.length_filter_le (fun u => decide ((dn : Int) < u.q) && decide (u.q ≤ (DW : Int))) (l.take k)
        rw [List.length_take] at h2
        omega
      have hur := HU.out.no (HKV.out.trans hK (fun _ _ h => h))
      obtain ⟨oa, oc, rfl⟩ := hown.form
      have HBR := Lib.hid (hK.heap (fun h => h) HB1.out)
      have HBR2 := Lib.hid (hK.heap (fun h => h) HB2.out)
      clear c0 c1 c2 c3
      obtain ⟨c0, c1, c2, c3⟩ := cells4w HBR.out
      clear hown hps hdat hK
      by_cases hlt : k < l.length
      · have hk1 : (k : Int) < (l.length : Int) := by omega
        have HSS := Lib.hid (filter_snoc hlt (fun u => decide ((dn : Int) < u.q) && decide (u.q ≤ (DW : Int))))
        have hfy := HFI.out.at_ hlt
        obtain ⟨b, o, rfl, hFb, hb, u, e0, e1, e2, e3, e4, e5, e6, hdd⟩ := hur.at_ hlt
        obtain ⟨⟨y0, y1, y2, y3, y4, y5, y6⟩, hy⟩ : ∃ y, y = nthU l k := ⟨_, rfl⟩
        rw [← hy] at e0 e1 e2 e3 e4 e5 hdd HSS hfy
        simp only at e0 e1 e2 e3 e4 e5 hdd
        have HDD := Lib.hid hdd
        obtain ⟨va, vc, rfl, _⟩ := hdd
        clear hur hy hFb hb hfy
        have no_arm : Hid (∀ W, Kept NoB wr W → ¬ ((dn : Int) < y0 ∧ y0 ≤ (DW : Int)) → UOw 34 wc.heap.size W (.slice oa ps.length oc) ps ∧ ps.map Prod.fst = (l.take (k + 1)).filter (fun u => decide ((dn : Int) < u.q) && decide (u.q ≤ (DW : Int))) ∧ DatU W F ps ∧ Kept NoB wc W) := Lib.hid (fun W hW hne => ⟨HO.out.no hW, by
          rw [HPS.out, HSS.out, if_neg (by simpa using hne), List.append_nil], HD.out.kept hW (fun _ _ h => h), HKR.out.trans hW (fun _ _ h => h)⟩)
        by_cases hz : (dn : Int) < y0
        · have g1 : decide ((dn : Int) < y0) = true := decide_eq_true hz
          by_cases hq : y0 ≤ (DW : Int)
          · have g2 : decide (y0 ≤ (DW : Int)) = true := decide_eq_true hq
            have HST : Hid ((l.take (k + 1)).filter (fun u => decide ((dn : Int) < u.q) && decide (u.q ≤ (DW : Int))) = (l.take k).filter (fun u => decide ((dn : Int) < u.q) && decide (u.q ≤ (DW : Int))) ++ [⟨y0, y1, y2, y3, y4, y5, y6⟩]) := Lib.hid (by rw [HSS.out, if_pos (by rw [g1, g2]; rfl)])
            go_wp2_with fail
            go_quiet (fail)
            obtain ⟨W, hW⟩ : ∃ W, W = wr.drewN nq := ⟨_, rfl⟩
            rw [← hW]
            have HKW : Hid (Kept NoB wr W) := Lib.hid (by rw [hW]; exact (Kept.refl NoB wr).drewN nq)
            have HBW := Lib.hid (HKW.out.heap (fun h => h) HBR.out)
            have hka := (Kept.refl NoB W).alloc (.cells #[.int .u64 y0, .int .i64 y1, .int .u64 y2, .int .i64 y3, .int .u32 y4, .int .u64 y5, .slice va y6.length vc] 34)
            have HO3 := Lib.hid ((HO.out.no HKW.out).no hka)
            have HD3 := Lib.hid ((HD.out.kept HKW.out (fun _ _ h => h)).kept hka (fun _ _ h => h))
            have HDD3 := Lib.hid ((HDD.out.kept HKW.out (fun _ _ h => h)).kept hka (fun _ _ h => h))
            have HK3 := Lib.hid ((HKR.out.trans HKW.out (fun _ _ h => h)).trans hka (fun _ _ h => h))
            have HB3 := Lib.hid (heap_alloc_new W (.cells #[.int .u64 y0, .int .i64 y1, .int .u64 y2, .int .i64 y3, .int .u32 y4, .int .u64 y5, .slice va y6.length vc] 34))
            have e0' := HKW.out.cell (p := ⟨b, o + k * 7, none⟩) (fun h => h) e0
            have e1' := HKW.out.cell (p := ⟨b, o + k * 7 + 1, none⟩) (fun h => h) e1
            have e2' := HKW.out.cell (p := ⟨b, o + k * 7 + 2, none⟩) (fun h => h) e2
            have e3' := HKW.out.cell (p := ⟨b, o + k * 7 + 3, none⟩) (fun h => h) e3
            have e4' := HKW.out.cell (p := ⟨b, o + k * 7 + 4, none⟩) (fun h => h) e4
            have e5' := HKW.out.cell (p := ⟨b, o + k * 7 + 5, none⟩) (fun h => h) e5
            have e6' := HKW.out.cell (p := ⟨b, o + k * 7 + 6, none⟩) (fun h => h) e6
            clear hka hW c0 c1 c2 c3 e0 e1 e2 e3 e4 e5 e6 hz hq g1 g2
            obtain ⟨c0, c1, c2, c3⟩ := cells4w HBW.out
            go_wp2_with (at_builtin; refine wpList_append_u1 27 34 i0 Tryz.underlying27 hi0 hz0 hz1 hz2 _ rfl _ _ rfl wc.heap.size (.slice oa ps.length oc) ps rfl HO3.out W.heap.size ⟨y0, y1, y2, y3, y4, y5, y6⟩ (.slice va y6.length vc) _ rfl HB3.out rfl (by omega) HK3.out.size (ps.length + 1) rfl ?_; intro a' c' w' hown' hgrow' hat')
            have hk4 : Kept NoB wc w' := HK3.out.grown hgrow' (fun i hi => .inr (HO3.out.base i hi).1)
            have hk5 : Kept (fun i => some i = (Value.slice oa ps.length oc).ownBlock) (W.alloc (.cells #[.int .u64 y0, .int .i64 y1, .int .u64 y2, .int .i64 y3, .int .u32 y4, .int .u64 y5, .slice va y6.length vc] 34)) w' := (Kept.refl _ _).grown hgrow' (fun i hi => .inl hi.symm)
            have hFo : ∀ i, F i → ¬ some i = (Value.slice oa ps.length oc).ownBlock := fun i hi h => by
              have h1 := (HO3.out.base i h.symm).1
              have h2 := HF.out i hi
              have h3 := HKV.out.size
              omega
            refine ⟨⟨k + 1, ps ++ [(⟨y0, y1, y2, y3, y4, y5, y6⟩, .slice va y6.length vc)], by omega, by go_num, hown', ?_, ?_, hk4⟩, by simp [RowKit.intOf]; omega⟩
            · rw [List.map_append, HPS.out, HST.out]
              rfl
            · intro p hm
              rcases List.mem_append.1 hm with hm | hm
              · exact (HD3.out p hm).kept hk5 hFo
              · obtain rfl : p = (⟨y0, y1, y2, y3, y4, y5, y6⟩, .slice va y6.length vc) := by simpa using hm
                exact HDD3.out.kept hk5 hFo
          · have g2 : decide (y0 ≤ (DW : Int)) = false := decide_eq_false hq
            go_wp2_with fail
            go_quiet (fail)
            all_goals go_wp2
            obtain ⟨h1, h2, h3, h4⟩ := no_arm.out (wr.drewN nq) ((Kept.refl NoB wr).drewN nq) (by omega)
            exact ⟨⟨k + 1, ps, by omega, by go_num, h1, h2, h3, h4⟩, by simp [RowKit.intOf]; omega⟩
        · have g1 : decide ((dn : Int) < y0) = false := decide_eq_false hz
          go_wp2_with fail
          go_quiet (fail)
          all_goals go_wp2
          obtain ⟨h1, h2, h3, h4⟩ := no_arm.out (wr.drewN nq) ((Kept.refl NoB wr).drewN nq) (by omega)
          exact ⟨⟨k + 1, ps, by omega, by go_num, h1, h2, h3, h4⟩, by simp [RowKit.intOf]; omega⟩
      · obtain rfl : k = l.length := by omega
        have f1 := blkU_frozen HBR.out
        have f2 := blkU_frozen HBR2.out
        have hsz : w.heap.size + 2 ≤ wr.heap.size := by have := HVS.out; have := HKR.out.size; omega
        have hk9 : Kept (fun k => k = w.heap.size) wr (wr.setCell ⟨w.heap.size, 2, none⟩ (.int .u64 DW)) := (Kept.refl (fun k => k = w.heap.size) wr).setCell (p := ⟨w.heap.size, 2, none⟩) (.inl rfl) _
        have HK9 := Lib.hid hk9
        have HKP := Lib.hid (Rkept_any (wr.setCell ⟨w.heap.size, 2, none⟩ (.int .u64 DW)) (.agg #[.int .u64 lo, .int .u64 en, .int .u64 DW, .slice a l.length c]) ⟨lo, en, DW, l⟩ F ⟨_, rfl, hur.kept hk9 (fun k h1 h2 => by have := HF.out k h1; omega)⟩ (fun k h => by have h1 := HF.out k h; have h2 := hk9.size; omega) HOK.out)
        rw [← HRW.out] at HKP
        have HB9 := Lib.hid (hk9.heap (k := w.heap.size + 1) (by omega) HBR2.out)
        have HVC := Lib.hid HVS.out
        have HRL : Hid (ps.map Prod.fst = R) := Lib.hid (by have := HPS.out; rw [List.take_length, HOF.out] at this; exact this)
        have hus := HO.out.us (F := NewOr17 F wc.heap.size) (fun k hk => .inr (HO.out.base k hk).1) (HD.out.mono (fun k _ h => .inl h))
        have HUS9 := Lib.hid (hus.kept hk9 (fun k h1 h2 => by
          rcases h1 with h1 | h1
          · have := HF.out k h1; omega
          · have := HVC.out; omega))
        clear hur hk9 hus f2 HRW
        obtain ⟨rl, re, rd, rll⟩ := RW
        go_wp2_with fail
        refine HKP.out.mono ?_
        rintro e w9 ⟨v', rfl, ⟨u', rfl, hu'⟩, hk⟩
        obtain ⟨ua, uc, rfl⟩ := hu'.form
        have HU9 := Lib.hid hu'
        have HKE := Lib.hid hk
        have HBE := Lib.hid (hk.heap (fun h => h) HB9.out)
        have f2 := blkU_frozen HBE.out
        obtain ⟨g0, g1, g2, g3⟩ := cells4w HBE.out
        clear hu' hk
        go_wp2
        have r := four10_at HBE.out (.int .u64 rl) (.int .u64 re) (.int .u64 rd) (.slice ua rll.length uc)
        have hkk := (Kept.refl (fun k => k = w.heap.size + 1) w9).four10 (b := w.heap.size + 1) (.inl rfl) 0 (.int .u64 rl) (.int .u64 re) (.int .u64 rd) (.slice ua rll.length uc)
        unfold Go.Proofs.YtabjpmkkigflmaaGreatDoor.four10 at r hkk
        simp only [Nat.zero_add] at r hkk
        obtain ⟨r0, r1, r2, r3⟩ := cells4w r
        have hlen : R.length = ps.length := by rw [← HRL.out, List.length_map]
        have hs9 := HK9.out.size
        have hvc := HVC.out
        have huo := HUS9.out.no HKE.out
        rw [HRL.out] at huo
        refine bodyPost_ret (v := .tuple #[.agg #[.int .u64 rl, .int .u64 re, .int .u64 rd, .slice ua rll.length uc], .slice oa ps.length oc]) (by simp [results, Tryz.results20, go_sem, r0, r1, r2, r3]) rfl ⟨_, oa, oc, by rw [hlen], ⟨_, rfl, ?_⟩, ?_, ?_⟩
        · refine (HU9.out.kept hkk (fun k h1 h2 => ?_)).mono (fun k _ h => ?_)
          · rcases h1 with h1 | h1
            · have := HF.out k h1; omega
            · omega
          · rcases h with h | h
            · exact .inl h
            · exact .inr (by omega)
        · rw [hlen]
          refine (huo.kept hkk (fun k h1 h2 => ?_)).mono (fun k _ h => ?_)
          · rcases h1 with h1 | h1
            · have := HF.out k h1; omega
            · omega
          · rcases h with h | h
            · exact .inl h
            · exact .inr (by omega)
        · exact (((HKV.out.trans HKR.out (fun _ _ h => h)).trans HK9.out (T := fun k => k = w.heap.size) (fun i hi h => by omega)).trans HKE.out (fun _ _ h => h)).trans hkk (T := fun k => k = w.heap.size + 1) (fun i hi h => by omega)
end Go.Proofs.YtabjpmkkigflmaaGreatDoor
