/-
  The chapter's window: Add.
-/
import Derived.Test.YtabjpmkkigflmaaGreatDoorWinP
import Derived.Test.YtabjpmkkigflmaaGreatDoorLtrL
namespace Go.Proofs.YtabjpmkkigflmaaGreatDoor
open Go.RowKit
set_option linter.unusedVariables false
set_option linter.unusedSimpArgs false

set_option maxRecDepth 100000 in
set_option maxHeartbeats 4000000 in
theorem RAdd20_any (w : World) (v : Value) (x : Wn) (F : Nat → Prop) (h : RwV w F v x) (hF : ∀ k, F k → k < w.heap.size) (ok : WnOk x) (uv : Value) (u : Up) (hu : UpV w F uv u) (hf : FitU u) (hroom : x.l.length < 5000) (htop : x.en + 1 ≤ 9223372036854775807) :
    Calls Tryz.prog 17 #[v, uv] w fun e w' => ∃ v', e = .returned (.tuple #[v', .int .i64 (addC x u)]) ∧ RwV w' (NewOr17 F w.heap.size) v' (addN x u) ∧ Kept NoB w w' := by
  have HCK := Lib.hid (fun w' (hk : Kept NoB w w') => RCheck17_any w' uv u F (hu.no hk))
  rw [← chk_push u hf] at HCK
  have HC0 := Lib.hid (@chkU_ok u)
  have HAC : Hid (addC x u = if chkU areUs u = 0 then (if u.q = (x.en : Int) + 1 then 0 else 12) else chkU areUs u) := Lib.hid rfl
  have HAN : Hid (addN x u = if chkU areUs u = 0 ∧ u.q = (x.en : Int) + 1 then addW x u else x) := Lib.hid rfl
  have HAW : Hid (addW x u = forgetW ⟨x.low, x.en + 1, x.done, x.l ++ [u]⟩) := Lib.hid rfl
  have HMO := Lib.hid (fun (hq : u.q = ((x.en + 1 : Nat) : Int)) (hs : u.d.length ≤ 1000000) => moreW_ok ok hq hf hs htop hroom)
  obtain ⟨ru, rfl, hr⟩ := h
  obtain ⟨a, c, rfl⟩ := hr.form
  have HF := Lib.hid hF
  have HR := Lib.hid hr
  have HF2 := Lib.hid hf
  obtain ⟨z, hz⟩ : ∃ z, z = chkU areUs u := ⟨_, rfl⟩
  rw [← hz] at HCK HC0 HAC HAN
  obtain ⟨va, rfl, hd⟩ := hu
  obtain ⟨vad, vc, rfl, _⟩ := id hd
  have HDD := Lib.hid hd
  obtain ⟨lo, en, dn, l⟩ := x
  obtain ⟨y0, y1, y2, y3, y4, y5, y6⟩ := u
  simp only at HCK HC0 HAC HAN HAW HMO HR HDD hroom htop ⊢
  obtain ⟨AC, hAC⟩ : ∃ z, z = addC ⟨lo, en, dn, l⟩ ⟨y0, y1, y2, y3, y4, y5, y6⟩ := ⟨_, rfl⟩
  obtain ⟨AN, hAN⟩ : ∃ z, z = addN ⟨lo, en, dn, l⟩ ⟨y0, y1, y2, y3, y4, y5, y6⟩ := ⟨_, rfl⟩
  rw [← hAC] at HAC ⊢
  rw [← hAN] at HAN ⊢
  have hq0 : 0 ≤ y0 := hf.1
  have hqt : y0 ≤ 18446744073709551615 := hf.2.1
  obtain ⟨V, hV⟩ : ∃ V, V = ((w.alloc (.cells #[.int .u64 lo, .int .u64 en, .int .u64 dn, .slice a l.length c] 29)).alloc (.cells #[.int .u64 y0, .int .i64 y1, .int .u64 y2, .int .i64 y3, .int .u32 y4, .int .u64 y5, .slice vad y6.length vc] 34)).alloc (.cells #[.int .u64 0, .int .u64 0, .int .u64 0, .slice none 0 0] 29) := ⟨_, rfl⟩
  have hs1 : (w.alloc (.cells #[.int .u64 lo, .int .u64 en, .int .u64 dn, .slice a l.length c] 29)).heap.size = w.heap.size + 1 := by simp
  have hs2 : ((w.alloc (.cells #[.int .u64 lo, .int .u64 en, .int .u64 dn, .slice a l.length c] 29)).alloc (.cells #[.int .u64 y0, .int .i64 y1, .int .u64 y2, .int .i64 y3, .int .u32 y4, .int .u64 y5, .slice vad y6.length vc] 34)).heap.size = w.heap.size + 1 + 1 := by simp
  have HB1 : Hid (V.heap[w.heap.size]? = some (.cells #[.int .u64 lo, .int .u64 en, .int .u64 dn, .slice a l.length c] 29 (0, 0))) := Lib.hid (by rw [hV]; exact blkU_alloc (blkU_alloc (heap_alloc_new w _) _) _)
  have HB2 : Hid (V.heap[w.heap.size + 1]? = some (.cells #[.int .u64 y0, .int .i64 y1, .int .u64 y2, .int .i64 y3, .int .u32 y4, .int .u64 y5, .slice vad y6.length vc] 34 (0, 0))) := Lib.hid (by rw [hV, ← hs1]; exact blkU_alloc (heap_alloc_new _ _) _)
  have HB3 : Hid (V.heap[w.heap.size + 1 + 1]? = some (.cells #[.int .u64 0, .int .u64 0, .int .u64 0, .slice none 0 0] 29 (0, 0))) := Lib.hid (by rw [hV, ← hs2]; exact heap_alloc_new _ _)
  have HKV : Hid (Kept NoB w V) := Lib.hid (by rw [hV]; exact (((Kept.refl _ _).alloc _).alloc _).alloc _)
  have HVS : Hid (V.heap.size = w.heap.size + 3) := Lib.hid (by rw [hV]; simp)
  have HV := Lib.hid hV
  obtain ⟨d0, d1, d2, d3, d4, d5, d6⟩ := cells7 HB2.out
  -- what is told when nothing was added
  have same_end : Hid (∀ W, Kept NoB w W → W.heap[w.heap.size + 1 + 1]? = some (.cells #[.int .u64 0, .int .u64 0, .int .u64 0, .slice none 0 0] 29 (0, 0)) → ∀ W', W' = (((W.setCell ⟨w.heap.size + 1 + 1, 0, none⟩ (.int .u64 lo)).setCell ⟨w.heap.size + 1 + 1, 1, none⟩ (.int .u64 en)).setCell ⟨w.heap.size + 1 + 1, 2, none⟩ (.int .u64 dn)).setCell ⟨w.heap.size + 1 + 1, 3, none⟩ (.slice a l.length c) →
      (W'.cell? ⟨w.heap.size + 1 + 1, 0, none⟩ = some (.int .u64 lo) ∧ W'.cell? ⟨w.heap.size + 1 + 1, 1, none⟩ = some (.int .u64 en) ∧ W'.cell? ⟨w.heap.size + 1 + 1, 2, none⟩ = some (.int .u64 dn) ∧ W'.cell? ⟨w.heap.size + 1 + 1, 3, none⟩ = some (.slice a l.length c)) ∧ RwV W' (NewOr17 F w.heap.size) (.agg #[.int .u64 lo, .int .u64 en, .int .u64 dn, .slice a l.length c]) ⟨lo, en, dn, l⟩ ∧ Kept NoB w W') := Lib.hid (by
    intro W hk hb W' hW'
    have r := four10_at hb (.int .u64 lo) (.int .u64 en) (.int .u64 dn) (.slice a l.length c)
    have hkk := hk.four10 (b := w.heap.size + 1 + 1) (.inr (by omega)) 0 (.int .u64 lo) (.int .u64 en) (.int .u64 dn) (.slice a l.length c)
    unfold Go.Proofs.YtabjpmkkigflmaaGreatDoor.four10 at r hkk
    simp only [Nat.zero_add] at r hkk
    rw [← hW'] at r hkk
    exact ⟨cells4w r, ⟨_, rfl, (HR.out.no hkk).mono (fun k _ h => .inl h)⟩, hkk⟩)
  clear hV hr hd hf hF ok hz hAC hAN hs1 hs2
  by_cases hz0 : z = 0
  · subst hz0
    have hq1 : 1 ≤ y0 := (HC0.out rfl).2
    have hl6 : y6.length ≤ 2048 := (HC0.out rfl).1
    by_cases hq : y0 = (en : Int) + 1
    · have hE1 : Hid (AC = 0) := Lib.hid (by rw [HAC.out, if_pos rfl, if_pos hq])
      have hE2 : Hid (AN = forgetW ⟨lo, en + 1, dn, l ++ [⟨y0, y1, y2, y3, y4, y5, y6⟩]⟩) := Lib.hid (by rw [HAN.out, if_pos ⟨rfl, hq⟩, HAW.out])
      have hwq : IntKind.u64.wrap (y0 - 1) = (en : Int) := by rw [IntWalk.u64_in _ (by omega)]; omega
      have HQ : Hid (y0 = ((en + 1 : Nat) : Int)) := Lib.hid (by omega)
      have HOK2 := Lib.hid (HMO.out (by show y0 = _; omega) (by show y6.length ≤ 1000000; omega))
      obtain ⟨ps, hps, hdat, hcel⟩ := HR.out.ps
      have HPS := Lib.hid hps
      have HLN : Hid (∀ W, Kept NoB w W → UsAt W F (.slice a l.length c) l ∧ DatU W F ps ∧ ∀ ad, a = some ad → ∀ j u, (ucl ps)[j]? = some u → W.cell? (ad.add j) = some u) := Lib.hid (fun W hk => ⟨HR.out.no hk, hdat.kept hk (fun _ _ h => h), fun ad he j u hu => hk.cell (fun h => h) (hcel ad he j u hu)⟩)
      have hpl : ps.length = l.length := by rw [← hps, List.length_map]
      have HPL := Lib.hid hpl
      clear hps hdat hcel hpl hq HAC HAN HAW HMO HC0 same_end
      go_enter Tryz.func17, Tryz.ntmps17
      go_wp2_with fail
      rw [← HV.out]
      refine (HCK.out V HKV.out).mono ?_
      rintro e w1 ⟨rfl, hk1⟩
      have HK1 := Lib.hid (HKV.out.trans hk1 (fun _ _ h => h))
      have HBA := Lib.hid (hk1.heap (fun h => h) HB1.out)
      have HBB := Lib.hid (hk1.heap (fun h => h) HB2.out)
      have HBC := Lib.hid (hk1.heap (fun h => h) HB3.out)
      have hsz1 : w.heap.size + 3 ≤ w1.heap.size := by have := HVS.out; have := hk1.size; omega
      clear d0 d1 d2 d3 d4 d5 d6
      obtain ⟨c0, c1, c2, c3⟩ := cells4w HBA.out
      obtain ⟨d0, d1, d2, d3, d4, d5, d6⟩ := cells7 HBB.out
      have f1 := blkU_frozen HBA.out
      have HDW : Hid (∀ W, Kept NoB w1 W → BSl W F (.slice vad y6.length vc) y6) := Lib.hid (fun W hk => (show BSl w F (.slice vad y6.length vc) y6 from HDD.out).kept (HK1.out.trans hk (fun _ _ h => h)) (fun _ _ h => h))
      have HL1 : Hid (∀ W, Kept NoB w1 W → UsAt W F (.slice a l.length c) l ∧ DatU W F ps ∧ ∀ ad, a = some ad → ∀ j u, (ucl ps)[j]? = some u → W.cell? (ad.add j) = some u) := Lib.hid (fun W hk => HLN.out W (HK1.out.trans hk (fun _ _ h => h)))
      clear hk1
      go_upto_region 6 with fail
      have HUO : Hid (∀ W g, Kept NoB w1 W → W.heap[g]? = some (.cells #[.int .u64 y0, .int .i64 y1, .int .u64 y2, .int .i64 y3, .int .u32 y4, .int .u64 y5, .slice vad y6.length vc] 34 (0, 0)) → UsAt W (fun k => F k ∨ k = g) (.slice (some ⟨g, 0, none⟩) 1 1) [⟨y0, y1, y2, y3, y4, y5, y6⟩] ∧ DatU W (fun k => F k ∨ k = g) [(⟨y0, y1, y2, y3, y4, y5, y6⟩, .slice vad y6.length vc)] ∧ ∀ ad, some (⟨g, 0, none⟩ : Addr) = some ad → ∀ j u, (ucl [((⟨y0, y1, y2, y3, y4, y5, y6⟩ : Up), Value.slice vad y6.length vc)])[j]? = some u → W.cell? (ad.add j) = some u) := Lib.hid (fun W g hk hb =>
        ⟨UsAt.one hb (.inr rfl) ((HDW.out W hk).mono (fun _ _ h => .inl h)), fun p hp => by
          obtain rfl : p = (⟨y0, y1, y2, y3, y4, y5, y6⟩, .slice vad y6.length vc) := by simpa using hp
          exact (HDW.out W hk).mono (fun _ _ h => .inl h), fun ad he j u hu => by
          injection he with he
          subst he
          exact World.news_of_block hb j u hu⟩)
      have c3a := cell_alloc (w := w1.drew) c3 (.cells #[.int .u64 y0, .int .i64 y1, .int .u64 y2, .int .i64 y3, .int .u32 y4, .int .u64 y5, .slice vad y6.length vc] 34)
      have c3b := cell_alloc (w := w1) c3 (.cells #[.int .u64 y0, .int .i64 y1, .int .u64 y2, .int .i64 y3, .int .u32 y4, .int .u64 y5, .slice vad y6.length vc] 34)
      go_region_law (first
        | (refine step_append_us _ (by rfl) (.const (.slice none 0 0)) (.tmp 21) (by rfl) w1.heap.size (.slice none 0 0) [] (by rfl) (UOw.nil _ _ _) F a l.length c l (by rfl) (HL1.out _ (by first | exact (Kept.refl NoB w1).drew | exact (Kept.refl NoB w1).drew.alloc _ | exact ((Kept.refl NoB w1).alloc _).drew)).1 ps HPS.out (HL1.out _ (by first | exact (Kept.refl NoB w1).drew | exact (Kept.refl NoB w1).drew.alloc _ | exact ((Kept.refl NoB w1).alloc _).drew)).2.1 (HL1.out _ (by first | exact (Kept.refl NoB w1).drew | exact (Kept.refl NoB w1).drew.alloc _ | exact ((Kept.refl NoB w1).alloc _).drew)).2.2 (by simp; omega) (by first | exact (Kept.refl NoB w1).drew.size | exact ((Kept.refl NoB w1).drew.alloc _).size | exact ((Kept.refl NoB w1).alloc _).drew.size) l.length (by simp) ?_; intro a2 c2 w2 hown2 hg2; have HO2 := Lib.hid hown2; rw [List.nil_append] at HO2; have HK2 : Hid (Kept NoB w1 w2) := Lib.hid ((by first | exact (Kept.refl NoB w1).drew | exact (Kept.refl NoB w1).drew.alloc _ | exact ((Kept.refl NoB w1).alloc _).drew : Kept NoB w1 _).grown hg2 (fun k hk => by cases hk)); have HG2 := Lib.hid ((Kept.refl NoB _).grown hg2 (fun k hk => by cases hk)); clear hown2 hg2; obtain ⟨p0, p1, p2, p3, p4, p5, p6⟩ := cells7 (HK2.out.heap (fun h => h) HBB.out); obtain ⟨k0, k1, k2, k3⟩ := cells4w (HK2.out.heap (fun h => h) HBA.out))
        | (refine step_append_us _ (by rfl) (.tmp 22) (.tmp 24) (by rfl) w1.heap.size (.slice a2 l.length c2) ps (by rfl) (HO2.out.no ((Kept.refl NoB w2).alloc _)) _ (some ⟨w2.heap.size, 0, none⟩) 1 1 _ (by rfl) (HUO.out _ w2.heap.size (HK2.out.alloc _) (heap_alloc_new w2 _)).1 [(⟨y0, y1, y2, y3, y4, y5, y6⟩, .slice vad y6.length vc)] rfl (HUO.out _ w2.heap.size (HK2.out.alloc _) (heap_alloc_new w2 _)).2.1 (HUO.out _ w2.heap.size (HK2.out.alloc _) (heap_alloc_new w2 _)).2.2 (by rw [HPL.out]; simp; omega) (HK2.out.alloc _).size (l.length + 1) (by rw [HPL.out]) ?_; intro a3 c3' w3 hown3 hg3; have HO3 := Lib.hid hown3; have HK3 : Hid (Kept NoB w1 w3) := Lib.hid ((HK2.out.alloc _).grown hg3 (fun i hi => .inr ((HO2.out.no ((Kept.refl NoB w2).alloc (.cells #[.int .u64 y0, .int .i64 y1, .int .u64 y2, .int .i64 y3, .int .u32 y4, .int .u64 y5, .slice vad y6.length vc] 34))).base i hi).1)); clear hown3 hg3; have f3 := blkU_frozen (HK3.out.heap (fun h => h) HBA.out); obtain ⟨m0, m1, m2, m3⟩ := cells4w (HK3.out.heap (fun h => h) HBA.out); obtain ⟨n0, n1, n2, n3, n4, n5, n6⟩ := cells7 (HK3.out.heap (fun h => h) HBB.out))
        | (refine step_append_us _ (by rfl) (.tmp 22) (.tmp 24) (by rfl) w1.heap.size (.slice a2 l.length c2) ps (by rfl) HO2.out _ (some ⟨w1.heap.size, 0, none⟩) 1 1 _ (by rfl) (HUO.out _ w1.heap.size HK2.out (HG2.out.heap (fun h => h) (by first | exact heap_alloc_new w1.drew _ | exact heap_alloc_new w1 _))).1 [(⟨y0, y1, y2, y3, y4, y5, y6⟩, .slice vad y6.length vc)] rfl (HUO.out _ w1.heap.size HK2.out (HG2.out.heap (fun h => h) (by first | exact heap_alloc_new w1.drew _ | exact heap_alloc_new w1 _))).2.1 (HUO.out _ w1.heap.size HK2.out (HG2.out.heap (fun h => h) (by first | exact heap_alloc_new w1.drew _ | exact heap_alloc_new w1 _))).2.2 (by rw [HPL.out]; simp; omega) HK2.out.size (l.length + 1) (by rw [HPL.out]) ?_; intro a3 c3' w3 hown3 hg3; have HO3 := Lib.hid hown3; have HK3 : Hid (Kept NoB w1 w3) := Lib.hid (HK2.out.grown hg3 (fun i hi => .inr (HO2.out.base i hi).1)); clear hown3 hg3; have f3 := blkU_frozen (HK3.out.heap (fun h => h) HBA.out); obtain ⟨m0, m1, m2, m3⟩ := cells4w (HK3.out.heap (fun h => h) HBA.out); obtain ⟨n0, n1, n2, n3, n4, n5, n6⟩ := cells7 (HK3.out.heap (fun h => h) HBB.out))
        | fail)
      all_goals
        have hk9 : Kept (fun k => k = w.heap.size) w3 ((w3.setCell ⟨w.heap.size, 3, none⟩ (.slice a3 (l.length + 1) c3')).setCell ⟨w.heap.size, 1, none⟩ (.int .u64 y0)) := ((Kept.refl (fun k => k = w.heap.size) w3).setCell (p := ⟨w.heap.size, 3, none⟩) (.inl rfl) _).setCell (p := ⟨w.heap.size, 1, none⟩) (.inl rfl) _
        have HK9 := Lib.hid hk9
        have hk13 := HK3.out.size
        have hus : UsAt w3 (fun k => F k ∨ (w1.heap.size ≤ k ∧ k < w3.heap.size)) (.slice a3 (l.length + 1) c3') (l ++ [⟨y0, y1, y2, y3, y4, y5, y6⟩]) := by
          have h := HO3.out.us (F := fun k => F k ∨ (w1.heap.size ≤ k ∧ k < w3.heap.size)) (fun k hk => .inr (HO3.out.base k hk)) (fun p hp => by
            rcases List.mem_append.1 hp with hp | hp
            · exact ((HL1.out w3 HK3.out).2.1 p hp).mono (fun _ _ h => .inl h)
            · obtain rfl : p = (⟨y0, y1, y2, y3, y4, y5, y6⟩, .slice vad y6.length vc) := by simpa using hp
              exact (HDW.out w3 HK3.out).mono (fun _ _ h => .inl h))
          rw [List.map_append, HPS.out] at h
          exact h
        have HKP := Lib.hid (Rkept_any ((w3.setCell ⟨w.heap.size, 3, none⟩ (.slice a3 (l.length + 1) c3')).setCell ⟨w.heap.size, 1, none⟩ (.int .u64 y0)) (.agg #[.int .u64 lo, .int .u64 y0, .int .u64 dn, .slice a3 (l.length + 1) c3']) ⟨lo, en + 1, dn, l ++ [⟨y0, y1, y2, y3, y4, y5, y6⟩]⟩ (fun k => F k ∨ (w1.heap.size ≤ k ∧ k < w3.heap.size))
          ⟨_, by rw [← HQ.out], hus.kept hk9 (fun k h1 h2 => by rcases h1 with h1 | h1; have := HF.out k h1; omega; omega)⟩
          (fun k h => by have h2 := hk9.size; rcases h with h | h; have := HF.out k h; omega; omega) HOK2.out)
        rw [← hE2.out] at HKP
        have HB9 := Lib.hid (hk9.heap (k := w.heap.size + 1 + 1) (by omega) (HK3.out.heap (fun h => h) HBC.out))
        clear hk9 hus hE2
        obtain ⟨rl, re, rd, rll⟩ := AN
        go_wp2_with fail
        refine HKP.out.mono ?_
        rintro e w9 ⟨v', rfl, ⟨u', rfl, hu'⟩, hk⟩
        obtain ⟨ua, uc, rfl⟩ := hu'.form
        have HU9 := Lib.hid hu'
        have HKE := Lib.hid hk
        have HBE := Lib.hid (hk.heap (fun h => h) HB9.out)
        have f2 := blkU_frozen HBE.out
        obtain ⟨g0, g1, g2, g3⟩ := cells4w HBE.out
        clear hu' hk
        go_wp2
        have r := four10_at HBE.out (.int .u64 rl) (.int .u64 re) (.int .u64 rd) (.slice ua rll.length uc)
        have hkk := (Kept.refl (fun k => k = w.heap.size + 1 + 1) w9).four10 (b := w.heap.size + 1 + 1) (.inl rfl) 0 (.int .u64 rl) (.int .u64 re) (.int .u64 rd) (.slice ua rll.length uc)
        unfold Go.Proofs.YtabjpmkkigflmaaGreatDoor.four10 at r hkk
        simp only [Nat.zero_add] at r hkk
        obtain ⟨r0, r1, r2, r3⟩ := cells4w r
        have hs9 := HK9.out.size
        refine bodyPost_ret (v := .tuple #[.agg #[.int .u64 rl, .int .u64 re, .int .u64 rd, .slice ua rll.length uc], .int .i64 0]) (by simp [results, Tryz.results17, go_sem, r0, r1, r2, r3]) rfl ⟨_, by rw [hE1.out], ⟨_, rfl, ?_⟩, ?_⟩
        · refine (HU9.out.kept hkk (fun k h1 h2 => ?_)).mono (fun k _ h => ?_)
          · rcases h1 with (h1 | h1) | h1
            · have := HF.out k h1; omega
            · omega
            · omega
          · rcases h with (h | h) | h
            · exact .inl h
            · exact .inr (by omega)
            · exact .inr (by omega)
        · exact (((HK1.out.trans HK3.out (fun _ _ h => h)).trans HK9.out (T := fun k => k = w.heap.size) (fun i hi h => by omega)).trans HKE.out (fun _ _ h => h)).trans hkk (T := fun k => k = w.heap.size + 1 + 1) (fun i hi h => by omega)
    · have hE1 : Hid (AC = 12) := Lib.hid (by rw [HAC.out, if_pos rfl, if_neg hq])
      have hE2 : Hid (AN = ⟨lo, en, dn, l⟩) := Lib.hid (by rw [HAN.out, if_neg (fun h => hq h.2)])
      have hwq : IntKind.u64.wrap (y0 - 1) = y0 - 1 := IntWalk.u64_in _ (by omega)
      have hneb2 : ((y0 - 1) != (en : Int)) = true := by simp only [bne_iff_ne]; omega
      have hneb : ((y0 - 1) == (en : Int)) = false := by simp only [beq_eq_false_iff_ne]; omega
      have hne : ¬ y0 - 1 = (en : Int) := by omega
      clear hq hl6
      go_enter Tryz.func17, Tryz.ntmps17
      go_wp2_with fail
      rw [← HV.out]
      refine (HCK.out V HKV.out).mono ?_
      rintro e w1 ⟨rfl, hk1⟩
      have HK1 := Lib.hid (HKV.out.trans hk1 (fun _ _ h => h))
      have HBA := Lib.hid (hk1.heap (fun h => h) HB1.out)
      have HBC := Lib.hid (hk1.heap (fun h => h) HB3.out)
      clear d0 d1 d2 d3 d4 d5 d6
      obtain ⟨c0, c1, c2, c3⟩ := cells4w HBA.out
      obtain ⟨d0, d1, d2, d3, d4, d5, d6⟩ := cells7 (hk1.heap (fun h => h) HB2.out)
      obtain ⟨g0, g1, g2, g3⟩ := cells4w HBC.out
      have f2 := blkU_frozen HBC.out
      clear hk1
      go_wp2
      obtain ⟨⟨r0, r1, r2, r3⟩, hrw, hkk⟩ := same_end.out w1 HK1.out HBC.out _ rfl
      exact bodyPost_ret (v := .tuple #[.agg #[.int .u64 lo, .int .u64 en, .int .u64 dn, .slice a l.length c], .int .i64 12]) (by simp [results, Tryz.results17, go_sem, r0, r1, r2, r3]) rfl ⟨_, by rw [hE1.out], by rw [hE2.out]; exact hrw, hkk⟩
  · have hE1 : Hid (AC = z) := Lib.hid (by rw [HAC.out, if_neg hz0])
    have hE2 : Hid (AN = ⟨lo, en, dn, l⟩) := Lib.hid (by rw [HAN.out, if_neg (fun h => hz0 h.1)])
    have hzb : (z == 0) = false := beq_eq_false_iff_ne.2 hz0
    have hzb2 : (z != 0) = true := by simpa using hz0
    go_enter Tryz.func17, Tryz.ntmps17
    go_wp2_with fail
    rw [← HV.out]
    refine (HCK.out V HKV.out).mono ?_
    rintro e w1 ⟨rfl, hk1⟩
    have HK1 := Lib.hid (HKV.out.trans hk1 (fun _ _ h => h))
    have HBA := Lib.hid (hk1.heap (fun h => h) HB1.out)
    have HBC := Lib.hid (hk1.heap (fun h => h) HB3.out)
    obtain ⟨c0, c1, c2, c3⟩ := cells4w HBA.out
    obtain ⟨g0, g1, g2, g3⟩ := cells4w HBC.out
    have f2 := blkU_frozen HBC.out
    clear hk1
    go_wp2
    obtain ⟨⟨r0, r1, r2, r3⟩, hrw, hkk⟩ := same_end.out w1 HK1.out HBC.out _ rfl
    exact bodyPost_ret (v := .tuple #[.agg #[.int .u64 lo, .int .u64 en, .int .u64 dn, .slice a l.length c], .int .i64 z]) (by simp [results, Tryz.results17, go_sem, r0, r1, r2, r3]) rfl ⟨_, by rw [hE1.out], by rw [hE2.out]; exact hrw, hkk⟩
end Go.Proofs.YtabjpmkkigflmaaGreatDoor
