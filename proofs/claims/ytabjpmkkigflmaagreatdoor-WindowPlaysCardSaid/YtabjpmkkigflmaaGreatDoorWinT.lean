/-
  The walk of WindowPlays.
-/
import Derived.Test.YtabjpmkkigflmaaGreatDoorWinS
import Derived.Deep.CutBlock
namespace Go.Proofs.YtabjpmkkigflmaaGreatDoor
open Go.RowKit
set_option linter.unusedVariables false
set_option linter.unusedSimpArgs false

theorem store4 {wr W w4 : World} {s : Nat} {F : Nat → Prop} (hW : Kept NoB wr W) (hk : Kept NoB W w4) (hz : W.heap[s]? = some (.cells #[.int .u64 0, .int .u64 0, .int .u64 0, .slice none 0 0] 29 (0, 0))) (hs : wr.heap.size ≤ s) (hF : ∀ k, F k → k < wr.heap.size) (x0 x1 x2 : Value) {u : Value} {l : List Up} (hu : UsAt w4 (NewOr17 F W.heap.size) u l) :
    ((((w4.setCell ⟨s, 0, none⟩ x0).setCell ⟨s, 1, none⟩ x1).setCell ⟨s, 2, none⟩ x2).setCell ⟨s, 3, none⟩ u).heap[s]? = some (.cells #[x0, x1, x2, u] 29 (0, 0)) ∧
    UsAt ((((w4.setCell ⟨s, 0, none⟩ x0).setCell ⟨s, 1, none⟩ x1).setCell ⟨s, 2, none⟩ x2).setCell ⟨s, 3, none⟩ u) (NewOr17 F wr.heap.size) u l ∧
    Kept NoB wr ((((w4.setCell ⟨s, 0, none⟩ x0).setCell ⟨s, 1, none⟩ x1).setCell ⟨s, 2, none⟩ x2).setCell ⟨s, 3, none⟩ u) := by
  have r := four10_at (hk.heap (fun h => h) hz) x0 x1 x2 u
  have hf := (Kept.refl (fun k => k = s) w4).four10 (b := s) (.inl rfl) 0 x0 x1 x2 u
  unfold Go.Proofs.YtabjpmkkigflmaaGreatDoor.four10 at r hf
  simp only [Nat.zero_add] at r hf
  have hlt := heap_lt hz
  have hsz := hW.size
  refine ⟨r, (hu.kept hf (fun k h e => ?_)).mono (fun k _ h => h.imp id (fun h => Nat.le_trans hsz h)), (hW.trans hk (fun _ _ h => h)).trans hf (T := fun k => k = s) (fun i hi e => by omega)⟩
  subst e
  rcases h with h | h
  · have := hF k h; omega
  · omega
theorem keep4 {w4 : World} {s rb : Nat} {o : Obj} (h : w4.heap[rb]? = some o) (hne : ¬ rb = s) (x0 x1 x2 u : Value) : ((((w4.setCell ⟨s, 0, none⟩ x0).setCell ⟨s, 1, none⟩ x1).setCell ⟨s, 2, none⟩ x2).setCell ⟨s, 3, none⟩ u).heap[rb]? = some o := by
  have hf := (Kept.refl (fun k => k = s) w4).four10 (b := s) (.inl rfl) 0 x0 x1 x2 u
  unfold Go.Proofs.YtabjpmkkigflmaaGreatDoor.four10 at hf
  simp only [Nat.zero_add] at hf
  exact hf.heap hne h
set_option maxRecDepth 100000 in
set_option maxHeartbeats 40000000 in
theorem WindowPlays_any (w : World) (at_ : Int) (v : Value) (n : Nat) (it : Nat → Opr) (h : OpsAt w (fun k => k < w.heap.size) v n it) (ht : Tab10 w) (a0 : 0 ≤ at_) : Calls Tryz.prog 3 #[.int .u64 at_, v] w fun e w' => e = .returned (.bool true) ∧ Kept NoB w w' := by
  have HT := Lib.hid ht
  have H9 := Lib.hid (fun w' (hk : Kept NoB w w') => awake20 w' (ht.kept hk (fun h => h)))
  by_cases hbig : (4611686018427387904 : Int) < at_
  · go_enter Tryz.func3, Tryz.ntmps3
    go_wp2_with fail
    refine (H9.out _ (Kept.refl _ _)).mono ?_
    rintro e w1 ⟨rfl, hk⟩
    have HK1 := Lib.hid hk
    clear hk
    go_wp2
    go_ret
    exact ⟨rfl, HK1.out⟩
  obtain ⟨A, rfl⟩ := Int.eq_ofNat_of_zero_le a0
  have hA : A ≤ 4611686018427387904 := by omega
  have HN := Lib.hid (wst_new w w A (by omega) (Kept.refl _ _))
  have HO := Lib.hid one20_any
  obtain ⟨a, cap, rfl, hnc, hcap, hrow⟩ := h
  have HROW := Lib.hid hrow
  have hn64 : (n : Int) ≤ 9223372036854775807 := by unfold maxLen at hcap; omega
  clear ht hrow hcap a0
  go_enter Tryz.func3, Tryz.ntmps3
  go_wp2_with fail
  refine HN.out.mono ?_
  rintro e w1 ⟨rfl, hw1, hk1⟩
  have HW1 := Lib.hid hw1
  obtain ⟨b, hb⟩ : ∃ b, b = w.heap.size := ⟨_, rfl⟩
  have hbw : w.heap.size ≤ b ∧ b < w1.heap.size := ⟨by omega, by have := hw1.bound b; rw [hb] at this ⊢; exact this rfl⟩
  have HB := Lib.hid hb
  rw [← hb] at HW1 ⊢
  clear hw1 hk1 hb
  go_wp2_with fail
  refine (RNew20_any w1 A).mono ?_
  rintro e w2 ⟨rfl, hk2⟩
  have HP0 : Hid (PSt w (w2.alloc (.cells #[.int .u64 A, .int .u64 A, .int .u64 A, .slice none 0 0] 29)) b w2.heap.size (fun k => k = b) (fun k => k < w.heap.size) (newW A)) := Lib.hid (by
    have hk3 := hk2.alloc (.cells #[.int .u64 A, .int .u64 A, .int .u64 A, .slice none 0 0] 29)
    have hz := (HW1.out.kept.trans hk3 (fun _ _ h => h)).size
    have hz2 := hk2.size
    have hz1 := HW1.out.kept.size
    exact ⟨HW1.out.no hk3, ⟨_, heap_alloc_new w2 _, UsAt.nil _ _⟩, fun k h => by omega, fun k h e => by omega, fun k h => h, fun h => by omega, fun h => by omega, by omega⟩)
  obtain ⟨rb, hrb⟩ : ∃ rb, rb = w2.heap.size := ⟨_, rfl⟩
  rw [← hrb] at HP0
  have HRB := Lib.hid hrb
  clear hk2
  go_wp2_with fail
  rw [← hrb]
  clear hrb
  go_loopw [7] (fun iv wr => ∃ (i : Nat) (S F : Nat → Prop) (x : Wn), i ≤ n ∧ i ≤ 40 ∧ iv = .int .i64 i ∧ x.en ≤ A + 50 * i ∧ x.l.length ≤ 50 * i ∧ PSt w wr b rb S F x) (fun iv _ => 40 - (intOf iv).toNat)
  case atStart => exact ⟨0, _, _, newW A, Nat.zero_le _, by omega, rfl, Nat.le_refl _, Nat.zero_le _, HP0.out⟩
  case round =>
    obtain ⟨i, S, F, x, hi, hi40, rfl, hen, hll, hst⟩ := hrel
    have HST := Lib.hid hst
    clear hst
    by_cases hin : i < n
    · have hini : (i : Int) < (n : Int) := by omega
      by_cases h40 : i < 40
      · have h40i : (i : Int) < 40 := by omega
        have hi0 : (0 : Int) ≤ (i : Int) := by omega
        obtain ⟨r, o, ha, hr, hcell⟩ := HROW.out (by omega)
        subst ha
        have HC := Lib.hid (fun w' (hk : Kept NoB w w') => (hcell i hin).no hk)
        have HQ := Lib.hid (hcell i hin)
        clear hcell
        obtain ⟨⟨ok, on, ⟨y0, y1, y2, y3, y4, y5, y6⟩, ob, om⟩, hop⟩ : ∃ z, z = it i := ⟨_, rfl⟩
        rw [← hop] at HC HQ
        clear hop
        have hn0 : 0 ≤ on := HQ.out.n0
        have hn1 : on ≤ 255 := HQ.out.n1
        have hb0 : 0 ≤ ob := HQ.out.b0
        have hb1 : ob ≤ 255 := HQ.out.b1
        obtain ⟨e0, e1, ⟨du, u0, u1, u2, u3, u4, u5, u6, udd⟩, e9, e10, _, _, _, _, _⟩ := HC.out wr HST.out.st.kept
        obtain ⟨dva, dvc, rfl, _⟩ := id udd
        have HDD := Lib.hid udd
        simp only at e0 e1 u0 u1 u2 u3 u4 u5 e9 e10 u6
        clear udd
        go_upto_region 9 with fail
        obtain ⟨V, hV⟩ : ∃ V, V = wr.alloc (.cells #[.int .i64 ok, .int .u8 on, .int .u64 y0, .int .i64 y1, .int .u64 y2, .int .i64 y3, .int .u32 y4, .int .u64 y5, .slice dva y6.length dvc, .int .u8 ob, .int .i64 om] 36) := ⟨_, rfl⟩
        obtain ⟨g, hg⟩ : ∃ g, g = wr.heap.size := ⟨_, rfl⟩
        have HPV : Hid (PSt w V b rb S F x) := Lib.hid (by rw [hV]; exact HST.out.no ((Kept.refl _ _).alloc _))
        have HOB : Hid (V.heap[g]? = some (.cells #[.int .i64 ok, .int .u8 on, .int .u64 y0, .int .i64 y1, .int .u64 y2, .int .i64 y3, .int .u32 y4, .int .u64 y5, .slice dva y6.length dvc, .int .u8 ob, .int .i64 om] 36 (0, 0))) := Lib.hid (by rw [hV, hg]; exact heap_alloc_new wr _)
        have hgs : ¬ S g := fun h => by have := HST.out.st.bound g h; omega
        have hgr : ¬ g = rb := by have := HST.out.lt; omega
        rw [← hV, ← hg]
        have HDD2 : Hid (BSl w (fun k => k < w.heap.size) (.slice dva y6.length dvc) y6) := Lib.hid (by
          obtain ⟨_, _, ⟨du2, _, _, _, _, _, _, v6, vd⟩, _⟩ := HQ.out
          have h := HST.out.st.kept.cell (p := ⟨r, o + i * 11 + 2 + 6, none⟩) (fun h => h) v6
          rw [u6] at h
          injection h with h
          rw [h]
          exact vd)
        have hgs := Lib.hid hgs
        clear hV hg e0 e1 u0 u1 u2 u3 u4 u5 e9 e10 u6
        obtain ⟨p0, p1, p2, p3, p4, p5, p6, p7, p8, p9, p10⟩ := cells11 HOB.out
        by_cases hbig6 : (2100 : Int) < (y6.length : Int)
        · go_wp2_with fail
          refine (H9.out _ HPV.out.st.kept).mono ?_
          rintro e w2 ⟨rfl, hk2⟩
          have HK2 := Lib.hid (HPV.out.st.kept.trans hk2 (fun _ _ h => h))
          clear hk2
          go_wp2
          go_ret
          exact ⟨rfl, HK2.out⟩
        go_upto_block 2 with fail
        go_cut [] from 29 to 159 (fun wc => ∃ (S' F' : Nat → Prop) (x' : Wn), x'.en ≤ A + 50 * (i + 1) ∧ x'.l.length ≤ 50 * (i + 1) ∧ PSt w wc b rb S' F' x' ∧ wc.heap[g]? = some (.cells #[.int .i64 ok, .int .u8 on, .int .u64 y0, .int .i64 y1, .int .u64 y2, .int .i64 y3, .int .u32 y4, .int .u64 y5, .slice dva y6.length dvc, .int .u8 ob, .int .i64 om] 36 (0, 0)))
        case first =>
          by_cases hk0 : ok = 0
          · obtain ⟨M, hM1, hM2, hM3⟩ := tmod_nat hn0 (show (0 : Int) < 50 by decide)
            have hwn : IntKind.i64.wrap on = on := IntWalk.i64_in _ (by omega)
            go_wp2_with fail
            go_loopw [9] (fun kv w2 => ∃ (k : Nat) (S' F' : Nat → Prop) (x' : Wn), k ≤ M ∧ kv = .int .i64 k ∧ x'.en ≤ x.en + k ∧ x'.l.length ≤ x.l.length + k ∧ PSt w w2 b rb S' F' x' ∧ w2.heap[g]? = some (.cells #[.int .i64 ok, .int .u8 on, .int .u64 y0, .int .i64 y1, .int .u64 y2, .int .i64 y3, .int .u32 y4, .int .u64 y5, .slice dva y6.length dvc, .int .u8 ob, .int .i64 om] 36 (0, 0)) ∧ ¬ S' g) (fun kv _ => M - (intOf kv).toNat)
            case atStart => exact ⟨0, S, F, x, Nat.zero_le _, rfl, Nat.le_refl _, Nat.le_refl _, HPV.out, HOB.out, hgs.out⟩
            case round =>
              obtain ⟨k, S', F', x', hk, rfl, hxe, hxl, hps, hob, hsg⟩ := hrel
              have HP := Lib.hid hps
              have HO2 := Lib.hid hob
              have HSG := Lib.hid hsg
              clear p0 p1 p2 p3 p4 p5 p6 p7 p8 p9 p10
              obtain ⟨p0, p1, p2, p3, p4, p5, p6, p7, p8, p9, p10⟩ := cells11 hob
              clear hps hob hsg
              by_cases hkM : k < M
              · have hkMi : (k : Int) < (M : Int) := by omega
                have hxb : x'.en + 1 ≤ 4611686018427388000 + 2000 := by omega
                have hwe : IntKind.u64.wrap ((x'.en : Int) + 1) = (x'.en : Int) + 1 := IntWalk.u64_in _ (by omega)
                have hwk : IntKind.i64.wrap ((k : Int) + 1) = (k : Int) + 1 := IntWalk.i64_in _ (by omega)
                have hl5 : x'.l.length < 5000 := by omega
                have HXE := Lib.hid hxe
                have HXL := Lib.hid hxl
                clear hxe hxl hk hkM
                obtain ⟨ru, hrd, hrus⟩ := HP.out.rd
                obtain ⟨ra, rc, rfl⟩ := hrus.form
                have HRD := Lib.hid hrd
                have HRS := Lib.hid hrus
                have HRA := Lib.hid (fun (W : World) (hk : Kept NoB wr W) => RAdd20_any W (.agg #[.int .u64 x'.low, .int .u64 x'.en, .int .u64 x'.done, .slice ra x'.l.length rc]) x' F' ⟨_, rfl, hrus.no hk⟩ (fun k h => Nat.lt_of_lt_of_le (HP.out.fb k h) hk.size) HP.out.st.ok (.agg #[.int .u64 ((x'.en : Int) + 1), .int .i64 1, .int .u64 1, .int .i64 2, .int .u32 0, .int .u64 0, .slice none 0 0]) (oneU ((x'.en : Int) + 1)) ⟨_, rfl, BSl.nil _ _⟩ (oneU_fit (by omega) (by omega)) hl5 (by omega))
                have HAD := Lib.hid (fun (W : World) (hk : Kept NoB wr W) => wst_add w W S' b x' (HP.out.st.no hk) _ (oneU ((x'.en : Int) + 1)) NoB (one_upv W _) (fun _ h => absurd h (fun h => h)) (oneU_fit (by omega) (by omega)) HT.out hl5 (by omega))
                have HYN := Lib.hid (addN_en x' (oneU ((x'.en : Int) + 1)))
                rw [(oneU_add x').1] at HRA HAD
                obtain ⟨y, hy⟩ : ∃ y, y = addN x' (oneU ((x'.en : Int) + 1)) := ⟨_, rfl⟩
                rw [← hy] at HRA HAD HYN
                clear hy hrus
                obtain ⟨rl, re, rd, rll⟩ := y
                obtain ⟨c0, c1, c2, c3⟩ := cells4w hrd
                clear hrd
                have HTEN : Hid (∀ W, Kept NoB wr W → W.cell? ⟨rb, 0, none⟩ = some (.int .u64 x'.low) ∧ W.cell? ⟨rb, 1, none⟩ = some (.int .u64 x'.en) ∧ W.cell? ⟨rb, 2, none⟩ = some (.int .u64 x'.done) ∧ W.cell? ⟨rb, 3, none⟩ = some (.slice ra x'.l.length rc)) := Lib.hid (fun W hk => cells4w (hk.heap (fun h => h) HRD.out))
                go_upto_region 23 with fail
                go_cut [10, 11] from 79 to 104 (fun x10 x11 wc => ∃ (s : Nat) (ua : Option Addr) (uc : Nat), x10 = .pointer (some ⟨s, 0, none⟩) ∧ x11 = .int .i64 0 ∧ wc.heap[s]? = some (.cells #[.int .u64 rl, .int .u64 re, .int .u64 rd, .slice ua rll.length uc] 29 (0, 0)) ∧ UsAt wc (NewOr17 F' wr.heap.size) (.slice ua rll.length uc) rll ∧ wr.heap.size ≤ s ∧ Kept NoB wr wc)
                case first =>
                  have HKc := Lib.hid ((Kept.refl NoB wr).drew)
                  have HTT := Lib.hid (HTEN.out _ HKc.out)
                  have HTA := Lib.hid (HTEN.out (wr.alloc (.cells #[.int .u64 0, .int .u64 0, .int .u64 0, .slice none 0 0] 29)).drew ((Kept.refl NoB wr).alloc _).drew)
                  clear c0 c1 c2 c3
                  go_region_held3 (fun w' => w'.cell? ⟨rb, 0, none⟩ = some (.int .u64 x'.low) ∧ w'.cell? ⟨rb, 1, none⟩ = some (.int .u64 x'.en) ∧ w'.cell? ⟨rb, 2, none⟩ = some (.int .u64 x'.done) ∧ w'.cell? ⟨rb, 3, none⟩ = some (.slice ra x'.l.length rc))
                    (first | (with_reducible exact HTT.out) | (with_reducible exact ⟨cell_alloc HTT.out.1 _, cell_alloc HTT.out.2.1 _, cell_alloc HTT.out.2.2.1 _, cell_alloc HTT.out.2.2.2 _⟩) | (with_reducible exact HTA.out) | (with_reducible exact HTS1.out) | (with_reducible exact HTS2.out) | go_keep)
                    (first
                    | (go_at_call 18; (with_reducible refine (HO.out _ _).mono ?_); rintro e w3 ⟨rfl, hk3⟩; replace HKc := Lib.hid ((by first | exact HKc.out | exact HKc.out.alloc _ | exact ((Kept.refl NoB wr).alloc _).drew : Kept NoB wr _).trans hk3 (fun _ _ h => h)); have HK3 := HKc; replace HTT := Lib.hid (HTEN.out _ HKc.out); (try (have HZ1 : Hid (w3.heap[wr.heap.size]? = some (.cells #[.int .u64 0, .int .u64 0, .int .u64 0, .slice none 0 0] 29 (0, 0))) := Lib.hid (hk3.heap (fun h => h) (by first | exact heap_alloc_new wr _ | exact heap_alloc_new wr.drew _)))); clear hk3)
                    | (go_at_call 17; (with_reducible refine (HRA.out _ (by first | exact HKc.out | exact HKc.out.alloc _)).mono ?_); rintro e w4 ⟨v', rfl, ⟨u', rfl, hu'⟩, hk4⟩; obtain ⟨ua, uc, rfl⟩ := hu'.form; have HU0 := Lib.hid hu'; have HK4 := Lib.hid hk4; replace HKc := Lib.hid ((by first | exact HKc.out | exact HKc.out.alloc _ : Kept NoB wr _).trans hk4 (fun _ _ h => h)); replace HTT := Lib.hid (HTEN.out _ HKc.out); (try (have hz4 := hk4.heap (fun h => h) (by first | exact HZ1.out | exact heap_alloc_new w3 (.cells #[.int .u64 0, .int .u64 0, .int .u64 0, .slice none 0 0] 29)); have fz4 := blkU_frozen hz4; obtain ⟨q0, q1, q2, q3⟩ := cells4w hz4; clear hz4)); have HTS1 := Lib.hid (cells4w (keep4 (s := wr.heap.size) (HKc.out.heap (fun h => h) HRD.out) (by have := HP.out.lt; omega) (.int .u64 rl) (.int .u64 re) (.int .u64 rd) (.slice ua rll.length uc))); have HTS2 := Lib.hid (cells4w (keep4 (s := w3.heap.size) (HKc.out.heap (fun h => h) HRD.out) (by have := HP.out.lt; have := HK3.out.size; omega) (.int .u64 rl) (.int .u64 re) (.int .u64 rd) (.slice ua rll.length uc))); have hnw := heap_alloc_new w4 (.cells #[.int .u64 0, .int .u64 0, .int .u64 0, .slice none 0 0] 29); have fz := blkU_frozen hnw; obtain ⟨z0, z1, z2, z3⟩ := cells4w hnw; clear hu' hk4 hnw))
                  all_goals
                    go_wp2
                    go_meet
                    case rel =>
                      first
                      | with_reducible exact ⟨w4.heap.size, ua, uc, rfl, rfl, heap_alloc_new w4 _, (HU0.out.no ((Kept.refl _ _).alloc _)).mono (fun k _ h => h.imp id (fun h => Nat.le_trans (by first | exact HK3.out.size | exact (HK3.out.alloc _).size) h)), HKc.out.size, HKc.out.alloc _⟩
                      | with_reducible exact (let t := store4 (s := wr.heap.size) HK3.out HK4.out HZ1.out (Nat.le_refl _) HP.out.fb (.int .u64 rl) (.int .u64 re) (.int .u64 rd) HU0.out; ⟨wr.heap.size, ua, uc, rfl, rfl, t.1, t.2.1, Nat.le_refl _, t.2.2⟩)
                      | with_reducible exact (let t := store4 (s := w3.heap.size) (HK3.out.alloc _) HK4.out (heap_alloc_new w3 _) HK3.out.size HP.out.fb (.int .u64 rl) (.int .u64 re) (.int .u64 rd) HU0.out; ⟨w3.heap.size, ua, uc, rfl, rfl, t.1, t.2.1, HK3.out.size, t.2.2⟩)
                      | exact (let t := store4 (s := wr.heap.size) HK3.out HK4.out HZ1.out (Nat.le_refl _) HP.out.fb (.int .u64 rl) (.int .u64 re) (.int .u64 rd) HU0.out; ⟨wr.heap.size, ua, uc, rfl, rfl, t.1, t.2.1, Nat.le_refl _, t.2.2⟩)
                      | exact ⟨w4.heap.size, ua, uc, rfl, rfl, heap_alloc_new w4 _, (HU0.out.no ((Kept.refl _ _).alloc _)).mono (fun k _ h => h.imp id (fun h => Nat.le_trans (by first | exact HK3.out.size | exact (HK3.out.alloc _).size) h)), HKc.out.size, HKc.out.alloc _⟩
                      | exact (let t := store4 (s := w3.heap.size) (HK3.out.alloc _) HK4.out (heap_alloc_new w3 _) HK3.out.size HP.out.fb (.int .u64 rl) (.int .u64 re) (.int .u64 rd) HU0.out; ⟨w3.heap.size, ua, uc, rfl, rfl, t.1, t.2.1, HK3.out.size, t.2.2⟩)
                case rest =>
                  obtain ⟨s, ua, uc, rfl, rfl, hX, hUX, hs4, hKX⟩ := hcut
                  have HX := Lib.hid hX
                  have HUX := Lib.hid hUX
                  have HKX := Lib.hid hKX
                  clear hX hUX hKX c0 c1 c2 c3
                  obtain ⟨c0, c1, c2, c3⟩ := HTEN.out wc HKX.out
                  go_wp2_with fail
                  refine (HO.out _ _).mono ?_
                  rintro e w6 ⟨rfl, hk6⟩
                  have HK6 := Lib.hid (HKX.out.trans hk6 (fun _ _ h => h))
                  have HX6 := Lib.hid (hk6.heap (fun h => h) HX.out)
                  have HU6 := Lib.hid (HUX.out.no hk6)
                  clear hk6 c0 c1 c2 c3
                  go_wp2_with fail
                  refine (HAD.out _ HK6.out).mono ?_
                  rintro e w7 ⟨rfl, S7, hw7, hS7, hk7⟩
                  have hsS : ¬ S' s := fun h => by have := HP.out.st.bound _ h; omega
                  have HX7 := Lib.hid (hk7.heap hsS HX6.out)
                  have HR7 := Lib.hid (hk7.heap HP.out.rs (HK6.out.heap (fun h => h) HRD.out))
                  have HNX := Lib.hid (HP.out.next (x' := ⟨rl, re, rd, rll⟩) HK6.out HU6.out hw7 hS7 hk7)
                  have HS7 := Lib.hid hS7
                  have hs6 := HK6.out.size
                  obtain ⟨c0, c1, c2, c3⟩ := cells4w HX7.out
                  obtain ⟨d0, d1, d2, d3⟩ := cells4w HR7.out
                  have f7 := blkU_frozen HR7.out
                  clear hw7 hS7 hk7 hsS
                  go_wp2
                  obtain ⟨F8, hp8, hk8⟩ := HNX.out
                  have hgl := heap_lt HO2.out
                  go_roundw
                  case rel =>
                    exact ⟨k + 1, S7, F8, ⟨rl, re, rd, rll⟩, by omega, by go_num, (by show re ≤ _; have := HXE.out; have h2 : re ≤ x'.en + 1 := HYN.out.1; omega), (by show rll.length ≤ _; have := HXL.out; have h2 : rll.length ≤ x'.l.length + 1 := HYN.out.2; omega), hp8, hk8.heap (fun h => by rcases h with h | h; exact HSG.out h; exact hgr h) HO2.out, fun h => by rcases HS7.out g h with h | h; exact HSG.out h; omega⟩
                  all_goals (simp [intOf]; omega)
              · obtain rfl : k = M := by omega
                have HXE := Lib.hid hxe
                have HXL := Lib.hid hxl
                clear hxe hxl hk hkM
                go_wp2
                all_goals
                  go_meet
                  case rel => exact ⟨S', F', x', by have := HXE.out; omega, by have := HXL.out; omega, HP.out, HO2.out⟩
          · by_cases hk1 : ok = 1
            · obtain ⟨ru, hrd, hrus⟩ := HPV.out.rd
              obtain ⟨ra, rc, rfl⟩ := hrus.form
              have HRD := Lib.hid hrd
              have hfu : FitU ⟨y0, y1, y2, y3, y4, y5, y6⟩ := HQ.out.fit
              have hl5 : x.l.length < 5000 := by omega
              have HUF : Hid (∀ W, Kept NoB V W → UpV W F (.agg #[.int .u64 y0, .int .i64 y1, .int .u64 y2, .int .i64 y3, .int .u32 y4, .int .u64 y5, .slice dva y6.length dvc]) ⟨y0, y1, y2, y3, y4, y5, y6⟩) := Lib.hid (fun W hk => ⟨_, rfl, (HDD2.out.kept (HPV.out.st.kept.trans hk (fun _ _ h => h)) (fun _ _ h => h)).mono (fun k _ h => HPV.out.old k h)⟩)
              have HRA := Lib.hid (fun (W : World) (hk : Kept NoB V W) => RAdd20_any W (.agg #[.int .u64 x.low, .int .u64 x.en, .int .u64 x.done, .slice ra x.l.length rc]) x F ⟨_, rfl, hrus.no hk⟩ (fun k h => Nat.lt_of_lt_of_le (HPV.out.fb k h) hk.size) HPV.out.st.ok _ ⟨y0, y1, y2, y3, y4, y5, y6⟩ (HUF.out W hk) hfu hl5 (by omega))
              have HAD := Lib.hid (fun (W : World) (hk : Kept NoB V W) => wst_add w W S b x (HPV.out.st.no hk) _ ⟨y0, y1, y2, y3, y4, y5, y6⟩ F (HUF.out W hk) (fun k h => Nat.lt_of_lt_of_le (HPV.out.fb k h) hk.size) hfu HT.out hl5 (by omega))
              have HYN := Lib.hid (addN_en x ⟨y0, y1, y2, y3, y4, y5, y6⟩)
              obtain ⟨y, hy⟩ : ∃ y, y = addN x ⟨y0, y1, y2, y3, y4, y5, y6⟩ := ⟨_, rfl⟩
              obtain ⟨ec, hec⟩ : ∃ z, z = addC x ⟨y0, y1, y2, y3, y4, y5, y6⟩ := ⟨_, rfl⟩
              rw [← hy] at HRA HAD HYN
              rw [← hec] at HRA HAD
              clear hy hec hrus hfu
              obtain ⟨rl, re, rd, rll⟩ := y
              have HTEN : Hid (∀ W, Kept NoB V W → W.cell? ⟨rb, 0, none⟩ = some (.int .u64 x.low) ∧ W.cell? ⟨rb, 1, none⟩ = some (.int .u64 x.en) ∧ W.cell? ⟨rb, 2, none⟩ = some (.int .u64 x.done) ∧ W.cell? ⟨rb, 3, none⟩ = some (.slice ra x.l.length rc)) := Lib.hid (fun W hk => cells4w (hk.heap (fun h => h) HRD.out))
              obtain ⟨c0, c1, c2, c3⟩ := cells4w hrd
              clear hrd
              go_wp2_with fail
              refine (HRA.out _ (Kept.refl _ _)).mono ?_
              rintro e w4 ⟨v', rfl, ⟨u', rfl, hu'⟩, hk4⟩
              obtain ⟨ua, uc, rfl⟩ := hu'.form
              obtain ⟨X, hX⟩ : ∃ X, X = w4.alloc (.cells #[.int .u64 rl, .int .u64 re, .int .u64 rd, .slice ua rll.length uc] 29) := ⟨_, rfl⟩
              have HX := Lib.hid (show X.heap[w4.heap.size]? = some (.cells #[.int .u64 rl, .int .u64 re, .int .u64 rd, .slice ua rll.length uc] 29 (0, 0)) by rw [hX]; exact heap_alloc_new w4 _)
              have HKX : Hid (Kept NoB V X) := Lib.hid (by rw [hX]; exact hk4.alloc _)
              have HUX : Hid (UsAt X (NewOr17 F V.heap.size) (.slice ua rll.length uc) rll) := Lib.hid (by rw [hX]; exact hu'.no ((Kept.refl _ _).alloc _))
              have hs4 := hk4.size
              have HXE := Lib.hid hX
              clear hu' hk4 hX p0 p1 p2 p3 p4 p5 p6 p7 p8 p9 p10
              have HOX := Lib.hid (HKX.out.heap (fun h => h) HOB.out)
              obtain ⟨p0, p1, p2, p3, p4, p5, p6, p7, p8, p9, p10⟩ := cells11 HOX.out
              clear c0 c1 c2 c3
              obtain ⟨c0, c1, c2, c3⟩ := HTEN.out X HKX.out
              go_upto_region 29 with fail
              rw [← HXE.out]
              go_wp2_with fail
              refine (HAD.out _ HKX.out).mono ?_
              rintro e w7 ⟨rfl, S7, hw7, hS7, hk7⟩
              have hsS : ¬ S w4.heap.size := fun h => by have := HPV.out.st.bound _ h; omega
              have HX7 := Lib.hid (hk7.heap hsS HX.out)
              have HR7 := Lib.hid (hk7.heap HPV.out.rs (HKX.out.heap (fun h => h) HRD.out))
              have HNX := Lib.hid (HPV.out.next (x' := ⟨rl, re, rd, rll⟩) HKX.out HUX.out hw7 hS7 hk7)
              clear c0 c1 c2 c3
              obtain ⟨c0, c1, c2, c3⟩ := cells4w HX7.out
              obtain ⟨d0, d1, d2, d3⟩ := cells4w HR7.out
              have f7 := blkU_frozen HR7.out
              clear hw7 hS7 hk7 hsS
              go_wp2
              all_goals
                go_meet
                case rel =>
                  obtain ⟨F8, hp8, hk8⟩ := HNX.out
                  exact ⟨S7, F8, ⟨rl, re, rd, rll⟩, (by show re ≤ _; have h2 : re ≤ x.en + 1 := HYN.out.1; omega), (by show rll.length ≤ _; have h2 : rll.length ≤ x.l.length + 1 := HYN.out.2; omega), hp8, hk8.heap (fun h => by rcases h with h | h; exact hgs.out h; exact hgr h) HOB.out⟩
            · have key : ∀ (d : Nat), Hid (∀ W, Kept NoB V W → ∃ (L : List Up) (y : Wn), L = outW x d ∧ y = reachW x d) := fun d => Lib.hid (fun W _ => ⟨_, _, rfl, rfl⟩)
              obtain ⟨ru, hrd, hrus⟩ := HPV.out.rd
              obtain ⟨ra, rc, rfl⟩ := hrus.form
              have HRD := Lib.hid hrd
              obtain ⟨N, hN⟩ := Int.eq_ofNat_of_zero_le hn0
              obtain ⟨T, hT1, hT2, hT3⟩ := tmod_nat hn0 (show (0 : Int) < 20 by decide)
              have hwn : IntKind.u64.wrap on = on := IntWalk.u64_in _ (by omega)
              have hws : IntKind.u64.wrap ((x.done : Int) + (T : Int)) = (x.done : Int) + (T : Int) := IntWalk.u64_in _ (by have := HPV.out.st.ok.de; omega)
              obtain ⟨d, hd⟩ : ∃ d : Nat, (d : Int) = if ok = 2 then (x.done : Int) + T else on := by
                by_cases h2 : ok = 2
                · exact ⟨x.done + T, by rw [if_pos h2]; omega⟩
                · exact ⟨N, by rw [if_neg h2]; omega⟩
              have HD := Lib.hid hd
              have HRR := Lib.hid (RReach20_any V (.agg #[.int .u64 x.low, .int .u64 x.en, .int .u64 x.done, .slice ra x.l.length rc]) x d F ⟨_, rfl, hrus⟩ HPV.out.fb HPV.out.st.ok)
              have HWR := Lib.hid (fun (W : World) (hk : Kept NoB V W) => wst_reach w W S b x (HPV.out.st.no hk) d)
              have HYN := Lib.hid (reachW_en x d)
              obtain ⟨y, hy⟩ : ∃ y, y = reachW x d := ⟨_, rfl⟩
              obtain ⟨L, hL⟩ : ∃ L, L = outW x d := ⟨_, rfl⟩
              rw [← hy] at HRR HWR HYN
              rw [← hL] at HRR HWR
              clear hy hL hrus key hN hd
              obtain ⟨rl, re, rd, rll⟩ := y
              have HTEN : Hid (∀ W, Kept NoB V W → W.cell? ⟨rb, 0, none⟩ = some (.int .u64 x.low) ∧ W.cell? ⟨rb, 1, none⟩ = some (.int .u64 x.en) ∧ W.cell? ⟨rb, 2, none⟩ = some (.int .u64 x.done) ∧ W.cell? ⟨rb, 3, none⟩ = some (.slice ra x.l.length rc)) := Lib.hid (fun W hk => cells4w (hk.heap (fun h => h) HRD.out))
              obtain ⟨c0, c1, c2, c3⟩ := cells4w hrd
              clear hrd
              go_upto_if 56 with fail
              go_cut [14] from 29 to 159 (fun x14 wc => x14 = .int .u64 (d : Int) ∧ wc = V)
              case first =>
                by_cases h2 : ok = 2
                · have hE : (d : Int) = (x.done : Int) + (T : Int) := by rw [HD.out, if_pos h2]
                  go_wp2
                  all_goals
                    go_meet
                    case rel => exact ⟨by first | rfl | (rw [hE]; done) | (congr 1; omega), rfl⟩
                · have hE : (d : Int) = on := by rw [HD.out, if_neg h2]
                  go_wp2
                  all_goals
                    go_meet
                    case rel => exact ⟨by first | rfl | (rw [hE]; done) | (congr 1; omega), rfl⟩
              case rest =>
                obtain ⟨rfl, rfl⟩ := hcut
                clear hwn hws hT1 hT2 hT3
                go_wp2_with fail
                refine HRR.out.mono ?_
                rintro e w4 ⟨v', oa, oc, rfl, ⟨u', rfl, hu'⟩, hout, hk4⟩
                obtain ⟨ua, uc, rfl⟩ := hu'.form
                obtain ⟨X, hX⟩ : ∃ X, X = w4.alloc (.cells #[.int .u64 rl, .int .u64 re, .int .u64 rd, .slice ua rll.length uc] 29) := ⟨_, rfl⟩
                have HX := Lib.hid (show X.heap[w4.heap.size]? = some (.cells #[.int .u64 rl, .int .u64 re, .int .u64 rd, .slice ua rll.length uc] 29 (0, 0)) by rw [hX]; exact heap_alloc_new w4 _)
                have HKX : Hid (Kept NoB wc X) := Lib.hid (by rw [hX]; exact hk4.alloc _)
                have HUX : Hid (UsAt X (NewOr17 F wc.heap.size) (.slice ua rll.length uc) rll) := Lib.hid (by rw [hX]; exact hu'.no ((Kept.refl _ _).alloc _))
                have HOX2 : Hid (UsAt X (fun k => NewOr17 F wc.heap.size k ∧ k < X.heap.size) (.slice oa L.length oc) L) := Lib.hid ((show UsAt X (NewOr17 F wc.heap.size) (.slice oa L.length oc) L by rw [hX]; exact hout.no ((Kept.refl _ _).alloc _)).mono (fun k hk h => ⟨h, hk⟩))
                have hs4 := hk4.size
                have HXE := Lib.hid hX
                clear hu' hk4 hX hout p0 p1 p2 p3 p4 p5 p6 p7 p8 p9 p10 c0 c1 c2 c3
                have HOX := Lib.hid (HKX.out.heap (fun h => h) HOB.out)
                go_upto_region 16 with fail
                rw [← HXE.out]
                go_wp2_with fail
                refine (HWR.out _ HKX.out).mono ?_
                rintro e w7 ⟨ra7, rc7, rfl, hu7, hw7, hk7⟩
                have hsS : ¬ S w4.heap.size := fun h => by have := HPV.out.st.bound _ h; omega
                have HX7 := Lib.hid (hk7.heap hsS HX.out)
                have HR7 := Lib.hid (hk7.heap HPV.out.rs (HKX.out.heap (fun h => h) HRD.out))
                have HO7 := Lib.hid (HOX2.out.kept hk7 (fun k h hS => by
                  have hb := HPV.out.st.bound k hS
                  rcases h.1 with h1 | h1
                  · exact HPV.out.fs k h1 hS
                  · omega))
                have HSU := Lib.hid (RSameUpdates_any w7 _ _ L L _ _ hu7 HO7.out)
                have HNX := Lib.hid (fun w8 (hk8 : Kept NoB w7 w8) => HPV.out.next (x' := ⟨rl, re, rd, rll⟩) HKX.out HUX.out (hw7.no hk8) (fun k h => .inl h) (hk7.trans hk8 (fun _ _ h => absurd h (fun h => h))))
                clear hu7 hw7 hk7 hsS
                have hdec : decide (L = L) = true := decide_eq_true rfl
                rw [hdec] at HSU
                go_wp2_with fail
                refine HSU.out.mono ?_
                rintro e w8 ⟨rfl, hk8⟩
                have HNX8 := Lib.hid (HNX.out w8 hk8)
                obtain ⟨c0, c1, c2, c3⟩ := cells4w (hk8.heap (fun h => h) HX7.out)
                have HR8 := Lib.hid (hk8.heap (fun h => h) HR7.out)
                obtain ⟨d0, d1, d2, d3⟩ := cells4w HR8.out
                have f7 := blkU_frozen HR8.out
                clear hk8
                go_wp2
                all_goals
                  go_meet
                  case rel =>
                    obtain ⟨F8, hp8, hk8⟩ := HNX8.out
                    exact ⟨S, F8, ⟨rl, re, rd, rll⟩, (by show re ≤ _; have h2 : re = x.en := HYN.out.1; omega), (by show rll.length ≤ _; have h2 : rll.length ≤ x.l.length := HYN.out.2; omega), hp8, hk8.heap (fun h => by rcases h with h | h; exact hgs.out h; exact hgr h) HOB.out⟩
        case rest =>
          obtain ⟨S2, F2, x2, hen2, hll2, hp2, hob2⟩ := hcut
          obtain ⟨ru, hrd, hrus⟩ := hp2.rd
          obtain ⟨ra, rc, rfl⟩ := hrus.form
          obtain ⟨T, hT1, hT2, hT3⟩ := tmod_nat hb0 (show (0 : Int) < 60 by decide)
          have hwb : IntKind.u64.wrap ob = ob := IntWalk.u64_in _ (by omega)
          have hwe : IntKind.u64.wrap ((x2.en : Int) + 1) = (x2.en : Int) + 1 := IntWalk.u64_in _ (by omega)
          obtain ⟨gt, hgt⟩ := u64_nat ((x2.en : Int) + 1 - (T : Int))
          have HP2 := Lib.hid hp2
          have HRD := Lib.hid hrd
          have HO2 := Lib.hid hob2
          have HFR := Lib.hid (fun (W : World) (hk : Kept NoB wc W) => WFrom_any W S2 b x2 (hp2.st.at_.no hk) hp2.st.ok gt om)
          have HRF := Lib.hid (fun (W : World) (hk : Kept NoB wc W) => RFrom20_any W (.agg #[.int .u64 x2.low, .int .u64 x2.en, .int .u64 x2.done, .slice ra x2.l.length rc]) x2 gt om F2 ⟨_, rfl, hrus.no hk⟩ (fun k h => Nat.lt_of_lt_of_le (hp2.fb k h) hk.size) hp2.st.ok)
          have HSM := Lib.hid (fun (W : World) (hk : Kept NoB wc W) => same20_any W S2 b x2 (hp2.st.at_.no hk) hp2.st.ok (.agg #[.int .u64 x2.low, .int .u64 x2.en, .int .u64 x2.done, .slice ra x2.l.length rc]) F2 ⟨_, rfl, hrus.no hk⟩)
          obtain ⟨L, hL⟩ : ∃ L, L = fromL x2 gt om := ⟨_, rfl⟩
          obtain ⟨I, hI⟩ : ∃ I, I = inB x2 gt := ⟨_, rfl⟩
          rw [← hL, ← hI] at HFR HRF
          have HTEN : Hid (∀ W, Kept NoB wc W → (W.cell? ⟨rb, 0, none⟩ = some (.int .u64 x2.low) ∧ W.cell? ⟨rb, 1, none⟩ = some (.int .u64 x2.en) ∧ W.cell? ⟨rb, 2, none⟩ = some (.int .u64 x2.done) ∧ W.cell? ⟨rb, 3, none⟩ = some (.slice ra x2.l.length rc)) ∧ W.cell? ⟨g, 3 + 6, none⟩ = some (.int .u8 ob) ∧ W.cell? ⟨g, 9, none⟩ = some (.int .u8 ob) ∧ W.cell? ⟨g, 10, none⟩ = some (.int .i64 om)) := Lib.hid (fun W hk => by
            obtain ⟨_, _, _, _, _, _, _, _, _, q9, q10⟩ := cells11 (hk.heap (fun h => h) HO2.out)
            exact ⟨cells4w (hk.heap (fun h => h) HRD.out), q9, q9, q10⟩)
          have hII : (I != I) = false := by cases I <;> rfl
          have HE2 := Lib.hid hen2
          have HL2 := Lib.hid hll2
          clear hp2 hob2 hrd hrus hL hI hen2 hll2 p0 p1 p2 p3 p4 p5 p6 p7 p8 p9 p10
          obtain ⟨⟨c0, c1, c2, c3⟩, _, q9, q10⟩ := HTEN.out wc (Kept.refl _ _)
          go_wp2_with fail
          refine (HFR.out _ (Kept.refl _ _)).mono ?_
          rintro e w5 ⟨fa, fc, rfl, hu5, hk5⟩
          have HK5 := Lib.hid hk5
          have HU5 := Lib.hid hu5
          clear hk5 hu5 c0 c1 c2 c3 q9 q10
          obtain ⟨⟨c0, c1, c2, c3⟩, _, q9, q10⟩ := HTEN.out w5 HK5.out
          go_wp2_with fail
          refine (HRF.out _ HK5.out).mono ?_
          rintro e w6 ⟨v6, rfl, hu6, hk6⟩
          obtain ⟨ga, gc, rfl⟩ := hu6.form
          have HK6 := Lib.hid (HK5.out.trans hk6 (fun _ _ h => h))
          have HU6 := Lib.hid hu6
          have HU5b := Lib.hid (HU5.out.no hk6)
          clear hk6 hu6 c0 c1 c2 c3 q9 q10
          obtain ⟨⟨c0, c1, c2, c3⟩, _, q9, q10⟩ := HTEN.out w6 HK6.out
          go_wp2_with fail
          refine (HSM.out _ HK6.out).mono ?_
          rintro e w7 ⟨rfl, hk7⟩
          have HK7 := Lib.hid (HK6.out.trans hk7 (fun _ _ h => h))
          have HSU := Lib.hid (RSameUpdates_any w7 _ _ L L _ _ (HU5b.out.no hk7) (HU6.out.no hk7))
          rw [show decide (L = L) = true from decide_eq_true rfl] at HSU
          clear hk7
          go_wp2_with fail
          refine HSU.out.mono ?_
          rintro e w8 ⟨rfl, hk8⟩
          have HP8 := Lib.hid (HP2.out.no (HK7.out.trans hk8 (fun _ _ h => h)))
          clear hk8
          go_wp2
          go_roundw
          case rel => exact ⟨i + 1, S2, F2, x2, by omega, by omega, by go_num, HE2.out, HL2.out, HP8.out⟩
          all_goals (simp [intOf]; omega)
      · obtain rfl : i = 40 := by omega
        clear hi hi40
        go_wp2_with fail
        refine (H9.out _ HST.out.st.kept).mono ?_
        rintro e w2 ⟨rfl, hk2⟩
        have HK2 := Lib.hid (HST.out.st.kept.trans hk2 (fun _ _ h => h))
        clear hk2
        go_wp2
        go_ret
        exact ⟨rfl, HK2.out⟩
    · have hini : ¬ (i : Int) < (n : Int) := by omega
      go_wp2_with fail
      refine (H9.out _ HST.out.st.kept).mono ?_
      rintro e w2 ⟨rfl, hk2⟩
      have HK2 := Lib.hid (HST.out.st.kept.trans hk2 (fun _ _ h => h))
      clear hk2
      go_wp2
      go_ret
      exact ⟨rfl, HK2.out⟩
end Go.Proofs.YtabjpmkkigflmaaGreatDoor
