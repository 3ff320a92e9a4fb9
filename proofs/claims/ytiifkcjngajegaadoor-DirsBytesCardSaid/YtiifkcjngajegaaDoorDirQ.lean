/-
  Layer 29: Get of the package.
-/
import Derived.Test.YtiifkcjngajegaaDoorDirP
import Derived.BigRegion
import Derived.Deep.RegionLaw
import Derived.Deep.RegionHeld3
namespace Go.Proofs.YtiifkcjngajegaaDoor
open Go.RowKit
set_option linter.unusedVariables false

theorem get_le29 {s : ISt} (hB : IsB s.l) {w : Nat} (h1 : 1 ≤ w) (h8 : w ≤ 8) : 0 ≤ (s.get (w : Int)).2 ∧ (s.get (w : Int)).2 < ((256 ^ w : Nat) : Int) := by
  unfold ISt.get
  rw [if_neg (by omega)]
  by_cases he : s.err = 0
  · by_cases hl : (s.l.length : Int) < (w : Int)
    · have hr : s.raw (w : Int) = (⟨[], 3⟩, []) := by unfold ISt.raw; rw [if_pos he, if_neg (by omega), if_pos hl]
      rw [hr]
      have := Nat.pow_pos (n := w) (show 0 < 256 by decide)
      exact ⟨Int.le_refl _, by show (0 : Int) < _; omega⟩
    · have hr : s.raw (w : Int) = (⟨s.l.drop w, 0⟩, s.l.take w) := by unfold ISt.raw; rw [if_pos he, if_neg (by omega), if_neg hl, Int.toNat_natCast]
      rw [hr]
      have := num_lt _ (hB.take w)
      rw [List.length_take, Nat.min_eq_left (by omega)] at this
      exact ⟨by show (0 : Int) ≤ (num _ : Int); omega, Int.ofNat_lt.2 this⟩
  · have hr : s.raw (w : Int) = (s, []) := by unfold ISt.raw; rw [if_neg he]
    rw [hr]
    have := Nat.pow_pos (n := w) (show 0 < 256 by decide)
    exact ⟨Int.le_refl _, by show (0 : Int) < _; omega⟩
/-- What is got has these bytes. -/
theorem gqsE_names (n : Nat) (s : ISt) : ∀ p ∈ (gqsE n s).2, p.1.length ≤ 11 := by
  induction n with
  | zero => intro p hp; cases hp
  | succ n ih =>
    intro p hp
    have hp : p ∈ (gqsE n s).2 ++ [(gqE (gqsE n s).1).2] := hp
    rcases List.mem_append.1 hp with hp | hp
    · exact ih p hp
    · rw [List.mem_singleton] at hp
      rw [hp]
      unfold gqE
      simp only
      rw [bytesU_len, List.length_take]
      have := upto_le29 (gqsE n s).1
      omega
theorem up_raw29 (s : ISt) (h : s.err ≠ 0 ∨ ∃ b, s = ⟨b, 0⟩ ∧ IsB b ∧ 16 ≤ b.length) : (s.upto 1 11).2.toNat ≤ ((s.upto 1 11).1.raw 11).2.length := by
  rcases h with h | ⟨b, rfl, hB, hl⟩
  · rw [upto_err29 h]; exact Nat.zero_le _
  · rw [upto_ok29 hB (by omega)]
    split
    · exact Nat.zero_le _
    · rename_i h
      have hr : (⟨b.drop 1, 0⟩ : ISt).raw 11 = ((⟨(b.drop 1).drop 11, 0⟩ : ISt), (b.drop 1).take 11) := by
        unfold ISt.raw
        rw [if_pos rfl, if_neg (by omega), if_neg (by show ¬ ((b.drop 1).length : Int) < 11; rw [List.length_drop]; omega)]
        rfl
      simp only [hr]
      rw [List.length_take, List.length_drop]
      omega
theorem BSl.no29 {w w' : World} {F : Nat → Prop} {v : Value} {l : List Int} (h : BSl w F v l) (hk : Kept NoB w w') : BSl w' F v l := h.kept hk (fun _ _ h => h)
theorem InAt.isB29 {w : World} {F : Nat → Prop} {g : Nat} {s : ISt} (h : InAt w F g s) : IsB s.l := by obtain ⟨_, _, v, _, hb⟩ := h; exact hb.isB
theorem frz2 {w : World} {g : Nat} {ps : List En} (h : RowE w g ps) (o : Nat) : w.frozen? ⟨g, o, none⟩ = false := by unfold RowE at h; simp [World.frozen?, h]
def EGetRel (w : World) (F : Nat → Prop) (g r nn : Nat) (S : ISt) (iv : Value) (wr : World) : Prop :=
  ∃ k : Nat, k ≤ nn ∧ iv = .int .i64 k ∧ RowE wr r ((gqsE k S).2 ++ List.replicate (nn - k) ([], 0)) ∧ InAt wr F g (gqsE k S).1 ∧ Kept (fun i => w.heap.size ≤ i) w wr
set_option maxRecDepth 100000 in
set_option maxHeartbeats 20000000 in
theorem vGet29_any (v : Value) (bs : List Int) (F : Nat → Prop) (w : World) (h : BSl w F v bs) (hl : bs.length ≤ 1000000) :
    Calls Tryd.prog 15 #[v] w (GetE29 (gotE bs).1 (gotE bs).2 w) := by
  obtain ⟨i0, hi0, hz0, hz1, hz2⟩ := info_parts info_en
  obtain ⟨a, cap, rfl, _⟩ := id h
  have hIB := h.isB
  have HB := Lib.hid h
  by_cases h5 : 512 < bs.length
  · have hg : gotE bs = (17, []) := by unfold gotE; rw [if_pos h5]
    rw [hg]
    have g1 : (512 : Int) < (bs.length : Int) := by omega
    clear h5 hg h hl hIB
    go_enter Tryd.func15, Tryd.ntmps15
    go_wp2
    exact bodyPost_ret (v := .tuple #[.slice none 0 0, .int .i64 17]) (by simp [results, Tryd.results15, go_sem]) rfl (GetE29.nil rfl (Kept.refl _ _))
  · by_cases h16 : bs.length % 16 ≠ 0
    · have hg : gotE bs = (3, []) := by unfold gotE; rw [if_neg h5, if_pos h16]
      rw [hg]
      have g1 : (bs.length : Int) ≤ 512 := by omega
      have g2 : decide ((512 : Int) < (bs.length : Int)) = false := decide_eq_false (by omega)
      have g5 : ((bs.length : Int) % 16 != 0) = true := by simpa using (show ¬ (bs.length : Int) % 16 = 0 by omega)
      clear h5 h16 hg h hl hIB
      go_enter Tryd.func15, Tryd.ntmps15
      go_wp2
      exact bodyPost_ret (v := .tuple #[.slice none 0 0, .int .i64 3]) (by simp [results, Tryd.results15, go_sem]) rfl (GetE29.nil rfl (Kept.refl _ _))
    · have HG := Lib.hid (gotE_gq hIB h5 h16)
      obtain ⟨nn, hnn⟩ : ∃ n, n = bs.length / 16 := ⟨_, rfl⟩
      rw [← hnn] at HG
      have hlen : bs.length = 16 * nn := by omega
      have hn32 : nn ≤ 32 := by omega
      obtain ⟨NB, hNB⟩ : ∃ n, n = bs.length := ⟨_, rfl⟩
      rw [← hNB] at hlen h5 h16 HB ⊢
      have HNB := Lib.hid hNB
      have g1 : (NB : Int) ≤ 512 := by omega
      have g2 : decide ((512 : Int) < (NB : Int)) = false := decide_eq_false (by omega)
      have e3 : (NB : Int) % 16 = 0 := by omega
      have e4 : (NB : Int) / 16 = (nn : Int) := by omega
      have e5 : IntKind.i64.wrap (nn : Int) = (nn : Int) := IntWalk.i64_in _ (by omega)
      have HI := Lib.hid hIB
      have HLEN := Lib.hid hlen
      have hl0 : bs.length ≤ 1000000 := hl
      clear hlen hl h5 h16 hnn h hNB hIB
      go_enter Tryd.func15, Tryd.ntmps15
      go_wp2_with (first
        | (go_at_call 43; refine (Of_any _ bs F _ HB.out hl0).mono ?_; rintro e w1 ⟨g, rfl, hg1, hg2, hin, hk⟩; have HIN := Lib.hid hin; have HK1 := Lib.hid hk; clear hin hk)
        | (at_make; refine wpList_make_full _ rfl (.tmp 22) (.tmp 22) 27 rfl w1.heap.size 47 i0 _ 2 Tryd.underlying27 hi0 hz0 hz1 .i64 .i64 _ _ nn rfl rfl rfl rfl (by rw [hz2]; omega) (by unfold maxLen; omega) (Nat.le_refl _) ?_; intro w4 hown hgrow; have HOW := Lib.hid hown; have hkm : Kept NoB w1 w4 := (Kept.refl NoB w1).grown hgrow (fun k hk => by cases hk); have HKM := Lib.hid hkm; replace HIN := Lib.hid (HIN.out.kept hkm (fun _ _ h => h) (fun h => h)); clear hown hgrow hkm))
      have hz1s := HK1.out.size
      have hz4s := HKM.out.size
      have hrow : RowE w4 w1.heap.size (List.replicate nn ([], 0)) := RowE.made HOW.out
      have hk04 : Kept (fun i => w.heap.size ≤ i) w w4 := ((HK1.out.mono (T := fun i => w.heap.size ≤ i) (fun _ _ h => h.elim)).trans HKM.out (fun i hi h => h.elim))
      have hin6 := HIN.out
      obtain ⟨FI, hFI⟩ : ∃ FI : Nat → Prop, FI = (fun k => w.heap.size ≤ k ∧ k < g) := ⟨_, rfl⟩
      rw [← hFI] at hin6
      have HFI : Hid (∀ k, FI k → w.heap.size ≤ k ∧ k < g) := Lib.hid (fun k h => by rw [hFI] at h; exact h)
      obtain ⟨r, hr⟩ : ∃ r, r = w1.heap.size := ⟨_, rfl⟩
      have hrg : g < r := by omega
      rw [← hr] at hrow ⊢
      have hrw : r < w4.heap.size := heap_lt hrow
      have H0 : Hid (EGetRel w FI g r nn ⟨bs, 0⟩ (.int .i64 0) w4) := Lib.hid ⟨0, Nat.zero_le _, rfl, by rw [Nat.sub_zero]; exact hrow, hin6, hk04⟩
      have hWZ : w.heap.size ≤ g := by omega
      clear hk04 hrow hin6 hFI HIN HOW HKM HK1 hr hrw hz1s hz4s
      go_wp2_with fail
      go_loopw [26] (fun i wr => EGetRel w FI g r nn ⟨bs, 0⟩ i wr) (fun i _ => nn - (RowKit.intOf i).toNat)
      case atStart => exact H0.out
      case round =>
        obtain ⟨k, hk, rfl, hrow, hi, hK⟩ := hrel
        have hk0 : (0 : Int) ≤ (k : Int) := by omega
        have HRW := Lib.hid hrow
        have HI0 := Lib.hid hi
        have HK := Lib.hid hK
        by_cases hlt : k < nn
        · have hk1 : (k : Int) < (nn : Int) := by omega
          have HG1 : Hid (gqsE (k + 1) ⟨bs, 0⟩ = ((gqE (gqsE k ⟨bs, 0⟩).1).1, (gqsE k ⟨bs, 0⟩).2 ++ [(gqE (gqsE k ⟨bs, 0⟩).1).2])) := Lib.hid rfl
          have hst : (gqsE k ⟨bs, 0⟩).1.err ≠ 0 ∨ ∃ b, (gqsE k ⟨bs, 0⟩).1 = ⟨b, 0⟩ ∧ IsB b ∧ 16 ≤ b.length := by
            have hle := HLEN.out
            have hbe := HNB.out
            rcases gqsE_state k bs HI.out (by omega) with h | h
            · exact .inr ⟨_, h, isB_drop29 HI.out _, by rw [List.length_drop]; omega⟩
            · exact .inl h
          have hLl := gqsE_len k ⟨bs, 0⟩
          obtain ⟨t0, ht0⟩ : ∃ t, t = (gqsE k ⟨bs, 0⟩).1 := ⟨_, rfl⟩
          obtain ⟨L, hL⟩ : ∃ t, t = (gqsE k ⟨bs, 0⟩).2 := ⟨_, rfl⟩
          rw [← ht0, ← hL] at HG1
          rw [← ht0] at HI0 hst
          rw [← hL] at HRW hLl
          have hur := up_raw29 t0 hst
          have hm11 := upto_le29 t0
          have hgx : gqE t0 = ((((t0.upto 1 11).1.raw 11).1.get 4).1, (bytesU (((t0.upto 1 11).1.raw 11).2.take (t0.upto 1 11).2.toNat), (((t0.upto 1 11).1.raw 11).1.get 4).2)) := rfl
          have HC0 : Hid (∀ w', InAt w' FI g t0 → Calls Tryd.prog 44 #[.pointer (some ⟨g, 0, none⟩), .int .i64 1, .int .u64 11] w' fun r w'' => r = .returned (.int .u64 (t0.upto 1 11).2) ∧ InAt w'' FI g (t0.upto 1 11).1 ∧ Kept (Only g) w' w'') := Lib.hid (fun w' h => Upto_any g t0 1 11 FI w' h (by decide))
          obtain ⟨t1, ht1⟩ : ∃ t, t = (t0.upto 1 11).1 := ⟨_, rfl⟩
          obtain ⟨m, hm⟩ : ∃ v, v = (t0.upto 1 11).2 := ⟨_, rfl⟩
          rw [← ht1, ← hm] at hgx HC0 hur
          rw [← hm] at hm11
          have HC1 : Hid (∀ w', InAt w' FI g t1 → Calls Tryd.prog 45 #[.pointer (some ⟨g, 0, none⟩), .int .i64 11] w' fun r w'' => ∃ v, r = .returned v ∧ InAt w'' FI g (t1.raw 11).1 ∧ BSl w'' FI v (t1.raw 11).2 ∧ Kept (Only g) w' w'') := Lib.hid (fun w' h => InRaw_any g t1 11 FI w' h (by decide))
          obtain ⟨t2, ht2⟩ : ∃ t, t = (t1.raw 11).1 := ⟨_, rfl⟩
          obtain ⟨nb, hnb⟩ : ∃ v, v = (t1.raw 11).2 := ⟨_, rfl⟩
          rw [← ht2, ← hnb] at hgx HC1
          rw [← hnb] at hur
          have HC2 : Hid (∀ w', InAt w' FI g t2 → Calls Tryd.prog 46 #[.pointer (some ⟨g, 0, none⟩), .int .i64 4] w' fun r w'' => r = .returned (.int .u64 (t2.get 4).2) ∧ InAt w'' FI g (t2.get 4).1 ∧ Kept (Only g) w' w'') := Lib.hid (fun w' h => Get_any g t2 4 FI w' h)
          have HBD : Hid (∀ w', InAt w' FI g t2 → 0 ≤ (t2.get 4).2 ∧ (t2.get 4).2 < 4294967296) := Lib.hid (fun w' h => get_le29 (w := 4) h.isB29 (by omega) (by omega))
          obtain ⟨t3, ht3⟩ : ∃ t, t = (t2.get 4).1 := ⟨_, rfl⟩
          obtain ⟨nd, hnd⟩ : ∃ v, v = (t2.get 4).2 := ⟨_, rfl⟩
          rw [← ht3, ← hnd] at hgx HC2
          rw [← hnd] at HBD
          obtain ⟨mn, rfl⟩ := Int.eq_ofNat_of_zero_le hm11.1
          rw [Int.toNat_natCast] at hgx hur
          have hm1 : (mn : Int) ≤ 11 := hm11.2
          have hm0 : (0 : Int) ≤ (mn : Int) := by omega
          obtain ⟨sx, hsx⟩ : ∃ sx : ByteArray, sx = ⟨(bytesU (nb.take mn)).toArray⟩ := ⟨_, rfl⟩
          have HSX := Lib.hid hsx
          have HGX := Lib.hid hgx
          have HLL := Lib.hid hLl
          have HUR := Lib.hid hur
          clear hrow hi hK hst ht0 hL hgx ht1 hm ht2 hnb ht3 hnd hm11 hsx hLl hur
          go_wp2_with fail
          refine (HC0.out wr HI0.out).mono ?_
          rintro e g1 ⟨rfl, hi1, hk1'⟩
          have HIx1 := Lib.hid hi1
          have HKx1 := Lib.hid hk1'
          clear hi1 hk1'
          go_wp2_with fail
          refine (HC1.out g1 HIx1.out).mono ?_
          rintro e g2 ⟨u, rfl, hi2, hu2, hk2'⟩
          have HIx2 := Lib.hid hi2
          have HKx2 := Lib.hid (HKx1.out.trans hk2' (fun _ _ h => h))
          obtain ⟨ua, uc, rfl, q1, q2, q3, q4⟩ := hu2
          have HTK := Lib.hid (bsl_take q1 q2 q3 q4 HUR.out)
          have HCV : Hid (∀ w', BSl w' FI (.slice ua mn uc) (nb.take mn) → (convert 29 9 (.slice ua mn uc)).run Tryd.prog w' = .ok (.string sx) w') := Lib.hid (fun w' h => by rw [HSX.out]; exact h.conv29 29 5 9 Tryd.underlying29 Tryd.underlying5 Tryd.underlying9)
          have hbd := HBD.out _ HIx2.out
          have hw1 : IntKind.i64.wrap nd = nd := IntWalk.i64_in _ (by omega)
          have hR3 : RowE g2 r (L ++ List.replicate (nn - k) ([], 0)) := HKx2.out.heap (fun h => by have h : r = g := h; omega) HRW.out
          have HR3 := Lib.hid hR3
          have hul : mn ≤ uc := by have := HUR.out; omega
          have hul2 : (mn : Int) ≤ (uc : Int) := by omega
          have hrlen : k < (L ++ List.replicate (nn - k) (([], 0) : En)).length := by rw [List.length_append, List.length_replicate, HLL.out]; omega
          have c1 := HCV.out g2.drew (HTK.out.kept (Kept.refl NoB g2).drew (fun _ _ h => h))
          have HRL := Lib.hid hrlen
          have HI2D := Lib.hid (HIx2.out.kept (Kept.refl NoB g2).drew (fun _ _ h => h) (fun h => h))
          clear hi2 hk2' hbd hR3 hrlen q1 q2 q3 q4
          go_wp2_with fail
          go_region_held3 (fun w' => (convert 29 9 (.slice ua mn uc)).run Tryd.prog w' = .ok (.string sx) w')
            (first
              | exact c1
              | exact c2
              | exact HCV.out _ (HT3.out.kept (set2r_kept g3 r (k * 2) (k * 2 + 1) (.string sx) (.int .i64 nd)) (fun i hi h => by have := HFI.out i hi; omega)))
            (first
              | (go_at_call 46; refine (HC2.out _ HI2D.out).mono ?_; rintro e g3 ⟨rfl, hi3, hk3'⟩; have HIx3 := Lib.hid hi3; have HK3 := Lib.hid hk3'; have hR4 : RowE g3 r (L ++ List.replicate (nn - k) ([], 0)) := hk3'.heap (fun h => by have h : r = g := h; omega) (show g2.drew.heap[r]? = _ from HR3.out); have HR4 := Lib.hid hR4; obtain ⟨z0, z1⟩ := hR4.at_ HRL.out; have fz0 := frz2 hR4 (k * 2); have fz1 := frz2 hR4 (k * 2 + 1); have HT3 := Lib.hid ((HTK.out.kept (Kept.refl NoB g2).drew (fun _ _ h => h)).kept hk3' (fun i hi h => by have h : i = g := h; have := HFI.out i hi; omega)); have c2 := HCV.out g3 HT3.out; clear hi3 hk3' hR4)
              | fail)
          all_goals
            have hS := set2r_kept g3 r (k * 2) (k * 2 + 1) (.string sx) (.int .i64 nd)
            have hFr : ∀ i, FI i → ¬ i = r := fun i hi h => by have := HFI.out i hi; omega
            have hFg : ∀ i, FI i → ¬ Only g i := fun i hi h => by have h : i = g := h; have := HFI.out i hi; omega
            have HSET := Lib.hid (HR4.out.set k HRL.out (bytesU (nb.take mn), nd))
            have HKK := Lib.hid ((HKx2.out.trans ((Kept.refl NoB g2).drew) (fun _ _ h => h.elim)).trans HK3.out (fun _ _ h => h))
            have HSS := Lib.hid hS
            have HFR := Lib.hid hFr
            clear hS hFr hFg c1 c2 z0 z1 fz0 fz1
            go_wp2_with fail
            go_roundw
            case rel =>
              refine ⟨k + 1, by omega, by go_num, ?_, ?_, (HK.out.trans HKK.out (fun i _ h => by have h : i = g := h; omega)).trans HSS.out (fun i hi h => by have h : i = r := h; omega)⟩
              · rw [HG1.out, HGX.out]
                have h1 := HSET.out
                rw [show nn - k = (nn - (k + 1)) + 1 by omega] at h1
                have h2 := rep_set29 L (nn - (k + 1)) ([], 0) (bytesU (nb.take mn), nd)
                rw [HLL.out] at h2
                rw [h2, ← HSX.out] at h1
                exact h1
              · rw [HG1.out, HGX.out]
                exact HIx3.out.kept HSS.out HFR.out (fun h => by have h : g = r := h; omega)
            case measure => simp [RowKit.intOf]; omega
        · obtain rfl : k = nn := by omega
          have hLl := gqsE_len k ⟨bs, 0⟩
          have hLn := gqsE_names k ⟨bs, 0⟩
          rw [Nat.sub_self, List.replicate_zero, List.append_nil] at HRW
          obtain ⟨L, hL⟩ : ∃ t, t = (gqsE k ⟨bs, 0⟩).2 := ⟨_, rfl⟩
          rw [← hL] at HRW hLl hLn HG
          have hxs : ESl wr (fun i => w.heap.size ≤ i) (.slice (some ⟨r, 0, none⟩) k k) L := by
            have := HRW.out.sl (F := fun i => w.heap.size ≤ i) (c := k) (by show w.heap.size ≤ r; omega) (by omega) (by unfold maxLen; omega)
            rwa [hLl] at this
          have HXS := Lib.hid hxs
          have hkw : Kept NoB w wr := kept_new29 HK.out
          have HKW := Lib.hid hkw
          have HBW := Lib.hid (HB.out.no29 hkw)
          have HPT := Lib.hid (vPut29_any _ L _ wr hxs (fun j hj => Nat.le_trans (hLn _ (eth_mem hj)) (by decide)))
          have hput : chkE L = 0 → putE L = bytEs L := fun h => by unfold putE; rw [if_pos h]
          obtain ⟨PL, hPL⟩ : ∃ q, q = putE L := ⟨_, rfl⟩
          rw [← hPL] at HPT hput
          obtain ⟨er, her⟩ : ∃ q, q = chkE L := ⟨_, rfl⟩
          rw [← her] at HPT hput HG
          clear hxs hkw hrow hi hK hL hLl hLn hPL her hlt hk
          by_cases hz : er = 0
          · have hpe := hput hz
            rw [hz] at HPT HG
            by_cases hq : PL = bs
            · rw [if_pos ⟨rfl, hpe ▸ hq⟩] at HG
              have HEQ : Hid (∀ v u F G w, BSl w F v PL → BSl w G u bs → Calls Tryd.prog 47 #[v, u] w fun e w' => e = .returned (.bool true) ∧ Kept NoB w w') := Lib.hid (fun v u F G w h k => by have := Equal29 v u PL bs F G w h k; rwa [decide_eq_true hq] at this)
              clear hq hpe hput hz
              go_wp2_with (first
                | (go_at_call 11; refine HPT.out.mono ?_; rintro e w8 ⟨pa, pc, rfl, hb, hk⟩; have HP8 := Lib.hid hb; have HX8 := Lib.hid (HXS.out.no hk); have HB8 := Lib.hid (HBW.out.no29 hk); have HK8 := Lib.hid (HKW.out.trans hk (fun _ _ h => h)); clear hb hk)
                | (go_at_call 47; refine (HEQ.out _ _ _ _ _ HP8.out HB8.out).mono ?_; rintro e w9 ⟨rfl, hk⟩; have HX9 := Lib.hid (HX8.out.no hk); have HK9 := Lib.hid (HK8.out.trans hk (fun _ _ h => h)); clear hk))
              exact bodyPost_ret (v := .tuple #[.slice (some ⟨r, 0, none⟩) k k, .int .i64 0]) (by simp [results, Tryd.results15, go_sem]) rfl (by rw [HG.out]; exact ⟨_, rfl, HX9.out, HK9.out⟩)
            · rw [if_neg (fun h => hq (hpe.trans h.2))] at HG
              have HEQ : Hid (∀ v u F G w, BSl w F v PL → BSl w G u bs → Calls Tryd.prog 47 #[v, u] w fun e w' => e = .returned (.bool false) ∧ Kept NoB w w') := Lib.hid (fun v u F G w h k => by have := Equal29 v u PL bs F G w h k; rwa [decide_eq_false hq] at this)
              clear hq hpe hput hz
              go_wp2_with (first
                | (go_at_call 11; refine HPT.out.mono ?_; rintro e w8 ⟨pa, pc, rfl, hb, hk⟩; have HP8 := Lib.hid hb; have HB8 := Lib.hid (HBW.out.no29 hk); have HK8 := Lib.hid (HKW.out.trans hk (fun _ _ h => h)); clear hb hk)
                | (go_at_call 47; refine (HEQ.out _ _ _ _ _ HP8.out HB8.out).mono ?_; rintro e w9 ⟨rfl, hk⟩; have HK9 := Lib.hid (HK8.out.trans hk (fun _ _ h => h)); clear hk))
              exact bodyPost_ret (v := .tuple #[.slice none 0 0, .int .i64 4]) (by simp [results, Tryd.results15, go_sem]) rfl (by rw [HG.out]; exact GetE29.nil rfl HK9.out)
          · rw [if_neg (fun h => hz h.1)] at HG
            have g9 : (er != 0) = true := bne_iff_ne.2 hz
            clear hput hz
            go_wp2_with (go_at_call 11; refine HPT.out.mono ?_; rintro e w8 ⟨pa, pc, rfl, hb, hk⟩; have HK8 := Lib.hid (HKW.out.trans hk (fun _ _ h => h)); clear hb hk)
            exact bodyPost_ret (v := .tuple #[.slice none 0 0, .int .i64 4]) (by simp [results, Tryd.results15, go_sem]) rfl (by rw [HG.out]; exact GetE29.nil rfl HK8.out)
end Go.Proofs.YtiifkcjngajegaaDoor
