/-
  Read of nil; the walk of SessBytes.
-/
import Derived.Test.YtnmclhgljpcjcaaSesQ
import Derived.Test.YtnmclhgljpcjcaaSesM
import Derived.Test.YtnmclhgljpcjcaaSesO
import Derived.Test.YtnmclhgljpcjcaaSesH
namespace Go.Proofs.Ytnmclhgljpcjcaa
open Go.RowKit
set_option linter.unusedVariables false
set_option linter.unusedSimpArgs false

theorem NGet16 (n : Int) (w : World) : Calls Try.prog 86 #[.pointer none, .int .i64 n] w fun r w' => r = .returned (.int .u64 0) ∧ w = w' := by
  go_enter Try.func86, Try.ntmps86
  go_wp2
  go_ret
  exact ⟨rfl, rfl⟩
theorem NUpto16 (n most : Int) (h : 0 ≤ most) (w : World) : Calls Try.prog 85 #[.pointer none, .int .i64 n, .int .u64 most] w fun r w' => r = .returned (.int .u64 0) ∧ w = w' := by
  go_enter Try.func85, Try.ntmps85
  go_wp2_with fail
  refine (NGet16 _ _).mono ?_
  rintro e w1 ⟨rfl, rfl⟩
  go_wp2
  go_ret
  exact ⟨rfl, rfl⟩
theorem NErr16 (w : World) : Calls Try.prog 87 #[.pointer none] w fun r w' => r = .returned (.int .i64 2) ∧ w = w' := by
  go_enter Try.func87, Try.ntmps87
  go_wp2
  go_ret
  exact ⟨rfl, rfl⟩
def NrRel (w : World) (iv : Value) (wr : World) : Prop := iv = .int .i64 0 ∧ Kept NoB w wr
set_option maxRecDepth 100000 in
theorem SRead_nil (w : World) : Calls Try.prog 56 #[.pointer none] w fun e w' => e = .returned (.tuple #[.pointer none, .int .i64 2]) ∧ Kept NoB w w' := by
  obtain ⟨i0, hi0, hz0, hz1, hz2⟩ := info_parts Try.info75
  go_enter Try.func56, Try.ntmps56
  go_wp2_with fail
  refine (NUpto16 1 6 (by decide) w).mono ?_
  rintro e w1 ⟨rfl, rfl⟩
  go_wp2_with (at_make; refine wpList_make_full _ rfl (.tmp 12) (.tmp 12) 83 rfl w.heap.size 75 i0 _ 5 Try.underlying83 hi0 hz0 hz1 .u64 .u64 _ _ 0 rfl rfl rfl rfl (by rw [hz2]; omega) (by unfold maxLen; omega) (Nat.le_refl _) ?_; intro w2 hown hgrow)
  have HK := Lib.hid ((Kept.refl NoB w).grown hgrow (fun k hk => by cases hk))
  clear hown hgrow
  go_loopw [5, 16] (fun _ i wr => NrRel w i wr) (fun _ _ _ => 0)
  case atStart => exact ⟨rfl, HK.out⟩
  case round =>
    obtain ⟨rfl, hk⟩ := hrel
    have HKr := Lib.hid hk
    clear hk
    go_wp2_with fail
    refine (NErr16 wr).mono ?_
    rintro e w3 ⟨rfl, rfl⟩
    go_wp2
    go_ret2
    exact ⟨rfl, HKr.out⟩
theorem SAllOf (w : World) (tv : Value) (L : List Rw) (h : TabOf w tv L) : Calls Try.prog 46 #[tv] w fun e w' => ∃ a c, e = .returned (.slice a L.length c) ∧ RwRd w' (fun _ => True) (.slice a L.length c) L ∧ Kept NoB w w' := by
  rcases h with ⟨rfl, rfl⟩ | ⟨g, rfl, ht⟩
  · exact (SAll_nil w).mono fun e w' ⟨h1, h2⟩ => ⟨none, 0, h1, RwRd.nil _ _, h2⟩
  · refine (SAll_any w g L ht).mono ?_
    rintro e w' ⟨v, rfl, h1, h2⟩
    obtain ⟨a, c, rfl⟩ := h1.form
    exact ⟨a, c, rfl, h1.rd (fun _ _ => trivial), h2⟩
theorem TabOf.kept {S : Nat → Prop} {w w' : World} {tv : Value} {L : List Rw} (h : TabOf w tv L) (hk : Kept NoB w w') : TabOf w' tv L := by
  rcases h with h | ⟨g, h1, h2⟩
  · exact .inl h
  · exact .inr ⟨g, h1, h2.no hk⟩
theorem RIn.len {w : World} {F : Nat → Prop} {a : Option Addr} {n c : Nat} {s : ISt} (h : RIn w F a n c s) : n = s.l.length := by
  obtain ⟨_, b, hv, hb⟩ := h
  obtain ⟨a', c', rfl, _⟩ := hb
  simp at hv
  exact hv.2.1
theorem readS_len (s : ISt) : (readS s).2.1.length ≤ 6 := by
  have h := upto_le16 s
  unfold readS
  split
  · simp
  · split
    · rw [getRows_len]; omega
    · simp
def SbRel (w : World) (n : Nat) (rv iv : Value) (wr : World) : Prop := ∃ (k : Nat) (L : List Rw), k ≤ n ∧ k ≤ 40 ∧ iv = .int .i64 k ∧ TabAt wr w.heap.size L ∧ RwRd wr (fun i => w.heap.size < i ∧ i < wr.heap.size) rv L ∧ Kept NoB w wr
set_option maxRecDepth 100000 in
set_option maxHeartbeats 4000000 in
theorem SessBytes_any (w : World) (v u : Value) (n : Nat) (it : Nat → Rw) (l : List Int) (h : RwsAt w v n it) (hu : BSl w (fun k => k < w.heap.size) u l) : Calls Try.prog 10 #[v, u] w fun e w' => e = .returned (.bool true) ∧ Kept NoB w w' := by
  obtain ⟨va, vc, rfl, hn63, hit⟩ := h
  have HIT := Lib.hid hit
  have HU := Lib.hid hu
  obtain ⟨ba, bc, rfl, _⟩ := hu
  have hnn : (n : Int) ≤ 9223372036854775807 := by omega
  clear hit hn63
  go_enter Try.func10, Try.ntmps10
  go_wp2_with fail
  refine (SNew_any w).mono ?_
  rintro e w1 ⟨rfl, ht, hk⟩
  have HT := Lib.hid ht
  have HK := Lib.hid hk
  clear ht hk
  go_wp2_with fail
  go_loopw [6, 7] (SbRel w n) (fun _ i _ => n - (RowKit.intOf i).toNat)
  case atStart => exact ⟨0, [], Nat.zero_le _, by omega, rfl, HT.out, RwRd.nil _ _, HK.out⟩
  case round =>
    obtain ⟨k, L, hk, hk40, rfl, ht, hr, hK⟩ := hrel
    have hk0 : (0 : Int) ≤ (k : Int) := by omega
    have HT := Lib.hid ht
    have HR := Lib.hid hr
    have HK := Lib.hid hK
    obtain ⟨ra, rc, rfl⟩ := hr.form
    clear ht hK hr
    by_cases hlt : k < n ∧ k < 40
    · obtain ⟨hlt, h40⟩ := hlt
      have hk1 : (k : Int) < (n : Int) := by omega
      have hk41 : (k : Int) < 40 := by omega
      obtain ⟨b, o, rfl, hb, hat⟩ := HIT.out (by omega)
      obtain ⟨hE0, hfit⟩ := hat k hlt
      obtain ⟨y, hy⟩ : ∃ y, y = it k := ⟨_, rfl⟩
      rw [← hy] at hE0 hfit
      have HE : Hid (∀ w', Kept NoB w w' → RwAt w' b (o + k * 5) y) := Lib.hid (fun w' hk => hE0.kept hk (fun h => h))
      have HFIT := Lib.hid hfit
      clear hat hy hE0 hfit
      obtain ⟨x0, x1, x2, x3, x4⟩ := y
      have hx1 : 0 ≤ x1 := HFIT.out.1
      obtain ⟨x, hx⟩ : ∃ x, x = setX L ⟨x0, x1, x2, x3, x4⟩ := ⟨_, rfl⟩
      obtain ⟨L', hL'⟩ : ∃ l, l = setL L ⟨x0, x1, x2, x3, x4⟩ := ⟨_, rfl⟩
      have HFEW := Lib.hid HT.out.few
      have HSR := Lib.hid (fun w' F (h : RwRd w' F (.slice ra L.length rc) L) => RSet16_any w' _ L x0 x1 x2 x3 x4 F h (by have := HFEW.out; omega) hx1)
      have HSS := Lib.hid (fun w' h => SSet_any w' w.heap.size x0 x1 x2 x3 x4 L h HFIT.out)
      simp only [← hx, ← hL'] at HSS HSR
      clear hx hL'
      obtain ⟨e0, e1, e2, e3, e4⟩ := HE.out wr HK.out
      simp only at e0 e1 e2 e3 e4
      go_wp2_with fail
      refine (ours16 _ _ _ _ _ _).mono ?_
      rintro e w5 ⟨rfl, hk5⟩
      have HK5 := Lib.hid (HK.out.trans hk5 (fun _ _ h => h))
      have HT5 := Lib.hid (HT.out.no hk5)
      have HR5 := Lib.hid (HR.out.no hk5)
      have HS5 := Lib.hid (show wr.heap.size ≤ w5.heap.size from hk5.size)
      clear hk5 e0 e1 e2 e3 e4
      go_wp2_with fail
      refine (HSS.out w5 HT5.out).mono ?_
      rintro e w6 ⟨rfl, ht6, hk6⟩
      have HT6 := Lib.hid ht6
      have HR6 := Lib.hid (HR5.out.kept hk6 (fun i h e => by have e : i = w.heap.size := e; have := h.1; omega))
      have HK6 := Lib.hid (HK5.out.trans (T := fun k => k = w.heap.size) hk6 (fun i hi h => by have h' : i = w.heap.size := h; omega))
      have HS6 := Lib.hid (show w5.heap.size ≤ w6.heap.size from hk6.size)
      clear ht6 hk6 HSS
      obtain ⟨e0, e1, e2, e3, e4⟩ := HE.out w6 HK6.out
      simp only at e0 e1 e2 e3 e4
      go_wp2_with fail
      refine (HSR.out w6 _ HR6.out).mono ?_
      rintro e w2 ⟨u2, rfl, hu2, hk2⟩
      have hgl := HT6.out.lt
      have hs2 := hk2.size
      have HR2 := Lib.hid (hu2.mono (G := fun i => w.heap.size < i ∧ i < w2.heap.size) (fun i hi h => ⟨by rcases h with h | h; exact h.1; omega, hi⟩))
      obtain ⟨ua, uc, rfl⟩ := hu2.form
      have HK2 := Lib.hid (HK6.out.trans hk2 (fun _ _ h => h))
      have HT2 := Lib.hid (HT6.out.no hk2)
      clear hk2 hu2 e0 e1 e2 e3 e4 HSR hgl hs2
      go_wp2
      exact ⟨⟨k + 1, L', by omega, by omega, by go_num, HT2.out, HR2.out, HK2.out⟩, by simp [RowKit.intOf]; omega⟩
    · have hfew := HT.out.few
      have HOK := Lib.hid HT.out.ok
      have HGD : Hid (GoodR L) := Lib.hid ⟨fun r hr => (HT.out.ok r hr).1, HT.out.srt⟩
      have hbl : (bytesR L).length = 1 + 26 * L.length := by rw [← bytesK_all, bytesK_len (Nat.le_refl _)]
      have HBL := Lib.hid hbl
      have hend : k = n ∨ 40 ≤ k := by omega
      have hend2 : (k < n ∧ decide ((k : Int) < 40) = false) ∨ k = n := by
        by_cases h : k = n
        · exact .inr h
        · exact .inl ⟨by omega, decide_eq_false (by omega)⟩
      clear hbl hend hlt
      rcases hend2 with ⟨hkn, hk40'⟩ | rfl
      · have hk1 : (k : Int) < (n : Int) := by omega
        clear hkn hk40
        go_wp2_with fail
        refine (New_any 500 wr (by decide)).mono ?_
        rintro e w2 ⟨rfl, ho2, hk2⟩
        have HO2 : Hid (OutAt w2 (fun k => wr.heap.size ≤ k ∧ k < w2.heap.size) wr.heap.size ⟨[], 500, 0⟩) := Lib.hid (ho2.mono (fun k hk h => ⟨h, hk⟩))
        have HT2 := Lib.hid (HT.out.no hk2)
        have HR2 := Lib.hid (HR.out.no hk2)
        have HK2 := Lib.hid (HK.out.trans hk2 (fun _ _ h => h))
        have HLT := Lib.hid HT.out.lt
        have HSW := Lib.hid HK.out.size
        have HZ2 := Lib.hid (show wr.heap.size ≤ w2.heap.size from hk2.size)
        clear ho2 hk2
        go_wp2_with fail
        refine (SPut_any w2 w.heap.size wr.heap.size L _ HT2.out HO2.out (fun i hi => hi.2)).mono ?_
        rintro e w3 ⟨rfl, ⟨Fo, ho3⟩, hk3⟩
        have HO3 := Lib.hid ho3
        have HR3 := Lib.hid (HR2.out.kept hk3 (fun i hi h => by have := hi.2; have := h.1; omega))
        have HK3 := Lib.hid (HK2.out.trans hk3 (fun i hi h => by have := HSW.out; have := h.1; omega))
        have HZ3 := Lib.hid (Nat.le_trans HZ2.out hk3.size)
        clear ho3 hk3
        go_wp2_with fail
        refine (Done_any wr.heap.size _ Fo w3 HO3.out (by show (bytesR L).length ≤ 1000000; have := HBL.out; omega)).mono ?_
        rintro e w4 ⟨xv, rfl, hx4, hk4⟩
        have HX4 := Lib.hid hx4
        obtain ⟨xa, xc, rfl, _⟩ := hx4
        have HR4 := Lib.hid (HR3.out.no hk4)
        have HK4 := Lib.hid (HK3.out.trans hk4 (fun _ _ h => h))
        have HZ4 := Lib.hid (Nat.le_trans HZ3.out hk4.size)
        clear hk4
        go_wp2_with fail
        refine (RBytes16 w4 _ L _ HR4.out HOK.out hfew).mono ?_
        rintro e w5 ⟨yv, rfl, hy5, hk5⟩
        have HY5 := Lib.hid hy5
        obtain ⟨ya, yc, rfl⟩ := own_form hy5.2.1
        have HX5 := Lib.hid (HX4.out.kept hk5 (fun _ _ h => h))
        have HR5 := Lib.hid (HR4.out.no hk5)
        have HK5 := Lib.hid (HK4.out.trans hk5 (fun _ _ h => h))
        have HZ5 := Lib.hid (Nat.le_trans HZ4.out hk5.size)
        clear hy5 hk5
        go_wp2_with fail
        refine (Same_any _ _ (bytesR L) (bytesR L) _ _ w5 HX5.out HY5.out.bsl).mono ?_
        rintro e w6 ⟨rfl, hk6⟩
        rw [decide_eq_true rfl]
        have HX6 := Lib.hid (HX5.out.kept hk6 (fun _ _ h => h))
        have HR6 := Lib.hid (HR5.out.no hk6)
        have HK6 := Lib.hid (HK5.out.trans hk6 (fun _ _ h => h))
        have HZ6 := Lib.hid (Nat.le_trans HZ5.out hk6.size)
        clear hk6
        go_wp2_with fail
        refine (Of_any _ (bytesR L) _ w6 HX6.out (by have := HBL.out; omega)).mono ?_
        rintro e w7 ⟨gi, rfl, hg7, hg7', hi7, hk7⟩
        have HI7 := Lib.hid hi7
        have HR7 := Lib.hid (HR6.out.no hk7)
        have HK7 := Lib.hid (HK6.out.trans hk7 (fun _ _ h => h))
        have HG7 := Lib.hid hg7'
        have HG7a := Lib.hid hg7
        have HRB := Lib.hid (readS_back HGD.out HOK.out hfew)
        clear hi7 hk7 hg7 hg7'
        go_wp2_with fail
        refine (SRead_any w7 gi _ ⟨bytesR L, 0⟩ HI7.out (fun i hi => by have := HG7.out; have := hi.2; omega)).mono ?_
        rintro e w8 ⟨tv, rfl, hi8, ht8, hk8⟩
        rw [HRB.out] at hi8 ht8 ⊢
        simp only at hi8 ht8
        have HT8 := Lib.hid ht8
        have HR8 := Lib.hid (HR7.out.kept hk8 (fun i hi h => by have h' : i = gi := h; have := hi.2; have := HG7a.out; have := HZ6.out; omega))
        have HK8 := Lib.hid (HK7.out.trans hk8 (fun i hi h => by have h' : i = gi := h; have := HG7a.out; have := HZ6.out; have := HSW.out; omega))
        clear hi8 ht8 hk8
        go_wp2_with fail
        refine (SAllOf w8 tv L HT8.out).mono ?_
        rintro e w9 ⟨la, lc, rfl, hl9, hk9⟩
        have HL9 := Lib.hid hl9
        have HR9 := Lib.hid (HR8.out.no hk9)
        have HK9 := Lib.hid (HK8.out.trans hk9 (fun _ _ h => h))
        clear hl9 hk9
        go_wp2_with fail
        refine (like16 w9 _ _ L _ _ HL9.out HR9.out (by omega)).mono ?_
        rintro e w10 ⟨rfl, hk10⟩
        have HK10 := Lib.hid (HK9.out.trans hk10 (fun _ _ h => h))
        clear hk10
        go_wp2_with fail
        refine (Cut_any _ l 300 _ w10 (HU.out.kept HK10.out (fun _ _ h => h)) (by decide)).mono ?_
        rintro e w11 ⟨cv, rfl, hc, rfl⟩
        obtain ⟨l3, hl3⟩ : ∃ m, m = l.take 300 := ⟨_, rfl⟩
        have HL3 : Hid (l3.length ≤ 300) := Lib.hid (by rw [hl3, List.length_take]; omega)
        rw [← hl3] at hc
        have HC := Lib.hid hc
        obtain ⟨ca, cc, rfl, _⟩ := hc
        clear hl3
        go_wp2_with fail
        refine (Of_any _ l3 _ w10 HC.out (by have := HL3.out; omega)).mono ?_
        rintro e w12 ⟨gj, rfl, hg12, hg12', hi12, hk12⟩
        have HI12 := Lib.hid hi12
        have HK12 := Lib.hid (HK10.out.trans hk12 (fun _ _ h => h))
        have HC12 := Lib.hid (HC.out.kept hk12 (fun _ _ h => h))
        have HG12 := Lib.hid hg12'
        have HG12a := Lib.hid (show w.heap.size ≤ gj by have := HK10.out.size; omega)
        clear hi12 hk12 hg12 hg12'
        go_wp2_with fail
        refine (SRead_any w12 gj _ ⟨l3, 0⟩ HI12.out (fun i hi => by have := HG12.out; have := hi.2; omega)).mono ?_
        obtain ⟨⟨sl, se⟩, M, er, hrs⟩ : ∃ (s' : ISt) (M : List Rw) (er : Int), readS ⟨l3, 0⟩ = (s', M, er) := ⟨_, _, _, rfl⟩
        rintro e w13 ⟨tv2, rfl, hi13, ht13, hk13⟩
        rw [hrs] at hi13 ht13 ⊢
        simp only at hi13 ht13 ⊢
        have HRS := Lib.hid hrs
        have HI13 := Lib.hid hi13
        have HT13 := Lib.hid ht13
        have HK13 := Lib.hid (HK12.out.trans hk13 (fun i hi h => by have h' : i = gj := h; have := HG12a.out; omega))
        have HC13 := Lib.hid (HC12.out.kept hk13 (fun i hi h => by have h' : i = gj := h; have hi' : i < w.heap.size := hi; have := HG12a.out; omega))
        clear hi13 ht13 hk13 hrs
        go_wp2_with fail
        refine (RRead16 w13 _ (fun k => k < w.heap.size) ⟨l3, 0⟩ ⟨⟨fun h => absurd rfl h, Int.le_refl _, by show (0 : Int) < 100; omega⟩, _, rfl, HC13.out⟩ (fun i hi => by have := HK13.out.size; omega)).mono ?_
        rintro e w14 ⟨ra2, rn2, rc2, lv, rfl, hi14, hl14, hk14⟩
        rw [HRS.out] at hi14 hl14 ⊢
        simp only at hi14 hl14 ⊢
        have hrn := hi14.len
        simp only at hrn
        subst hrn
        obtain ⟨lva, lvc, rfl⟩ := hl14.form
        have HL14 := Lib.hid hl14
        have HI14 := Lib.hid (HI13.out.kept hk14 (fun _ _ h => h) (fun h => h))
        have HT14 := Lib.hid (HT13.out.kept (S := NoB) hk14)
        have HK14 := Lib.hid (HK13.out.trans hk14 (fun _ _ h => h))
        have HJ := Lib.hid (heap_alloc_new w14 (.cells #[.slice ra2 sl.length rc2, .int .i64 se] 103))
        obtain ⟨W, hW⟩ : ∃ W, W = w14.alloc (.cells #[.slice ra2 sl.length rc2, .int .i64 se] 103) := ⟨_, rfl⟩
        rw [← hW] at HJ
        have HKW : Hid (Kept NoB w14 W) := Lib.hid (by rw [hW]; exact (Kept.refl _ _).alloc _)
        have HW := Lib.hid hW
        have hML : M.length ≤ 6 := by
          have h1 := upto_le16 ⟨l3, 0⟩
          have h2 := readS_len ⟨l3, 0⟩
          rw [HRS.out] at h2
          simpa using h2
        clear hi14 hl14 hk14 hW
        go_upto_region 20 with fail
        rw [← HW.out]
        go_wp2_with fail
        refine (SRead_nil W).mono ?_
        rintro e w15 ⟨rfl, hk15⟩
        have HK15 := Lib.hid (HKW.out.trans hk15 (fun _ _ h => h))
        have HKWX := Lib.hid hk15
        clear hk15
        go_wp2_with fail
        have HALL := Lib.hid (fun w' (hk : Kept NoB w15 w') => SAllOf w' tv2 M (HT14.out.kept (S := NoB) (HK15.out.trans hk (fun _ _ h => h))))
        have HLIK := Lib.hid (fun w' (hk : Kept NoB w15 w') v' (hv : RwRd w' (fun _ => True) v' M) => like16 w' v' _ M _ _ hv ((HL14.out.no HK15.out).no hk) (by omega))
        have HLEF := Lib.hid (fun w' (hk : Kept NoB w15 w') => (Left_any gj ⟨sl, se⟩ _ w' (HI14.out.kept (HK15.out.trans hk (fun _ _ h => h)) (fun _ _ h => h) (fun h => h))).mono fun e w'' h => show e = .returned (.int .i64 sl.length) ∧ Kept NoB w' w'' from ⟨h.1, by rw [← h.2]; exact Kept.refl _ _⟩)
        have HTEN : Hid (∀ w', Kept NoB w15 w' → w'.cell? ⟨w14.heap.size, 0, none⟩ = some (.slice ra2 sl.length rc2)) := Lib.hid (fun w' hk => by
          exact cell_of_row _ _ 0 _ _ _ ((HKWX.out.trans hk (fun _ _ h => h)).heap (fun h => h) HJ.out))
        have hee : (er == er) = true := by simp
        have hll : ((sl.length : Int) == (sl.length : Int)) = true := by simp
        have HKe := Lib.hid (Kept.refl NoB w15).drew
        have HT := Lib.hid (HTEN.out _ HKe.out)
        go_region_held3 (fun w' => w'.cell? ⟨w14.heap.size, 0, none⟩ = some (.slice ra2 sl.length rc2))
          (with_reducible exact HT.out)
          (first
            | (go_at_call 46; (with_reducible refine (HALL.out _ HKe.out).mono ?_); rintro e z ⟨za, zc, rfl, hvz, hkz⟩; have HVZ := Lib.hid hvz; replace HKe := Lib.hid (HKe.out.trans hkz (fun _ _ h => h)); replace HT := Lib.hid (HTEN.out _ HKe.out); clear hkz hvz)
            | (go_at_call 45; (with_reducible refine (HLIK.out _ HKe.out _ HVZ.out).mono ?_); rintro e z ⟨rfl, hkz⟩; replace HKe := Lib.hid (HKe.out.trans hkz (fun _ _ h => h)); replace HT := Lib.hid (HTEN.out _ HKe.out); clear hkz)
            | (go_at_call 60; (with_reducible refine (HLEF.out _ HKe.out).mono ?_); rintro e z ⟨rfl, hkz⟩; replace HKe := Lib.hid (HKe.out.trans hkz (fun _ _ h => h)); replace HT := Lib.hid (HTEN.out _ HKe.out); clear hkz)
            | (go_at_call 49; (with_reducible refine (awake16 _).mono ?_); rintro e z ⟨rfl, hkz⟩; replace HKe := Lib.hid (HKe.out.trans hkz (fun _ _ h => h)); replace HT := Lib.hid (HTEN.out _ HKe.out); clear hkz))
        go_wp2
        go_ret
        exact ⟨rfl, (HK14.out.trans HK15.out (fun _ _ h => h)).trans HKe.out (fun _ _ h => h)⟩
      · clear hk40
        go_wp2_with fail
        refine (New_any 500 wr (by decide)).mono ?_
        rintro e w2 ⟨rfl, ho2, hk2⟩
        have HO2 : Hid (OutAt w2 (fun k => wr.heap.size ≤ k ∧ k < w2.heap.size) wr.heap.size ⟨[], 500, 0⟩) := Lib.hid (ho2.mono (fun k hk h => ⟨h, hk⟩))
        have HT2 := Lib.hid (HT.out.no hk2)
        have HR2 := Lib.hid (HR.out.no hk2)
        have HK2 := Lib.hid (HK.out.trans hk2 (fun _ _ h => h))
        have HLT := Lib.hid HT.out.lt
        have HSW := Lib.hid HK.out.size
        have HZ2 := Lib.hid (show wr.heap.size ≤ w2.heap.size from hk2.size)
        clear ho2 hk2
        go_wp2_with fail
        refine (SPut_any w2 w.heap.size wr.heap.size L _ HT2.out HO2.out (fun i hi => hi.2)).mono ?_
        rintro e w3 ⟨rfl, ⟨Fo, ho3⟩, hk3⟩
        have HO3 := Lib.hid ho3
        have HR3 := Lib.hid (HR2.out.kept hk3 (fun i hi h => by have := hi.2; have := h.1; omega))
        have HK3 := Lib.hid (HK2.out.trans hk3 (fun i hi h => by have := HSW.out; have := h.1; omega))
        have HZ3 := Lib.hid (Nat.le_trans HZ2.out hk3.size)
        clear ho3 hk3
        go_wp2_with fail
        refine (Done_any wr.heap.size _ Fo w3 HO3.out (by show (bytesR L).length ≤ 1000000; have := HBL.out; omega)).mono ?_
        rintro e w4 ⟨xv, rfl, hx4, hk4⟩
        have HX4 := Lib.hid hx4
        obtain ⟨xa, xc, rfl, _⟩ := hx4
        have HR4 := Lib.hid (HR3.out.no hk4)
        have HK4 := Lib.hid (HK3.out.trans hk4 (fun _ _ h => h))
        have HZ4 := Lib.hid (Nat.le_trans HZ3.out hk4.size)
        clear hk4
        go_wp2_with fail
        refine (RBytes16 w4 _ L _ HR4.out HOK.out hfew).mono ?_
        rintro e w5 ⟨yv, rfl, hy5, hk5⟩
        have HY5 := Lib.hid hy5
        obtain ⟨ya, yc, rfl⟩ := own_form hy5.2.1
        have HX5 := Lib.hid (HX4.out.kept hk5 (fun _ _ h => h))
        have HR5 := Lib.hid (HR4.out.no hk5)
        have HK5 := Lib.hid (HK4.out.trans hk5 (fun _ _ h => h))
        have HZ5 := Lib.hid (Nat.le_trans HZ4.out hk5.size)
        clear hy5 hk5
        go_wp2_with fail
        refine (Same_any _ _ (bytesR L) (bytesR L) _ _ w5 HX5.out HY5.out.bsl).mono ?_
        rintro e w6 ⟨rfl, hk6⟩
        rw [decide_eq_true rfl]
        have HX6 := Lib.hid (HX5.out.kept hk6 (fun _ _ h => h))
        have HR6 := Lib.hid (HR5.out.no hk6)
        have HK6 := Lib.hid (HK5.out.trans hk6 (fun _ _ h => h))
        have HZ6 := Lib.hid (Nat.le_trans HZ5.out hk6.size)
        clear hk6
        go_wp2_with fail
        refine (Of_any _ (bytesR L) _ w6 HX6.out (by have := HBL.out; omega)).mono ?_
        rintro e w7 ⟨gi, rfl, hg7, hg7', hi7, hk7⟩
        have HI7 := Lib.hid hi7
        have HR7 := Lib.hid (HR6.out.no hk7)
        have HK7 := Lib.hid (HK6.out.trans hk7 (fun _ _ h => h))
        have HG7 := Lib.hid hg7'
        have HG7a := Lib.hid hg7
        have HRB := Lib.hid (readS_back HGD.out HOK.out hfew)
        clear hi7 hk7 hg7 hg7'
        go_wp2_with fail
        refine (SRead_any w7 gi _ ⟨bytesR L, 0⟩ HI7.out (fun i hi => by have := HG7.out; have := hi.2; omega)).mono ?_
        rintro e w8 ⟨tv, rfl, hi8, ht8, hk8⟩
        rw [HRB.out] at hi8 ht8 ⊢
        simp only at hi8 ht8
        have HT8 := Lib.hid ht8
        have HR8 := Lib.hid (HR7.out.kept hk8 (fun i hi h => by have h' : i = gi := h; have := hi.2; have := HG7a.out; have := HZ6.out; omega))
        have HK8 := Lib.hid (HK7.out.trans hk8 (fun i hi h => by have h' : i = gi := h; have := HG7a.out; have := HZ6.out; have := HSW.out; omega))
        clear hi8 ht8 hk8
        go_wp2_with fail
        refine (SAllOf w8 tv L HT8.out).mono ?_
        rintro e w9 ⟨la, lc, rfl, hl9, hk9⟩
        have HL9 := Lib.hid hl9
        have HR9 := Lib.hid (HR8.out.no hk9)
        have HK9 := Lib.hid (HK8.out.trans hk9 (fun _ _ h => h))
        clear hl9 hk9
        go_wp2_with fail
        refine (like16 w9 _ _ L _ _ HL9.out HR9.out (by omega)).mono ?_
        rintro e w10 ⟨rfl, hk10⟩
        have HK10 := Lib.hid (HK9.out.trans hk10 (fun _ _ h => h))
        clear hk10
        go_wp2_with fail
        refine (Cut_any _ l 300 _ w10 (HU.out.kept HK10.out (fun _ _ h => h)) (by decide)).mono ?_
        rintro e w11 ⟨cv, rfl, hc, rfl⟩
        obtain ⟨l3, hl3⟩ : ∃ m, m = l.take 300 := ⟨_, rfl⟩
        have HL3 : Hid (l3.length ≤ 300) := Lib.hid (by rw [hl3, List.length_take]; omega)
        rw [← hl3] at hc
        have HC := Lib.hid hc
        obtain ⟨ca, cc, rfl, _⟩ := hc
        clear hl3
        go_wp2_with fail
        refine (Of_any _ l3 _ w10 HC.out (by have := HL3.out; omega)).mono ?_
        rintro e w12 ⟨gj, rfl, hg12, hg12', hi12, hk12⟩
        have HI12 := Lib.hid hi12
        have HK12 := Lib.hid (HK10.out.trans hk12 (fun _ _ h => h))
        have HC12 := Lib.hid (HC.out.kept hk12 (fun _ _ h => h))
        have HG12 := Lib.hid hg12'
        have HG12a := Lib.hid (show w.heap.size ≤ gj by have := HK10.out.size; omega)
        clear hi12 hk12 hg12 hg12'
        go_wp2_with fail
        refine (SRead_any w12 gj _ ⟨l3, 0⟩ HI12.out (fun i hi => by have := HG12.out; have := hi.2; omega)).mono ?_
        obtain ⟨⟨sl, se⟩, M, er, hrs⟩ : ∃ (s' : ISt) (M : List Rw) (er : Int), readS ⟨l3, 0⟩ = (s', M, er) := ⟨_, _, _, rfl⟩
        rintro e w13 ⟨tv2, rfl, hi13, ht13, hk13⟩
        rw [hrs] at hi13 ht13 ⊢
        simp only at hi13 ht13 ⊢
        have HRS := Lib.hid hrs
        have HI13 := Lib.hid hi13
        have HT13 := Lib.hid ht13
        have HK13 := Lib.hid (HK12.out.trans hk13 (fun i hi h => by have h' : i = gj := h; have := HG12a.out; omega))
        have HC13 := Lib.hid (HC12.out.kept hk13 (fun i hi h => by have h' : i = gj := h; have hi' : i < w.heap.size := hi; have := HG12a.out; omega))
        clear hi13 ht13 hk13 hrs
        go_wp2_with fail
        refine (RRead16 w13 _ (fun k => k < w.heap.size) ⟨l3, 0⟩ ⟨⟨fun h => absurd rfl h, Int.le_refl _, by show (0 : Int) < 100; omega⟩, _, rfl, HC13.out⟩ (fun i hi => by have := HK13.out.size; omega)).mono ?_
        rintro e w14 ⟨ra2, rn2, rc2, lv, rfl, hi14, hl14, hk14⟩
        rw [HRS.out] at hi14 hl14 ⊢
        simp only at hi14 hl14 ⊢
        have hrn := hi14.len
        simp only at hrn
        subst hrn
        obtain ⟨lva, lvc, rfl⟩ := hl14.form
        have HL14 := Lib.hid hl14
        have HI14 := Lib.hid (HI13.out.kept hk14 (fun _ _ h => h) (fun h => h))
        have HT14 := Lib.hid (HT13.out.kept (S := NoB) hk14)
        have HK14 := Lib.hid (HK13.out.trans hk14 (fun _ _ h => h))
        have HJ := Lib.hid (heap_alloc_new w14 (.cells #[.slice ra2 sl.length rc2, .int .i64 se] 103))
        obtain ⟨W, hW⟩ : ∃ W, W = w14.alloc (.cells #[.slice ra2 sl.length rc2, .int .i64 se] 103) := ⟨_, rfl⟩
        rw [← hW] at HJ
        have HKW : Hid (Kept NoB w14 W) := Lib.hid (by rw [hW]; exact (Kept.refl _ _).alloc _)
        have HW := Lib.hid hW
        have hML : M.length ≤ 6 := by
          have h1 := upto_le16 ⟨l3, 0⟩
          have h2 := readS_len ⟨l3, 0⟩
          rw [HRS.out] at h2
          simpa using h2
        clear hi14 hl14 hk14 hW
        go_upto_region 20 with fail
        rw [← HW.out]
        go_wp2_with fail
        refine (SRead_nil W).mono ?_
        rintro e w15 ⟨rfl, hk15⟩
        have HK15 := Lib.hid (HKW.out.trans hk15 (fun _ _ h => h))
        have HKWX := Lib.hid hk15
        clear hk15
        go_wp2_with fail
        have HALL := Lib.hid (fun w' (hk : Kept NoB w15 w') => SAllOf w' tv2 M (HT14.out.kept (S := NoB) (HK15.out.trans hk (fun _ _ h => h))))
        have HLIK := Lib.hid (fun w' (hk : Kept NoB w15 w') v' (hv : RwRd w' (fun _ => True) v' M) => like16 w' v' _ M _ _ hv ((HL14.out.no HK15.out).no hk) (by omega))
        have HLEF := Lib.hid (fun w' (hk : Kept NoB w15 w') => (Left_any gj ⟨sl, se⟩ _ w' (HI14.out.kept (HK15.out.trans hk (fun _ _ h => h)) (fun _ _ h => h) (fun h => h))).mono fun e w'' h => show e = .returned (.int .i64 sl.length) ∧ Kept NoB w' w'' from ⟨h.1, by rw [← h.2]; exact Kept.refl _ _⟩)
        have HTEN : Hid (∀ w', Kept NoB w15 w' → w'.cell? ⟨w14.heap.size, 0, none⟩ = some (.slice ra2 sl.length rc2)) := Lib.hid (fun w' hk => by
          exact cell_of_row _ _ 0 _ _ _ ((HKWX.out.trans hk (fun _ _ h => h)).heap (fun h => h) HJ.out))
        have hee : (er == er) = true := by simp
        have hll : ((sl.length : Int) == (sl.length : Int)) = true := by simp
        have HKe := Lib.hid (Kept.refl NoB w15).drew
        have HT := Lib.hid (HTEN.out _ HKe.out)
        go_region_held3 (fun w' => w'.cell? ⟨w14.heap.size, 0, none⟩ = some (.slice ra2 sl.length rc2))
          (with_reducible exact HT.out)
          (first
            | (go_at_call 46; (with_reducible refine (HALL.out _ HKe.out).mono ?_); rintro e z ⟨za, zc, rfl, hvz, hkz⟩; have HVZ := Lib.hid hvz; replace HKe := Lib.hid (HKe.out.trans hkz (fun _ _ h => h)); replace HT := Lib.hid (HTEN.out _ HKe.out); clear hkz hvz)
            | (go_at_call 45; (with_reducible refine (HLIK.out _ HKe.out _ HVZ.out).mono ?_); rintro e z ⟨rfl, hkz⟩; replace HKe := Lib.hid (HKe.out.trans hkz (fun _ _ h => h)); replace HT := Lib.hid (HTEN.out _ HKe.out); clear hkz)
            | (go_at_call 60; (with_reducible refine (HLEF.out _ HKe.out).mono ?_); rintro e z ⟨rfl, hkz⟩; replace HKe := Lib.hid (HKe.out.trans hkz (fun _ _ h => h)); replace HT := Lib.hid (HTEN.out _ HKe.out); clear hkz)
            | (go_at_call 49; (with_reducible refine (awake16 _).mono ?_); rintro e z ⟨rfl, hkz⟩; replace HKe := Lib.hid (HKe.out.trans hkz (fun _ _ h => h)); replace HT := Lib.hid (HTEN.out _ HKe.out); clear hkz))
        go_wp2
        go_ret
        exact ⟨rfl, (HK14.out.trans HK15.out (fun _ _ h => h)).trans HKe.out (fun _ _ h => h)⟩
end Go.Proofs.Ytnmclhgljpcjcaa
