/-
  The walk of AtlasLearns.
-/
import Derived.Test.YtpgchapemclocaaAtl1
namespace Go.Proofs.Ytpgchapemclocaa
open Go.RowKit
set_option linter.unusedVariables false
set_option linter.unusedSimpArgs false

theorem lrn_ep (l : List Cf) (c : Cf) (j : Nat) : (nthC l j).ep ≤ (nthC (lrnL l c) j).ep := by
  unfold lrnL
  split
  · rename_i h
    unfold lrnB at h
    simp only [Bool.and_eq_true, decide_eq_true_eq] at h
    rw [nthC_set (by omega)]
    split
    · rename_i e
      have h2 := h.2
      unfold newB at h2
      simp only [Bool.and_eq_true, decide_eq_true_eq] at h2
      rw [e]
      omega
    · exact Int.le_refl _
  · exact Int.le_refl _
theorem CopyEnd.cfs25 {l : List Cf} {w : World} {e : Ending} {w' : World} (h : CopyEnd l w e w') : ∃ v, e = .returned v ∧ CfsAt w' (fun k => w.heap.size ≤ k) v l ∧ Kept NoB w w' := by
  obtain ⟨hk, ⟨rfl, a, c, rfl, hc, hn⟩ | ⟨r, cap, us, rfl, hr, hrow, hown⟩⟩ := h
  · exact ⟨_, rfl, ⟨a, c, rfl, Nat.zero_le _, hc, hn, fun h => absurd h (by simp)⟩, hk⟩
  · exact ⟨_, rfl, hrow.cfs hown.nodes hr, hk⟩
theorem fld25_ep (a b c d : Value) (e : Int) (w : World) : (Instr.field 33 (.agg #[a, .int .u64 e, b, c, d]) 1).run Try.prog w = .ok (.int .u64 e) w := by kernel_rfl
set_option maxRecDepth 100000 in
set_option maxHeartbeats 4000000 in
theorem AtlasLearns_any (x y : Value) (l m : List Cf) (k : Int) (hk0 : 0 ≤ k) (hk1 : k ≤ 4294967295) (w : World) (hx : CfsR w AnyC x l) (hy : CfsR w AnyC y m) :
    Calls Try.prog 3 #[x, y, .int .u32 k] w (BoolE true w) := by
  have HAW := Lib.hid (fun w' => awake25_any w')
  have HX := Lib.hid hx
  have HY := Lib.hid hy
  obtain ⟨xa, xc, rfl, hx1, hx2, _⟩ := hx
  obtain ⟨ya, yc, rfl, hy1, hy2, _⟩ := hy
  unfold maxLen at hx2 hy2
  obtain ⟨n, hn⟩ : ∃ n, n = l.length := ⟨_, rfl⟩
  obtain ⟨q, hq⟩ : ∃ q, q = m.length := ⟨_, rfl⟩
  have HN := Lib.hid hn
  have HQ := Lib.hid hq
  rw [← hn] at hx1 HX ⊢
  rw [← hq] at hy1 HY ⊢
  clear hn hq
  by_cases hbig : 6 < n ∨ 40 < q
  · go_enter Try.func3, Try.ntmps3
    by_cases h6 : 6 < n
    · have hd : decide (6 < (n : Int)) = true := decide_eq_true (by omega)
      clear hbig
      go_wp2_with fail
      refine (HAW.out _).mono ?_
      rintro e w1 ⟨rfl, hk⟩
      have HK := Lib.hid hk
      clear hk
      go_wp2
      go_ret
      exact ⟨rfl, HK.out⟩
    · have hd : decide (6 < (n : Int)) = false := decide_eq_false (by omega)
      have hd2 : decide (40 < (q : Int)) = true := decide_eq_true (by omega)
      clear hbig
      go_wp2_with fail
      refine (HAW.out _).mono ?_
      rintro e w1 ⟨rfl, hk⟩
      have HK := Lib.hid hk
      clear hk
      go_wp2
      go_ret
      exact ⟨rfl, HK.out⟩
  · have hd : decide (6 < (n : Int)) = false := decide_eq_false (by omega)
    have hd2 : decide (40 < (q : Int)) = false := decide_eq_false (by omega)
    have hn6 : n ≤ 6 := by omega
    have hq40 : q ≤ 40 := by omega
    clear hbig
    have HNW := Lib.hid (New25_any _ l AnyC w (HN.out ▸ HX.out) (by rw [← HN.out]; omega))
    have HRA := Lib.hid (fun w' (hk : Kept NoB w w') => RAll25_any _ l AnyC w' ((HN.out ▸ HX.out : CfsR w AnyC (.slice xa l.length xc) l).kept hk (fun _ _ _ h => h)) (by rw [← HN.out]; omega))
    rw [← HN.out] at HNW HRA
    cases hb : allB l with
    | false =>
      rw [hb] at HNW HRA
      clear hb
      go_enter Try.func3, Try.ntmps3
      go_wp2_with fail
      refine HNW.out.mono ?_
      rintro e w1 ⟨hk, h⟩
      obtain rfl : e = .returned (.tuple #[.pointer none, .int .i64 1]) := by
        rcases h with ⟨_, h⟩ | ⟨h, _⟩
        · exact h
        · cases h
      have HK := Lib.hid hk
      clear hk h
      go_wp2_with fail
      refine (HRA.out _ HK.out).mono ?_
      rintro e w2 ⟨rfl, hk⟩
      have HK2 := Lib.hid (HK.out.trans hk (fun _ _ h => h))
      clear hk
      go_wp2_with fail
      refine (HAW.out _).mono ?_
      rintro e w3 ⟨rfl, hk⟩
      have HK3 := Lib.hid (HK2.out.trans hk (fun _ _ h => h))
      clear hk
      go_wp2
      go_ret
      exact ⟨rfl, HK3.out⟩
    | true =>
      rw [hb] at HNW HRA
      have HCS := Lib.hid ((HN.out ▸ HX.out : CfsR w AnyC (.slice xa l.length xc) l).small hb)
      rw [← HN.out] at HCS
      have hl1 : 1 ≤ n := by have := (of_decide_eq_true hb : AllC l).1; rw [HN.out]; exact this
      clear hb
      go_enter Try.func3, Try.ntmps3
      go_wp2_with fail
      refine HNW.out.mono ?_
      rintro e w1 ⟨hk, ⟨h, _⟩ | ⟨_, g, r, z, rfl, hat, _⟩⟩
      · cases h
      have HK := Lib.hid hk
      have HA := Lib.hid hat
      clear hk hat
      go_wp2_with fail
      refine (HRA.out _ HK.out).mono ?_
      rintro e w2 ⟨rfl, hk⟩
      have HK2 := Lib.hid (HK.out.trans hk (fun _ _ h => h))
      have HA2 := Lib.hid (HA.out.no hk)
      clear hk
      have hbr := HA.out.br
      have HC2 := Lib.hid ((HCS.out.mono (G := fun b => b ≠ r) (fun b hb _ => by omega)).kept HK2.out (fun _ _ _ h => h))
      go_wp2_with fail
      go_loopw [9, 10, 11, 12, 13] (fun rv iv _ _ _ wr => ∃ (i : Nat) (L : List Cf), iv = .int .i64 i ∧ i ≤ q ∧ L.length = n ∧ CfsAt wr (fun b => b ≠ r) rv L ∧ AtAt wr w.heap.size g r z L ∧ Kept NoB w wr) (fun _ iv _ _ _ _ => q - (intOf iv).toNat)
      case atStart => exact ⟨0, l, rfl, Nat.zero_le _, HN.out.symm, HC2.out, HA2.out, HK2.out⟩
      case round =>
        obtain ⟨i, L, rfl, hi, hL, hcl, hat, hkk⟩ := hrel
        have HKW := Lib.hid hkk
        have HAT := Lib.hid hat
        have HLL := Lib.hid hL
        obtain ⟨ra, rcp, rfl, hrc, hrm, _⟩ := id hcl
        have HCL : Hid (CfsAt wr (fun b => b ≠ r) (.slice ra n rcp) L) := Lib.hid (hL ▸ hcl)
        rw [hL] at hrc ⊢
        unfold maxLen at hrm
        have hgr : g ≠ r := fun e => hat.rg e.symm
        have hrl : r < wr.heap.size := by obtain ⟨_, _, _, h, _⟩ := hat.at_; exact h.lt
        have HPL : Hid (1 ≤ L.length) := Lib.hid (by rw [hL]; exact hl1)
        have HPM : Hid (L.length ≤ 1000) := Lib.hid (by rw [hL]; omega)
        clear hkk hat hL hcl HK HA HA2 HC2 HCS HK2
        by_cases hlt : i < q
        · obtain ⟨b, o, rfl, _, hbs, u, e0, e1, e2, e3, e4, hns, hep, htop⟩ := HY.out.at_ (by rw [← HQ.out]; exact hlt)
          obtain ⟨c, hc⟩ : ∃ c, c = nthC m i := ⟨_, rfl⟩
          rw [← hc] at e0 e1 e3 e4 hns hep htop
          have hns := hns.mono (G := fun b => b < w.heap.size) (fun _ h _ => h)
          obtain ⟨ua, uc, rfl, hu1, hu2, _⟩ := id hns
          unfold maxLen at hu2
          obtain ⟨t, ht⟩ : ∃ t, t = c.ns.length := ⟨_, rfl⟩
          rw [← ht] at e2 hu1
          have HT := Lib.hid ht
          have HCV : Hid (∀ w', Kept NoB w w' → c.ns.length ≤ 1000 → CfV w' (fun b => b < w.heap.size) (.agg #[.int .i64 c.ch, .int .u64 c.ep, .slice ua t uc, .bool c.fr, .int .i64 c.jn]) c) := Lib.hid (fun w' hk h => ⟨_, by rw [ht], hns.kept hk (fun _ _ _ h => h), hep, htop, h⟩)
          have HTEN : Hid (∀ w', Kept NoB w w' → w'.cell? ⟨b, o + i * 5, none⟩ = some (.int .i64 c.ch) ∧ w'.cell? ⟨b, o + i * 5 + 1, none⟩ = some (.int .u64 c.ep) ∧ w'.cell? ⟨b, o + i * 5 + 2, none⟩ = some (.slice ua t uc) ∧ w'.cell? ⟨b, o + i * 5 + 3, none⟩ = some (.bool c.fr) ∧ w'.cell? ⟨b, o + i * 5 + 4, none⟩ = some (.int .i64 c.jn)) := Lib.hid (fun w' hk =>
            ⟨hk.cell (p := ⟨b, o + i * 5, none⟩) (fun h => h) e0, hk.cell (p := ⟨b, o + i * 5 + 1, none⟩) (fun h => h) e1, hk.cell (p := ⟨b, o + i * 5 + 2, none⟩) (fun h => h) e2, hk.cell (p := ⟨b, o + i * 5 + 3, none⟩) (fun h => h) e3, hk.cell (p := ⟨b, o + i * 5 + 4, none⟩) (fun h => h) e4⟩)
          have hi1 : (i : Int) < (q : Int) := by omega
          clear hns hep htop ht hc e0 e1 e2 e3 e4 hbs
          obtain ⟨ch, ep, ns, fr, jn⟩ := c
          simp only at HCV HTEN HT
          obtain ⟨e0, e1, e2, e3, e4⟩ := HTEN.out _ HKW.out
          by_cases h30 : 30 < t
          · have hd3 : decide (30 < (t : Int)) = true := decide_eq_true (by omega)
            go_wp2_with fail
            refine (HAW.out _).mono ?_
            rintro e w3 ⟨rfl, hk⟩
            have HK3 := Lib.hid (HKW.out.trans hk (fun _ _ h => h))
            clear hk
            go_wp2
            go_ret
            exact ⟨rfl, HK3.out⟩
          · have hd3 : decide (30 < (t : Int)) = false := decide_eq_false (by omega)
            have HCV2 : Hid (∀ w', Kept NoB w w' → CfV w' (fun b => b < w.heap.size) (.agg #[.int .i64 ch, .int .u64 ep, .slice ua t uc, .bool fr, .int .i64 jn]) ⟨ch, ep, ns, fr, jn⟩) := Lib.hid (fun w' hk => HCV.out w' hk (by rw [← HT.out]; omega))
            have HOF := Lib.hid (Of25_any wr _ g r z L HAT.out HPL.out HPM.out k hk0 hk1)
            obtain ⟨E, hE⟩ : ∃ E, E = (nthC L (plc25 k L)).ep := ⟨_, rfl⟩
            have HE := Lib.hid hE
            clear HCV
            go_wp2_with fail
            refine HOF.out.mono ?_
            rintro e w3 ⟨v3, rfl, hv3, hk3⟩
            obtain ⟨u3, rfl, hn3, _⟩ := hv3
            obtain ⟨ua3, uc3, rfl, _⟩ := hn3
            rw [← hE]
            clear hE
            have HK3 := Lib.hid (HKW.out.trans hk3 (fun _ _ h => h))
            have HA3 := Lib.hid (HAT.out.no hk3)
            have hsz3 := hk3.size
            have HRL := Lib.hid (RLearn25_any w3 (fun b => b ≠ r) (.slice ra n rcp) L (HCL.out.kept hk3 (fun _ _ _ h => h)) HPM.out _ ⟨ch, ep, ns, fr, jn⟩ ((HCV2.out w3 HK3.out).mono (fun k _ hk => by omega)) (fun k hk => by omega))
            obtain ⟨e0, e1, e2, e3, e4⟩ := HTEN.out _ HK3.out
            have hfld := fld25_ep
            clear hk3
            go_wp2_with fail
            refine HRL.out.mono ?_
            rintro e w4 ⟨x4, rfl, hx4, hk4⟩
            have HX4 := Lib.hid hx4
            have HK4 := Lib.hid (HK3.out.trans hk4 (fun _ _ h => h))
            have HA4 := Lib.hid (HA3.out.no hk4)
            obtain ⟨xa4, xc4, rfl, _⟩ := hx4
            rw [lrnL_len, HLL.out] at HX4 ⊢
            obtain ⟨e0, e1, e2, e3, e4⟩ := HTEN.out _ HK4.out
            have HLN := Lib.hid (Learn25_any w4 _ g r z L HA4.out HPM.out _ _ ((HCV2.out w4 HK4.out).mono (fun _ _ _ => trivial)) HK4.out.size)
            obtain ⟨lb, hlb⟩ : ∃ lb, lb = lrnB L ⟨ch, ep, ns, fr, jn⟩ := ⟨_, rfl⟩
            rw [← hlb] at HLN ⊢
            have hsz4 := hk4.size
            have hbb : (lb != lb) = false := by simp
            clear hk4 hlb
            go_wp2_with fail
            refine HLN.out.mono ?_
            rintro e w5 ⟨rfl, hat5, hk5⟩
            have HK5 : Hid (Kept NoB w w5) := Lib.hid (by
              have h := (HK4.out.mono (T := fun b => b = r) (fun _ _ h => h.elim)).trans hk5 (fun _ _ h => h)
              exact ⟨h.os, h.tape, h.output, h.size, fun i hi _ => h.block i hi (fun e => by have e : i = r := e; omega)⟩)
            have HX5 := Lib.hid (HX4.out.kept hk5 (fun _ _ h e => h e))
            have HA5 := Lib.hid hat5
            have HEP : Hid (E ≤ (nthC (lrnL L ⟨ch, ep, ns, fr, jn⟩) (plc25 k (lrnL L ⟨ch, ep, ns, fr, jn⟩))).ep) := Lib.hid (by
              rw [HE.out]
              have h : plc25 k (lrnL L ⟨ch, ep, ns, fr, jn⟩) = plc25 k L := by unfold plc25; rw [lrnL_len]
              rw [h]
              exact lrn_ep _ _ _)
            have HL2 : Hid ((lrnL L ⟨ch, ep, ns, fr, jn⟩).length = n) := Lib.hid ((lrnL_len _ _).trans HLL.out)
            obtain ⟨M, hM⟩ : ∃ M, M = lrnL L ⟨ch, ep, ns, fr, jn⟩ := ⟨_, rfl⟩
            rw [← hM] at HX5 HA5 HEP HL2
            have HOF2 := Lib.hid (Of25_any w5 _ g r z M HA5.out (by rw [HL2.out]; exact hl1) (by rw [HL2.out]; omega) k hk0 hk1)
            obtain ⟨E2, hE2⟩ : ∃ E, E = (nthC M (plc25 k M)).ep := ⟨_, rfl⟩
            rw [← hE2] at HEP
            have hlt2 : decide (E2 < E) = false := decide_eq_false (by have := HEP.out; omega)
            clear hat5 hk5 hM
            go_wp2_with fail
            refine HOF2.out.mono ?_
            rintro e w6 ⟨v6, rfl, hv6, hk6⟩
            obtain ⟨u6, rfl, hn6, _⟩ := hv6
            obtain ⟨ua6, uc6, rfl, _⟩ := hn6
            rw [← hE2]
            have HK6 := Lib.hid (HK5.out.trans hk6 (fun _ _ h => h))
            have HA6 := Lib.hid (HA5.out.no hk6)
            have HX6 := Lib.hid (HX5.out.kept hk6 (fun _ _ _ h => h))
            have HCF := Lib.hid (Confs25_any w6 _ g r z M HA6.out (by rw [HL2.out]; omega))
            clear hk6 hE2
            go_wp2_with fail
            refine HCF.out.mono ?_
            rintro e w7 h7
            obtain ⟨v7, rfl, hv7, hk7⟩ := h7.cfs25
            have HSA := Lib.hid (SameAll_any v7 (.slice xa4 n xc4) M M _ _ w7 hv7 (HX6.out.kept hk7 (fun _ _ _ h => h)))
            rw [decide_eq_true rfl] at HSA
            have HK7 := Lib.hid (HK6.out.trans hk7 (fun _ _ h => h))
            have HA7 := Lib.hid (HA6.out.no hk7)
            have HX7 := Lib.hid (HX6.out.kept hk7 (fun _ _ _ h => h))
            obtain ⟨va7, vc7, rfl, _⟩ := hv7
            clear hk7 h7
            go_wp2_with fail
            refine HSA.out.mono ?_
            rintro e w8 ⟨rfl, hk8⟩
            have HK8 := Lib.hid (HK7.out.trans hk8 (fun _ _ h => h))
            have HA8 := Lib.hid (HA7.out.no hk8)
            have HX8 := Lib.hid (HX7.out.kept hk8 (fun _ _ _ h => h))
            clear hk8
            go_wp2
            exact ⟨⟨i + 1, M, by go_num, by omega, HL2.out, HX8.out, HA8.out, HK8.out⟩, by simp [intOf]; omega⟩
        · obtain rfl : i = q := by omega
          clear hi hlt
          have hpl := plc25_lt (k := k) HPL.out
          have hpe := plc25_eq k L
          rw [HLL.out] at hpe
          obtain ⟨p, hp⟩ : ∃ p, p = plc25 k L := ⟨_, rfl⟩
          rw [← hp] at hpl hpe
          have HRC := Lib.hid (fun w' => RChain_any k n hk0 hk1 (by omega) w')
          rw [hpe] at HRC
          obtain ⟨b, o, rfl, hbr2, hbs, u, e0, e1, e2, e3, e4, hns, hep, htop, hnl⟩ := HCL.out.at_ hpl
          obtain ⟨y, hy⟩ : ∃ y, y = nthC L p := ⟨_, rfl⟩
          rw [← hy] at e0 e1 e3 e4 hns hep htop hnl
          obtain ⟨ua, uc, rfl, hu1, hu2, _⟩ := id hns
          have HOF := Lib.hid (fun w' (hk : Kept NoB wr w') => Of25_any w' _ g r z L (HAT.out.no hk) HPL.out HPM.out k hk0 hk1)
          have HHD := Lib.hid (fun w' (hk : Kept NoB wr w') => Head25_any w' _ g r z L (HAT.out.no hk) HPL.out HPM.out k hk0 hk1)
          have HRD := Lib.hid (fun w' (hk : Kept NoB wr w') => Reader25_any w' _ g r z L (HAT.out.no hk) HPL.out HPM.out k k hk0 hk1 (by omega))
          have HCN := Lib.hid (fun w' (hk : Kept NoB wr w') => Chains25_any w' _ g r z L (HAT.out.no hk))
          rw [← hp, ← hy] at HOF HHD HRD
          rw [HLL.out] at HCN hpl
          have HYV : Hid (∀ w', Kept NoB wr w' → CfV w' (fun b => b ≠ r) (.agg #[.int .i64 y.ch, .int .u64 y.ep, .slice ua y.ns.length uc, .bool y.fr, .int .i64 y.jn]) y) := Lib.hid (fun w' hk => ⟨_, rfl, hns.kept hk (fun _ _ _ h => h), hep, htop, hnl⟩)
          have HSM := Lib.hid (fun w' v (hk : Kept NoB wr w') (hv : CfV w' (fun _ => True) v y) => RSame_any v _ y y _ _ w' hv (HYV.out w' hk))
          rw [show sameC y y = true from decide_eq_true rfl] at HSM
          have HRH := Lib.hid (fun w' (hk : Kept NoB wr w') => RHead19 _ y _ w' (HYV.out w' hk).r25)
          have HRR := Lib.hid (fun w' (hk : Kept NoB wr w') => RReader19 _ y k (by omega) _ w' (HYV.out w' hk).r25)
          obtain ⟨h1, hh1⟩ : ∃ h1, h1 = headN y := ⟨_, rfl⟩
          obtain ⟨h2, hh2⟩ : ∃ h2, h2 = readN y k := ⟨_, rfl⟩
          rw [← hh1] at HHD HRH
          rw [← hh2] at HRD HRR
          have hq1 : (h1 == h1) = true := by simp
          have hq2 : (h2 == h2) = true := by simp
          have hq3 : ((n : Int) == (n : Int)) = true := by simp
          have hwk : IntKind.i64.wrap k = k := IntWalk.i64_in _ (by omega)
          obtain ⟨ych, yep, yns, yfr, yjn⟩ := y
          simp only at e0 e1 e2 e3 e4 HSM HRH HRR HOF
          have hpl1 : (p : Int) < (n : Int) := by omega
          have hpl0 : (0 : Int) ≤ (p : Int) := by omega
          have HBL := Lib.hid (heap_alloc_new wr (.cells #[.int .i64 ych, .int .u64 yep, .slice ua yns.length uc, .bool yfr, .int .i64 yjn] 33))
          have HKB := Lib.hid ((Kept.refl NoB wr).alloc (.cells #[.int .i64 ych, .int .u64 yep, .slice ua yns.length uc, .bool yfr, .int .i64 yjn] 33))
          obtain ⟨W, hW⟩ : ∃ W, W = wr.alloc (.cells #[.int .i64 ych, .int .u64 yep, .slice ua yns.length uc, .bool yfr, .int .i64 yjn] 33) := ⟨_, rfl⟩
          rw [← hW] at HBL HKB
          have HWW := Lib.hid hW
          have HTEN : Hid (∀ w', Kept NoB W w' → w'.cell? ⟨wr.heap.size, 0, none⟩ = some (.int .i64 ych) ∧ w'.cell? ⟨wr.heap.size, 1, none⟩ = some (.int .u64 yep) ∧ w'.cell? ⟨wr.heap.size, 2, none⟩ = some (.slice ua yns.length uc) ∧ w'.cell? ⟨wr.heap.size, 3, none⟩ = some (.bool yfr) ∧ w'.cell? ⟨wr.heap.size, 4, none⟩ = some (.int .i64 yjn)) := Lib.hid (fun w' hk => cells5 (hk.heap (fun h => h) HBL.out))
          have HKe := Lib.hid (Kept.refl NoB W).drew
          have HT := Lib.hid (HTEN.out _ HKe.out)
          clear hns hep htop hnl hh1 hh2 hy hp hpe hbs hW
          go_wp2_with (go_at_call 14; refine (HRC.out _).mono ?_; rintro e w3 ⟨rfl, rfl⟩)
          clear e0 e1 e2 e3 e4
          rw [← HWW.out]
          go_region_held3 (fun w' => w'.cell? ⟨wr.heap.size, 0, none⟩ = some (.int .i64 ych) ∧ w'.cell? ⟨wr.heap.size, 1, none⟩ = some (.int .u64 yep) ∧ w'.cell? ⟨wr.heap.size, 2, none⟩ = some (.slice ua yns.length uc) ∧ w'.cell? ⟨wr.heap.size, 3, none⟩ = some (.bool yfr) ∧ w'.cell? ⟨wr.heap.size, 4, none⟩ = some (.int .i64 yjn))
            (with_reducible exact HT.out)
            ((first
              | (go_at_call 9; (with_reducible refine (HOF.out _ (HKB.out.trans HKe.out (fun _ _ h => h))).mono ?_); rintro e w1 ⟨v1, rfl, hv1, hk1⟩; have HV1 := Lib.hid (hv1.mono (G := fun _ => True) (fun _ _ _ => trivial)); obtain ⟨u1, rfl, hn1, _⟩ := hv1; obtain ⟨ua1, uc1, rfl, _⟩ := hn1; replace HKe := Lib.hid (HKe.out.trans hk1 (fun _ _ h => h)); replace HT := Lib.hid (HTEN.out _ HKe.out); clear hk1)
              | (go_at_call 15; (with_reducible refine (HSM.out _ _ (HKB.out.trans HKe.out (fun _ _ h => h)) (by first | exact HV1.out | exact HV1.out.kept ((Kept.refl NoB _).drew) (fun _ _ _ h => h))).mono ?_); rintro e w1 ⟨rfl, hk1⟩; replace HKe := Lib.hid (HKe.out.trans hk1 (fun _ _ h => h)); replace HT := Lib.hid (HTEN.out _ HKe.out); clear hk1)
              | (go_at_call 16; (with_reducible refine (HHD.out _ (HKB.out.trans HKe.out (fun _ _ h => h))).mono ?_); rintro e w1 ⟨rfl, hk1⟩; replace HKe := Lib.hid (HKe.out.trans hk1 (fun _ _ h => h)); replace HT := Lib.hid (HTEN.out _ HKe.out); clear hk1)
              | (go_at_call 17; (with_reducible refine (HRH.out _ (HKB.out.trans HKe.out (fun _ _ h => h))).mono ?_); rintro e w1 ⟨rfl, hk1⟩; replace HKe := Lib.hid (HKe.out.trans hk1 (fun _ _ h => h)); replace HT := Lib.hid (HTEN.out _ HKe.out); clear hk1)
              | (go_at_call 18; (with_reducible refine (HRD.out _ (HKB.out.trans HKe.out (fun _ _ h => h))).mono ?_); rintro e w1 ⟨rfl, hk1⟩; replace HKe := Lib.hid (HKe.out.trans hk1 (fun _ _ h => h)); replace HT := Lib.hid (HTEN.out _ HKe.out); clear hk1)
              | (go_at_call 19; (with_reducible refine (HRR.out _ (HKB.out.trans HKe.out (fun _ _ h => h))).mono ?_); rintro e w1 ⟨rfl, hk1⟩; replace HKe := Lib.hid (HKe.out.trans hk1 (fun _ _ h => h)); replace HT := Lib.hid (HTEN.out _ HKe.out); clear hk1)
              | (go_at_call 20; (with_reducible refine (HCN.out _ (HKB.out.trans HKe.out (fun _ _ h => h))).mono ?_); rintro e w1 ⟨rfl, rfl⟩)
              | (go_at_call 6; (with_reducible refine (HAW.out _).mono ?_); rintro e w1 ⟨rfl, hk1⟩; replace HKe := Lib.hid (HKe.out.trans hk1 (fun _ _ h => h)); replace HT := Lib.hid (HTEN.out _ HKe.out); clear hk1)
              | fail))
          go_wp2
          go_ret
          exact ⟨rfl, HKW.out.trans (HKB.out.trans HKe.out (fun _ _ h => h)) (fun _ _ h => h)⟩
end Go.Proofs.Ytpgchapemclocaa
