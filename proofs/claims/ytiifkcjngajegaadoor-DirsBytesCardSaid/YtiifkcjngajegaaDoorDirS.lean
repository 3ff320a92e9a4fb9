/-
  Layer 29: like of the statements; the walk of DirsGets.
-/
import Derived.Test.YtiifkcjngajegaaDoorDirR
namespace Go.Proofs.YtiifkcjngajegaaDoor
open Go.RowKit
set_option linter.unusedVariables false

set_option maxRecDepth 100000 in
set_option maxHeartbeats 4000000 in
theorem like29_true (v u : Value) (l : List En) (F G : Nat → Prop) (w : World) (h : ESl w F v l) (k : ESl w G u l) (hl : l.length ≤ 1000000) :
    Calls Tryd.prog 18 #[v, u] w fun e w' => e = .returned (.bool true) ∧ Kept NoB w w' := by
  obtain ⟨a, c, rfl, _⟩ := h.form
  obtain ⟨a2, c2, rfl, _⟩ := k.form
  have HP := Lib.hid h
  have HQ := Lib.hid k
  clear h k
  go_enter Tryd.func18, Tryd.ntmps18
  go_wp2_with fail
  go_loopw [5] (fun i wr => ∃ j : Nat, j ≤ l.length ∧ i = .int .i64 j ∧ Kept NoB w wr) (fun i _ => l.length - (RowKit.intOf i).toNat)
  case atStart => exact ⟨0, Nat.zero_le _, rfl, Kept.refl _ _⟩
  case round =>
    obtain ⟨j, hj, rfl, hkk⟩ := hrel
    have HK := Lib.hid hkk
    by_cases hlt : j < l.length
    · have hj1 : (j : Int) < (l.length : Int) := by omega
      have hj0 : (0 : Int) ≤ (j : Int) := by omega
      obtain ⟨b, o, rfl, _, _, e0, e1⟩ := (HP.out.no hkk).at_ hlt
      obtain ⟨b', o', rfl, _, _, f0, f1⟩ := (HQ.out.no hkk).at_ hlt
      obtain ⟨x, hx⟩ : ∃ x, x = eth l j := ⟨_, rfl⟩
      rw [← hx] at e0 e1 f0 f1
      obtain ⟨nm, nd⟩ := x
      simp only at e0 e1 f0 f1
      obtain ⟨sx, hsx⟩ : ∃ sx : ByteArray, sx = ⟨nm.toArray⟩ := ⟨_, rfl⟩
      rw [← hsx] at e0 f0
      clear hkk hx hsx
      go_wp2_with fail
      go_region
      go_wp2
      go_roundw
      case rel => exact ⟨j + 1, by omega, by go_num, by first | exact HK.out | exact HK.out.drew | exact HK.out.drewN _⟩
      case measure => simp [RowKit.intOf]; omega
    · obtain rfl : j = l.length := by omega
      clear hkk
      go_wp2_with fail
      go_ret
      exact ⟨rfl, HK.out⟩
theorem gotE_all (b : List Int) : (gotE b).1 = 0 → putE (gotE b).2 = b ∧ chkE (gotE b).2 = 0 := by
  unfold gotE
  by_cases h1 : 512 < b.length
  · rw [if_pos h1]; intro h; cases h
  · rw [if_neg h1]
    by_cases h2 : b.length % 16 ≠ 0
    · rw [if_pos h2]; intro h; cases h
    · rw [if_neg h2]
      cases entsR (b.length / 16) b with
      | none => intro h; cases h
      | some l =>
        simp only
        by_cases h3 : chkE l = 0 ∧ bytEs l = b
        · rw [if_pos h3]; intro _; exact ⟨by unfold putE; rw [if_pos h3.1]; exact h3.2, h3.1⟩
        · rw [if_neg h3]; intro h; cases h
theorem gotE_len (b : List Int) : (gotE b).2.length ≤ 32 ∧ ∀ p ∈ (gotE b).2, p.1.length ≤ 11 := by
  by_cases h0 : (gotE b).1 = 0
  · obtain ⟨h1, _, h2⟩ := chkE_zero (gotE_all b h0).2
    exact ⟨h1, fun p hp => (h2 p hp).1.1.2⟩
  · have : (gotE b).2 = [] := by
      revert h0
      unfold gotE
      by_cases h1 : 512 < b.length
      · rw [if_pos h1]; intro _; rfl
      · rw [if_neg h1]
        by_cases h2 : b.length % 16 ≠ 0
        · rw [if_pos h2]; intro _; rfl
        · rw [if_neg h2]
          cases entsR (b.length / 16) b with
          | none => intro _; rfl
          | some l =>
            simp only
            by_cases h3 : chkE l = 0 ∧ bytEs l = b
            · rw [if_pos h3]; intro h; exact absurd rfl h
            · rw [if_neg h3]; intro _; rfl
    rw [this]
    exact ⟨by decide, fun _ h => by cases h⟩
set_option maxRecDepth 100000 in
set_option maxHeartbeats 4000000 in
theorem DirsGets_any (v : Value) (b0 : List Int) (w : World) (h : BSl w (fun k => k < w.heap.size) v b0) (hv : Lng w) :
    Calls Tryd.prog 4 #[v] w fun e w' => e = .returned (.bool true) ∧ Kept NoB w w' := by
  have HV := Lib.hid hv
  have HB0 := Lib.hid h
  have HAW := Lib.hid (fun w hv => awake29_any w hv)
  obtain ⟨b, hb⟩ : ∃ b, b = b0.take 700 := ⟨_, rfl⟩
  have hbl : b.length ≤ 1000000 := by rw [hb, List.length_take]; omega
  have HCT := Lib.hid (Cut_any v b0 700 _ w h (by decide))
  rw [← hb] at HCT
  have HBL := Lib.hid hbl
  have HVG := Lib.hid (fun (w' : World) (u : Value) (h : BSl w' (fun k => k < w.heap.size) u b) => vGet29_any u b _ w' h HBL.out)
  have HRG := Lib.hid (fun (w' : World) (u : Value) (hk : w.heap.size ≤ w'.heap.size) (h : BSl w' (fun k => k < w.heap.size) u b) => rGet29_any u b _ w' h (fun k hk' => Nat.lt_of_lt_of_le hk' hk) HBL.out)
  have hall := gotE_all b
  obtain ⟨hl32, hnm⟩ := gotE_len b
  obtain ⟨er, E, hg⟩ : ∃ er E, gotE b = (er, E) := ⟨_, _, rfl⟩
  rw [hg] at HVG HRG hall hl32 hnm
  simp only at HVG HRG hall hl32 hnm
  have HPT := Lib.hid (fun (u : Value) (F : Nat → Prop) (w : World) (h : ESl w F u E) => vPut29_any u E F w h (fun j hj => Nat.le_trans (hnm _ (eth_mem hj)) (by decide)))
  have HLK := Lib.hid (fun (u v : Value) (F G : Nat → Prop) (w : World) (h : ESl w F u E) (k : ESl w G v E) => like29_true u v E F G w h k (by omega))
  have HK := Lib.hid (Kept.refl NoB w)
  obtain ⟨pe, hpe⟩ : ∃ q, q = chkE E := ⟨_, rfl⟩
  obtain ⟨PL, hPL⟩ : ∃ q, q = putE E := ⟨_, rfl⟩
  rw [← hpe, ← hPL] at HPT hall
  clear h hv hb hbl hg hl32 hnm hpe hPL
  by_cases he : er = 0
  · obtain ⟨h1, h2⟩ := hall he
    subst h1 h2 he
    clear hall
    go_enter Tryd.func4, Tryd.ntmps4
    go_wp2_with (first
      | (go_at_call 19; refine HCT.out.mono ?_; rintro e w1 ⟨u, rfl, hu, rfl⟩; have HB := Lib.hid hu; clear hu)
      | (go_at_call 15; refine (HVG.out _ _ HB.out).mono ?_; rintro e w2 ⟨v1, rfl, hv1, hk⟩; have hv1' := hv1.any; (obtain ⟨a1, c1, rfl, _⟩ := hv1); replace HK := Lib.hid (HK.out.trans hk (fun _ _ h => h)); (try replace HB := Lib.hid (HB.out.no29 hk)); (try replace HE1 := Lib.hid (HE1.out.no hk)); (try replace HE2 := Lib.hid (HE2.out.no hk)); (try replace HP := Lib.hid (HP.out.no29 hk)); clear hk; have HE1 := Lib.hid hv1'; clear hv1')
      | (go_at_call 20; refine (HRG.out _ _ HK.out.size HB.out).mono ?_; rintro e w3 ⟨v2, rfl, hv2, hk⟩; have hv2' := hv2.any; (obtain ⟨a2, c2, rfl, _⟩ := hv2); replace HK := Lib.hid (HK.out.trans hk (fun _ _ h => h)); (try replace HB := Lib.hid (HB.out.no29 hk)); (try replace HE1 := Lib.hid (HE1.out.no hk)); (try replace HE2 := Lib.hid (HE2.out.no hk)); (try replace HP := Lib.hid (HP.out.no29 hk)); clear hk; have HE2 := Lib.hid hv2'; clear hv2')
      | (go_at_call 11; refine (HPT.out _ _ _ HE1.out).mono ?_; rintro e w4 ⟨a3, c3, rfl, hp, hk⟩; replace HK := Lib.hid (HK.out.trans hk (fun _ _ h => h)); (try replace HB := Lib.hid (HB.out.no29 hk)); (try replace HE1 := Lib.hid (HE1.out.no hk)); (try replace HE2 := Lib.hid (HE2.out.no hk)); (try replace HP := Lib.hid (HP.out.no29 hk)); clear hk; have HP := Lib.hid hp; clear hp)
      | (go_at_call 18; refine (HLK.out _ _ _ _ _ HE1.out HE2.out).mono ?_; rintro e w5 ⟨rfl, hk⟩; replace HK := Lib.hid (HK.out.trans hk (fun _ _ h => h)); (try replace HB := Lib.hid (HB.out.no29 hk)); (try replace HE1 := Lib.hid (HE1.out.no hk)); (try replace HE2 := Lib.hid (HE2.out.no hk)); (try replace HP := Lib.hid (HP.out.no29 hk)); clear hk)
      | (go_at_call 16; refine (Same_any _ _ _ _ _ _ _ HP.out HB.out).mono ?_; rw [decide_eq_true rfl]; rintro e w6 ⟨rfl, hk⟩; replace HK := Lib.hid (HK.out.trans hk (fun _ _ h => h)); (try replace HB := Lib.hid (HB.out.no29 hk)); (try replace HE1 := Lib.hid (HE1.out.no hk)); (try replace HE2 := Lib.hid (HE2.out.no hk)); (try replace HP := Lib.hid (HP.out.no29 hk)); clear hk)
      | (go_at_call 8; refine (HAW.out _ (HV.out.no HK.out)).mono ?_; rintro e w7 ⟨rfl, hk⟩; replace HK := Lib.hid (HK.out.trans hk (fun _ _ h => h)); (try replace HB := Lib.hid (HB.out.no29 hk)); (try replace HE1 := Lib.hid (HE1.out.no hk)); (try replace HE2 := Lib.hid (HE2.out.no hk)); (try replace HP := Lib.hid (HP.out.no29 hk)); clear hk))
    go_ret
    exact ⟨rfl, HK.out⟩
  · have g1 : (er != 0) = true := bne_iff_ne.2 he
    have g2 : (er == 0) = false := by simpa using he
    clear hall he
    go_enter Tryd.func4, Tryd.ntmps4
    go_wp2_with (first
      | (go_at_call 19; refine HCT.out.mono ?_; rintro e w1 ⟨u, rfl, hu, rfl⟩; have HB := Lib.hid hu; clear hu)
      | (go_at_call 15; refine (HVG.out _ _ HB.out).mono ?_; rintro e w2 ⟨v1, rfl, hv1, hk⟩; have hv1' := hv1.any; (obtain ⟨a1, c1, rfl, _⟩ := hv1); replace HK := Lib.hid (HK.out.trans hk (fun _ _ h => h)); (try replace HB := Lib.hid (HB.out.no29 hk)); (try replace HE1 := Lib.hid (HE1.out.no hk)); (try replace HE2 := Lib.hid (HE2.out.no hk)); (try replace HP := Lib.hid (HP.out.no29 hk)); clear hk; have HE1 := Lib.hid hv1'; clear hv1')
      | (go_at_call 20; refine (HRG.out _ _ HK.out.size HB.out).mono ?_; rintro e w3 ⟨v2, rfl, hv2, hk⟩; have hv2' := hv2.any; (obtain ⟨a2, c2, rfl, _⟩ := hv2); replace HK := Lib.hid (HK.out.trans hk (fun _ _ h => h)); (try replace HB := Lib.hid (HB.out.no29 hk)); (try replace HE1 := Lib.hid (HE1.out.no hk)); (try replace HE2 := Lib.hid (HE2.out.no hk)); (try replace HP := Lib.hid (HP.out.no29 hk)); clear hk; have HE2 := Lib.hid hv2'; clear hv2')
      | (go_at_call 11; refine (HPT.out _ _ _ HE1.out).mono ?_; rintro e w4 ⟨a3, c3, rfl, hp, hk⟩; replace HK := Lib.hid (HK.out.trans hk (fun _ _ h => h)); (try replace HB := Lib.hid (HB.out.no29 hk)); (try replace HE1 := Lib.hid (HE1.out.no hk)); (try replace HE2 := Lib.hid (HE2.out.no hk)); (try replace HP := Lib.hid (HP.out.no29 hk)); clear hk; have HP := Lib.hid hp; clear hp)
      | (go_at_call 18; refine (HLK.out _ _ _ _ _ HE1.out HE2.out).mono ?_; rintro e w5 ⟨rfl, hk⟩; replace HK := Lib.hid (HK.out.trans hk (fun _ _ h => h)); (try replace HB := Lib.hid (HB.out.no29 hk)); (try replace HE1 := Lib.hid (HE1.out.no hk)); (try replace HE2 := Lib.hid (HE2.out.no hk)); (try replace HP := Lib.hid (HP.out.no29 hk)); clear hk)
      | (go_at_call 16; refine (Same_any _ _ _ _ _ _ _ HP.out HB.out).mono ?_; rw [decide_eq_true rfl]; rintro e w6 ⟨rfl, hk⟩; replace HK := Lib.hid (HK.out.trans hk (fun _ _ h => h)); (try replace HB := Lib.hid (HB.out.no29 hk)); (try replace HE1 := Lib.hid (HE1.out.no hk)); (try replace HE2 := Lib.hid (HE2.out.no hk)); (try replace HP := Lib.hid (HP.out.no29 hk)); clear hk)
      | (go_at_call 8; refine (HAW.out _ (HV.out.no HK.out)).mono ?_; rintro e w7 ⟨rfl, hk⟩; replace HK := Lib.hid (HK.out.trans hk (fun _ _ h => h)); (try replace HB := Lib.hid (HB.out.no29 hk)); (try replace HE1 := Lib.hid (HE1.out.no hk)); (try replace HE2 := Lib.hid (HE2.out.no hk)); (try replace HP := Lib.hid (HP.out.no29 hk)); clear hk))
    go_ret
    exact ⟨rfl, HK.out⟩
end Go.Proofs.YtiifkcjngajegaaDoor
