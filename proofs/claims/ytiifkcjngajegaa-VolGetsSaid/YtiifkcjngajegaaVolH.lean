/-
  Layer 30: which intents may be: Check of the package, and the chapter's.
-/
import Derived.Test.YtiifkcjngajegaaVolG
import Derived.BigRegion
import Derived.Deep.RegionLaw
import Derived.Deep.RegionHeld3
namespace Go.Proofs.Ytiifkcjngajegaa
open Go.RowKit
set_option linter.unusedVariables false

def chkStep (n b prev : Int) (p : Pt) : Int := if (what30 n b p.1).1 = 0 ∨ p.1 = 0 then 20 else if p.1 ≤ prev then 4 else if 64 < p.2.2.length then 6 else 0
def chkGo (n b : Int) : Int → List Pt → Int
  | _, [] => 0
  | prev, p :: l => if chkStep n b prev p = 0 then chkGo n b p.1 l else chkStep n b prev p
/-- What is wrong with patches. -/
def chkP (n b : Int) (l : List Pt) : Int := if ¬ rgt30 n b then 1 else if 20 < l.length then 9 else chkGo n b 0 l
theorem drop_cons30 {l : List Pt} {k : Nat} (h : k < l.length) : l.drop k = ptl l k :: l.drop (k + 1) := by
  rw [ptl_eq h]; exact List.drop_eq_getElem_cons h
/-- The key ahead. -/
def prv30 (l : List Pt) (k : Nat) : Int := if k = 0 then 0 else (ptl l (k - 1)).1
theorem prv_succ (l : List Pt) (k : Nat) : prv30 l (k + 1) = (ptl l k).1 := by unfold prv30; rw [if_neg (by omega), Nat.add_sub_cancel]
theorem what_small (n b key : Int) (h : 0 ≤ key) (hr : rgt30 n b) : ((what30 n b key).1 = 0 ∨ key = 0) ↔ (what30 n b key).1 < 2 := by
  obtain ⟨g1, g2, g3, g4⟩ := id hr
  unfold what30
  rw [if_neg (fun h => h hr)]
  by_cases h0 : key = 0
  · rw [if_pos h0]; exact ⟨fun _ => by show (1 : Int) < 2; omega, fun _ => .inr h0⟩
  · rw [if_neg h0]
    by_cases h1 : key = 1
    · rw [if_pos h1]; exact ⟨fun h => by rcases h with h | h; exact absurd h (by show ¬ (2 : Int) = 0; omega); omega, fun h => absurd h (by show ¬ (2 : Int) < 2; omega)⟩
    · rw [if_neg h1]
      by_cases h2 : key ≤ n + 1
      · rw [if_pos h2]; exact ⟨fun h => by rcases h with h | h; exact absurd h (by show ¬ (3 : Int) = 0; omega); omega, fun h => absurd h (by show ¬ (3 : Int) < 2; omega)⟩
      · rw [if_neg h2]
        by_cases h3 : key ≤ n + b + 1
        · rw [if_pos h3]; exact ⟨fun h => by rcases h with h | h; exact absurd h (by show ¬ (4 : Int) = 0; omega); omega, fun h => absurd h (by show ¬ (4 : Int) < 2; omega)⟩
        · rw [if_neg h3]; exact ⟨fun _ => by show (0 : Int) < 2; omega, fun _ => .inl rfl⟩
theorem ret_i30 {a b : Int} (h : a = b) : Ending.returned (.int .i64 a) = .returned (.int .i64 b) := by rw [h]
set_option maxRecDepth 100000 in
set_option maxHeartbeats 4000000 in
theorem vCheck_any (n b : Int) (v : Value) (l : List Pt) (F G : Nat → Prop) (w : World) (h : PSl w F G v l) (hkeys : ∀ j, j < l.length → 0 ≤ (ptl l j).1 ∧ (ptl l j).1 < 4294967296) :
    Calls Try.prog 25 #[.agg #[.int .i64 n, .int .i64 b], v] w fun e w' => e = .returned (.int .i64 (chkP n b l)) ∧ Kept NoB w w' := by
  obtain ⟨a, c, rfl, hmax⟩ := h.form
  unfold maxLen at hmax
  have HP := Lib.hid h
  have HKEY := Lib.hid hkeys
  have HK := Lib.hid ((Kept.refl NoB w).alloc (.cells #[.int .i64 n, .int .i64 b] 44))
  have HB := Lib.hid (heap_alloc_new w (.cells #[.int .i64 n, .int .i64 b] 44))
  obtain ⟨c0, c1⟩ := cell2_30 HB.out
  have HR := Lib.hid (fun w => vRight_any n b w)
  obtain ⟨R, hR⟩ : ∃ R, R = chkP n b l := ⟨_, rfl⟩
  rw [← hR]
  unfold chkP at hR
  have HE := Lib.hid hR
  clear h hkeys hR
  by_cases hr : rgt30 n b
  · rw [decide_eq_true hr] at HR
    by_cases h20 : 20 < l.length
    · have g1 : (20 : Int) < (l.length : Int) := by omega
      have HRR : Hid (R = 9) := Lib.hid (by rw [HE.out, if_neg (fun h => h hr), if_pos h20])
      clear hr h20
      go_enter Try.func25, Try.ntmps25
      go_wp2_with (go_at_call 17; refine (HR.out _).mono ?_; rintro e w2 ⟨rfl, hk2⟩; have HK2 := Lib.hid (HK.out.trans hk2 (fun _ _ h => h)); have HB2 := Lib.hid (hk2.heap (fun h => h) HB.out); clear hk2)
      go_ret
      exact ⟨ret_i30 HRR.out.symm, HK2.out⟩
    · have g1 : (l.length : Int) ≤ 20 := by omega
      have g1' : decide ((20 : Int) < (l.length : Int)) = false := decide_eq_false (by omega)
      have HRR : Hid (R = chkGo n b 0 l) := Lib.hid (by rw [HE.out, if_neg (fun h => h hr), if_neg h20])
      have HRG := Lib.hid hr
      have hl20 : l.length ≤ 20 := by omega
      clear hr h20
      go_enter Try.func25, Try.ntmps25
      go_wp2_with (go_at_call 17; refine (HR.out _).mono ?_; rintro e w2 ⟨rfl, hk2⟩; have HK2 := Lib.hid (HK.out.trans hk2 (fun _ _ h => h)); have HB2 := Lib.hid (hk2.heap (fun h => h) HB.out); clear hk2)
      clear c0 c1
      go_loopw [5, 18] (fun p i wr => ∃ k : Nat, k ≤ l.length ∧ i = .int .i64 k ∧ p = .int .u32 (prv30 l k) ∧ R = chkGo n b (prv30 l k) (l.drop k) ∧ wr.heap[w.heap.size]? = some (.cells #[.int .i64 n, .int .i64 b] 44 (0, 0)) ∧ Kept NoB w wr) (fun _ i _ => l.length - (RowKit.intOf i).toNat)
      case atStart => exact ⟨0, Nat.zero_le _, rfl, rfl, HRR.out, HB2.out, HK2.out⟩
      case round =>
        obtain ⟨k, hk, rfl, rfl, hR, hb, hkk⟩ := hrel
        have HKR := Lib.hid hkk
        have HBR := Lib.hid hb
        by_cases hlt : k < l.length
        · have hk1 : (k : Int) < (l.length : Int) := by omega
          have hk0 : (0 : Int) ≤ (k : Int) := by omega
          rw [drop_cons30 hlt] at hR
          obtain ⟨bb, oo, da, dn, dc, ha, _, _, e0, e1, e2, hdn, _⟩ := (HP.out.no hkk).at_ hlt
          subst ha
          have hky := HKEY.out k hlt
          have HPS := Lib.hid (prv_succ l k)
          have hpr : 0 ≤ prv30 l k ∧ prv30 l k < 4294967296 := by
            unfold prv30
            split
            · omega
            · exact HKEY.out (k - 1) (by omega)
          obtain ⟨pr, hpr2⟩ : ∃ pr, pr = prv30 l k := ⟨_, rfl⟩
          rw [← hpr2] at hR hpr ⊢
          obtain ⟨x, hx⟩ : ∃ x, x = ptl l k := ⟨_, rfl⟩
          rw [← hx] at hR e0 e1 hdn hky HPS
          obtain ⟨ky, vr, dd⟩ := x
          simp only at e0 e1 hdn hky HPS
          have HGO : Hid (R = if chkStep n b pr (ky, vr, dd) = 0 then chkGo n b ky (l.drop (k + 1)) else chkStep n b pr (ky, vr, dd)) := Lib.hid hR
          have HBX := Lib.hid (heap_alloc_new wr (.cells #[.int .u32 ky, .int .u64 vr, .slice da dn dc] 101))
          have HKW := Lib.hid (hkk.alloc (.cells #[.int .u32 ky, .int .u64 vr, .slice da dn dc] 101))
          have HBW := Lib.hid (((Kept.refl NoB wr).alloc (.cells #[.int .u32 ky, .int .u64 vr, .slice da dn dc] 101)).heap (fun h => h) hb)
          obtain ⟨c0, c1⟩ := cell2_30 HBW.out
          obtain ⟨p0, p1, p2⟩ := cells3 HBX.out
          have HW := Lib.hid (fun w => vWhat_any n b ky w hky.1 hky.2)
          obtain ⟨wh, hwh⟩ : ∃ wh, wh = what30 n b ky := ⟨_, rfl⟩
          have hST : chkStep n b pr (ky, vr, dd) = if wh.1 = 0 ∨ ky = 0 then 20 else if ky ≤ pr then 4 else if 64 < dd.length then 6 else 0 := by rw [hwh]; rfl
          rw [← hwh] at HW
          obtain ⟨x1, x2⟩ := wh
          simp only at HW hST
          rw [← hdn] at hST
          have hdn2 : (dn : Int) ≤ 9223372036854775807 ∨ True := .inr trivial
          clear hR hx hpr2 hb hkk hdn hwh
          by_cases hx0 : x1 = 0
          · have HST : Hid (chkStep n b pr (ky, vr, dd) = 20) := Lib.hid (by rw [hST, if_pos (.inl hx0)])
            have g2 : (x1 == 0) = true := by simpa using hx0
            clear hST hx0
            have HST2 : Hid (R = 20) := Lib.hid (by rw [HGO.out, HST.out]; try simp)
            go_wp2_with (go_at_call 15; refine (HW.out _).mono ?_; rintro e w3 ⟨rfl, hk3⟩; have HK3 := Lib.hid (HKW.out.trans hk3 (fun _ _ h => h)); have HB3 := Lib.hid (hk3.heap (fun h => h) HBW.out); clear c0 c1 p0 p1 p2; obtain ⟨c0, c1⟩ := cell2_30 HB3.out; obtain ⟨p0, p1, p2⟩ := cells3 (hk3.heap (fun h => h) HBX.out); clear hk3)
            go_ret
            exact ⟨ret_i30 HST2.out.symm, HK3.out⟩
          · have g2 : (x1 == 0) = false := by simpa using hx0
            by_cases hy0 : ky = 0
            · have HST : Hid (chkStep n b pr (ky, vr, dd) = 20) := Lib.hid (by rw [hST, if_pos (.inr hy0)])
              have g3 : (ky == 0) = true := by simpa using hy0
              clear hST hx0 hy0
              have HST2 : Hid (R = 20) := Lib.hid (by rw [HGO.out, HST.out]; try simp)
              go_wp2_with (go_at_call 15; refine (HW.out _).mono ?_; rintro e w3 ⟨rfl, hk3⟩; have HK3 := Lib.hid (HKW.out.trans hk3 (fun _ _ h => h)); have HB3 := Lib.hid (hk3.heap (fun h => h) HBW.out); clear c0 c1 p0 p1 p2; obtain ⟨c0, c1⟩ := cell2_30 HB3.out; obtain ⟨p0, p1, p2⟩ := cells3 (hk3.heap (fun h => h) HBX.out); clear hk3)
              go_ret
              exact ⟨ret_i30 HST2.out.symm, HK3.out⟩
            · have g3 : (ky == 0) = false := by simpa using hy0
              rw [if_neg (fun h => h.elim hx0 hy0)] at hST
              by_cases hle : ky ≤ pr
              · have HST : Hid (chkStep n b pr (ky, vr, dd) = 4) := Lib.hid (by rw [hST, if_pos hle])
                have g4 : decide (ky ≤ pr) = true := decide_eq_true hle
                clear hST hx0 hy0
                have HST2 : Hid (R = 4) := Lib.hid (by rw [HGO.out, HST.out]; try simp)
                go_wp2_with (go_at_call 15; refine (HW.out _).mono ?_; rintro e w3 ⟨rfl, hk3⟩; have HK3 := Lib.hid (HKW.out.trans hk3 (fun _ _ h => h)); have HB3 := Lib.hid (hk3.heap (fun h => h) HBW.out); clear c0 c1 p0 p1 p2; obtain ⟨c0, c1⟩ := cell2_30 HB3.out; obtain ⟨p0, p1, p2⟩ := cells3 (hk3.heap (fun h => h) HBX.out); clear hk3)
                go_ret
                exact ⟨ret_i30 HST2.out.symm, HK3.out⟩
              · have g4 : decide (ky ≤ pr) = false := decide_eq_false hle
                have g40 : pr < ky := by omega
                rw [if_neg hle] at hST
                by_cases h64 : 64 < dn
                · have HST : Hid (chkStep n b pr (ky, vr, dd) = 6) := Lib.hid (by rw [hST, if_pos h64])
                  have g5 : (64 : Int) < (dn : Int) := by omega
                  clear hST hx0 hy0 hle h64
                  have HST2 : Hid (R = 6) := Lib.hid (by rw [HGO.out, HST.out]; try simp)
                  go_wp2_with (go_at_call 15; refine (HW.out _).mono ?_; rintro e w3 ⟨rfl, hk3⟩; have HK3 := Lib.hid (HKW.out.trans hk3 (fun _ _ h => h)); have HB3 := Lib.hid (hk3.heap (fun h => h) HBW.out); clear c0 c1 p0 p1 p2; obtain ⟨c0, c1⟩ := cell2_30 HB3.out; obtain ⟨p0, p1, p2⟩ := cells3 (hk3.heap (fun h => h) HBX.out); clear hk3)
                  go_ret
                  exact ⟨ret_i30 HST2.out.symm, HK3.out⟩
                · have g5 : (dn : Int) ≤ 64 := by omega
                  have g6 : decide ((64 : Int) < (dn : Int)) = false := decide_eq_false (by omega)
                  have HST : Hid (R = chkGo n b ky (l.drop (k + 1))) := Lib.hid (by rw [HGO.out, hST, if_neg h64, if_pos rfl])
                  clear hST hx0 hy0 hle h64
                  go_wp2_with (go_at_call 15; refine (HW.out _).mono ?_; rintro e w3 ⟨rfl, hk3⟩; have HK3 := Lib.hid (HKW.out.trans hk3 (fun _ _ h => h)); have HB3 := Lib.hid (hk3.heap (fun h => h) HBW.out); clear c0 c1 p0 p1 p2; obtain ⟨c0, c1⟩ := cell2_30 HB3.out; obtain ⟨p0, p1, p2⟩ := cells3 (hk3.heap (fun h => h) HBX.out); clear hk3)
                  go_roundw
                  case rel => exact ⟨k + 1, by omega, by go_num, by rw [HPS.out], by rw [HPS.out]; exact HST.out, HB3.out, HK3.out⟩
                  case measure => simp [RowKit.intOf]; omega
        · obtain rfl : k = l.length := by omega
          rw [List.drop_length] at hR
          have HRZ : Hid (R = 0) := Lib.hid hR
          clear hR
          go_wp2_with fail
          go_ret
          exact ⟨ret_i30 HRZ.out.symm, HKR.out⟩
  · rw [decide_eq_false hr] at HR
    have HRR : Hid (R = 1) := Lib.hid (by rw [HE.out, if_pos hr])
    clear hr
    go_enter Try.func25, Try.ntmps25
    go_wp2_with (go_at_call 17; refine (HR.out _).mono ?_; rintro e w2 ⟨rfl, hk2⟩; have HK2 := Lib.hid (HK.out.trans hk2 (fun _ _ h => h)); have HB2 := Lib.hid (hk2.heap (fun h => h) HB.out); clear hk2)
    go_ret
    exact ⟨ret_i30 HRR.out.symm, HK2.out⟩
set_option maxRecDepth 100000 in
set_option maxHeartbeats 4000000 in
theorem rCheck30_any (n b : Int) (v : Value) (l : List Pt) (F G : Nat → Prop) (w : World) (h : PSl w F G v l) (hkeys : ∀ j, j < l.length → 0 ≤ (ptl l j).1 ∧ (ptl l j).1 < 4294967296) :
    Calls Try.prog 28 #[.agg #[.int .i64 n, .int .i64 b], v] w fun e w' => e = .returned (.int .i64 (chkP n b l)) ∧ Kept NoB w w' := by
  obtain ⟨a, c, rfl, hmax⟩ := h.form
  unfold maxLen at hmax
  have HP := Lib.hid h
  have HKEY := Lib.hid hkeys
  have HK := Lib.hid ((Kept.refl NoB w).alloc (.cells #[.int .i64 n, .int .i64 b] 42))
  have HB := Lib.hid (heap_alloc_new w (.cells #[.int .i64 n, .int .i64 b] 42))
  obtain ⟨c0, c1⟩ := cell2_30 HB.out
  have HR := Lib.hid (fun w => rRight30_any n b w)
  obtain ⟨R, hR⟩ : ∃ R, R = chkP n b l := ⟨_, rfl⟩
  rw [← hR]
  unfold chkP at hR
  have HE := Lib.hid hR
  clear h hkeys hR
  by_cases hr : rgt30 n b
  · rw [decide_eq_true hr] at HR
    by_cases h20 : 20 < l.length
    · have g1 : (20 : Int) < (l.length : Int) := by omega
      have HRR : Hid (R = 9) := Lib.hid (by rw [HE.out, if_neg (fun h => h hr), if_pos h20])
      clear hr h20
      go_enter Try.func28, Try.ntmps28
      go_wp2_with (go_at_call 18; refine (HR.out _).mono ?_; rintro e w2 ⟨rfl, hk2⟩; have HK2 := Lib.hid (HK.out.trans hk2 (fun _ _ h => h)); have HB2 := Lib.hid (hk2.heap (fun h => h) HB.out); clear hk2)
      go_ret
      exact ⟨ret_i30 HRR.out.symm, HK2.out⟩
    · have g1 : (l.length : Int) ≤ 20 := by omega
      have g1' : decide ((20 : Int) < (l.length : Int)) = false := decide_eq_false (by omega)
      have HRR : Hid (R = chkGo n b 0 l) := Lib.hid (by rw [HE.out, if_neg (fun h => h hr), if_neg h20])
      have HRG := Lib.hid hr
      have hl20 : l.length ≤ 20 := by omega
      clear hr h20
      go_enter Try.func28, Try.ntmps28
      go_wp2_with (go_at_call 18; refine (HR.out _).mono ?_; rintro e w2 ⟨rfl, hk2⟩; have HK2 := Lib.hid (HK.out.trans hk2 (fun _ _ h => h)); have HB2 := Lib.hid (hk2.heap (fun h => h) HB.out); clear hk2)
      clear c0 c1
      go_loopw [5] (fun i wr => ∃ k : Nat, k ≤ l.length ∧ i = .int .i64 k ∧ R = chkGo n b (prv30 l k) (l.drop k) ∧ wr.heap[w.heap.size]? = some (.cells #[.int .i64 n, .int .i64 b] 42 (0, 0)) ∧ Kept NoB w wr) (fun i _ => l.length - (RowKit.intOf i).toNat)
      case atStart => exact ⟨0, Nat.zero_le _, rfl, HRR.out, HB2.out, HK2.out⟩
      case round =>
        obtain ⟨k, hk, rfl, hR, hb, hkk⟩ := hrel
        have HKR := Lib.hid hkk
        have HBR := Lib.hid hb
        have HPR := Lib.hid (HP.out.no hkk)
        obtain ⟨c0, c1⟩ := cell2_30 hb
        by_cases hlt : k < l.length
        · have hk1 : (k : Int) < (l.length : Int) := by omega
          have hk0 : (0 : Int) ≤ (k : Int) := by omega
          rw [drop_cons30 hlt] at hR
          obtain ⟨bb, oo, da, dn, dc, ha, _, _, e0, e1, e2, hdn, _⟩ := HPR.out.at_ hlt
          subst ha
          have hky := HKEY.out k hlt
          have HPS := Lib.hid (prv_succ l k)
          have hprv : k ≠ 0 → prv30 l k = (ptl l (k - 1)).1 := fun h => by unfold prv30; rw [if_neg h]
          have hprz : k = 0 → prv30 l k = 0 := fun h => by unfold prv30; rw [if_pos h]
          obtain ⟨pr, hpr2⟩ : ∃ pr, pr = prv30 l k := ⟨_, rfl⟩
          rw [← hpr2] at hR hprv hprz
          obtain ⟨x, hx⟩ : ∃ x, x = ptl l k := ⟨_, rfl⟩
          rw [← hx] at hR e0 e1 hdn hky HPS
          have HX := Lib.hid hx
          obtain ⟨ky, vr, dd⟩ := x
          simp only at e0 e1 hdn hky HPS
          have HGO : Hid (R = if chkStep n b pr (ky, vr, dd) = 0 then chkGo n b ky (l.drop (k + 1)) else chkStep n b pr (ky, vr, dd)) := Lib.hid hR
          have HW := Lib.hid (fun w => rWhat30_any n b ky w hky.1 hky.2)
          have hsm := what_small n b ky hky.1 HRG.out
          obtain ⟨wh, hwh⟩ : ∃ wh, wh = what30 n b ky := ⟨_, rfl⟩
          have hST : chkStep n b pr (ky, vr, dd) = if wh.1 = 0 ∨ ky = 0 then 20 else if ky ≤ pr then 4 else if 64 < dd.length then 6 else 0 := by rw [hwh]; rfl
          rw [← hwh] at HW hsm
          obtain ⟨x1, x2⟩ := wh
          simp only at HW hST hsm
          rw [← hdn] at hST
          have HDN := Lib.hid hdn
          clear hR hx hpr2 hb hkk hdn hwh
          by_cases hx2 : x1 < 2
          · have HST : Hid (chkStep n b pr (ky, vr, dd) = 20) := Lib.hid (by rw [hST, if_pos (hsm.2 hx2)])
            clear hST hsm hprv hprz
            go_wp2_with fail
            have HKc := Lib.hid (Kept.refl NoB wr)
            go_region_held3 (fun w' => w'.cell? ⟨w.heap.size, 0, none⟩ = some (.int .i64 n) ∧ w'.cell? ⟨w.heap.size, 1, none⟩ = some (.int .i64 b) ∧ w'.cell? ⟨bb, oo + k * 3, none⟩ = some (.int .u32 ky))
              (first
                | exact ⟨cell_drew c0, cell_drew c1, cell_drew e0⟩
                | exact ⟨HKc.out.cell (p := ⟨w.heap.size, 0, none⟩) (fun h => h) c0, HKc.out.cell (p := ⟨w.heap.size, 1, none⟩) (fun h => h) c1, HKc.out.cell (p := ⟨bb, oo + k * 3, none⟩) (fun h => h) e0⟩
                | go_keep)
              (first
                | (go_at_call 16; refine (HW.out _).mono ?_; rintro e w3 ⟨rfl, hk3⟩; replace HKc := Lib.hid (by first | exact HKc.out.trans hk3 (fun _ _ h => h) | exact HKc.out.drew.trans hk3 (fun _ _ h => h)); clear hk3))
            all_goals
              have HK3 := Lib.hid (HKR.out.trans (show Kept NoB wr _ by first | exact HKc.out | exact HKc.out.drew) (fun _ _ h => h))
              have HB3 := Lib.hid (HKc.out.heap (fun h => h) HBR.out)
              have e0' := HKc.out.cell (p := ⟨bb, oo + k * 3, none⟩) (fun h => h) e0
              have e2' := HKc.out.cell (p := ⟨bb, oo + k * 3 + 1 + 1, none⟩) (fun h => h) e2
              clear c0 c1 e0 e1 e2
              have HST2 : Hid (R = 20) := Lib.hid (by rw [HGO.out, HST.out]; try simp)
              go_wp2_with fail
              go_ret
              exact ⟨ret_i30 HST2.out.symm, HK3.out⟩
          · have g2 : decide (x1 < 2) = false := decide_eq_false hx2
            have g21 : (2 : Int) ≤ x1 := by omega
            have hno : ¬ (x1 = 0 ∨ ky = 0) := fun h => hx2 (hsm.1 h)
            rw [if_neg hno] at hST
            clear hsm hx2
            by_cases hk00 : k = 0
            · have hpz := hprz hk00
              rw [if_neg (by rw [hpz]; omega)] at hST
              have g3 : ((0 : Int) < (k : Int)) = False := by simp; omega
              have g3' : decide ((0 : Int) < (k : Int)) = false := decide_eq_false (by omega)
              have g3'' : decide (0 < k) = false := decide_eq_false (by omega)
              have HPZ := Lib.hid hpz
              have HK00 := Lib.hid hk00
              clear hprv hprz hno hpz hk00 g3
              go_wp2_with fail
              have HKc := Lib.hid (Kept.refl NoB wr)
              go_region_held3 (fun w' => w'.cell? ⟨w.heap.size, 0, none⟩ = some (.int .i64 n) ∧ w'.cell? ⟨w.heap.size, 1, none⟩ = some (.int .i64 b) ∧ w'.cell? ⟨bb, oo + k * 3, none⟩ = some (.int .u32 ky))
                (first
                  | exact ⟨cell_drew c0, cell_drew c1, cell_drew e0⟩
                  | exact ⟨HKc.out.cell (p := ⟨w.heap.size, 0, none⟩) (fun h => h) c0, HKc.out.cell (p := ⟨w.heap.size, 1, none⟩) (fun h => h) c1, HKc.out.cell (p := ⟨bb, oo + k * 3, none⟩) (fun h => h) e0⟩
                  | go_keep)
                (first
                  | (go_at_call 16; refine (HW.out _).mono ?_; rintro e w3 ⟨rfl, hk3⟩; replace HKc := Lib.hid (by first | exact HKc.out.trans hk3 (fun _ _ h => h) | exact HKc.out.drew.trans hk3 (fun _ _ h => h)); clear hk3))
              all_goals
                have HK3 := Lib.hid (HKR.out.trans (show Kept NoB wr _ by first | exact HKc.out | exact HKc.out.drew) (fun _ _ h => h))
                have HB3 := Lib.hid (HKc.out.heap (fun h => h) HBR.out)
                have e0' := HKc.out.cell (p := ⟨bb, oo + k * 3, none⟩) (fun h => h) e0
                have e2' := HKc.out.cell (p := ⟨bb, oo + k * 3 + 1 + 1, none⟩) (fun h => h) e2
                clear c0 c1 e0 e1 e2
                by_cases h64 : 64 < dn
                · have HST2 : Hid (R = 6) := Lib.hid (by rw [HGO.out, hST, if_pos h64]; simp)
                  have g5 : (64 : Int) < (dn : Int) := by omega
                  clear hST h64
                  go_wp2_with fail
                  go_region
                  go_wp2
                  go_ret
                  exact ⟨ret_i30 HST2.out.symm, by first | exact HK3.out | exact HK3.out.drew | exact HK3.out.drewN _⟩
                · have g5 : (dn : Int) ≤ 64 := by omega
                  have g6 : decide ((64 : Int) < (dn : Int)) = false := decide_eq_false (by omega)
                  have HST2 : Hid (R = chkGo n b ky (l.drop (k + 1))) := Lib.hid (by rw [HGO.out, hST, if_neg h64, if_pos rfl])
                  clear hST h64
                  go_wp2_with fail
                  go_region
                  go_wp2
                  go_roundw
                  case rel => exact ⟨k + 1, by omega, by go_num, by rw [HPS.out]; exact HST2.out, HB3.out, by first | exact HK3.out | exact HK3.out.drew | exact HK3.out.drewN _⟩
                  case measure => simp [RowKit.intOf]; omega
            · obtain ⟨m, hm⟩ : ∃ m, k = m + 1 := ⟨k - 1, by omega⟩
              have g3' : decide ((0 : Int) < (k : Int)) = true := decide_eq_true (by omega)
              have g3'' : decide (0 < k) = true := decide_eq_true (by omega)
              have g4 : (k : Int) - 1 = (m : Int) := by omega
              have g41 : IntKind.i64.wrap ((k : Int) - 1) = (m : Int) := by rw [g4]; exact IntWalk.i64_in _ (by omega)
              have g42 : IntKind.i64.wrap (m : Int) = (m : Int) := IntWalk.i64_in _ (by omega)
              have g43 : (0 : Int) ≤ (m : Int) := by omega
              have g44 : (m : Int) < (l.length : Int) := by omega
              obtain ⟨bb', oo', _, _, _, ha', _, _, f0, _, _, _, _⟩ := HPR.out.at_ (j := m) (by omega)
              injection ha' with ha'
              injection ha' with hb1 hb2
              subst hb1 hb2
              have hpk : (ptl l m).1 = pr := by rw [hprv hk00, hm, Nat.add_sub_cancel]
              rw [hpk] at f0
              have HMM := Lib.hid hm
              clear hprv hprz hno hpk hm hk00
              go_wp2_with fail
              have HKc := Lib.hid (Kept.refl NoB wr)
              go_region_held3 (fun w' => w'.cell? ⟨w.heap.size, 0, none⟩ = some (.int .i64 n) ∧ w'.cell? ⟨w.heap.size, 1, none⟩ = some (.int .i64 b) ∧ w'.cell? ⟨bb, oo + k * 3, none⟩ = some (.int .u32 ky))
                (first
                  | exact ⟨cell_drew c0, cell_drew c1, cell_drew e0⟩
                  | exact ⟨HKc.out.cell (p := ⟨w.heap.size, 0, none⟩) (fun h => h) c0, HKc.out.cell (p := ⟨w.heap.size, 1, none⟩) (fun h => h) c1, HKc.out.cell (p := ⟨bb, oo + k * 3, none⟩) (fun h => h) e0⟩
                  | go_keep)
                (first
                  | (go_at_call 16; refine (HW.out _).mono ?_; rintro e w3 ⟨rfl, hk3⟩; replace HKc := Lib.hid (by first | exact HKc.out.trans hk3 (fun _ _ h => h) | exact HKc.out.drew.trans hk3 (fun _ _ h => h)); clear hk3))
              all_goals
                have HK3 := Lib.hid (HKR.out.trans (show Kept NoB wr _ by first | exact HKc.out | exact HKc.out.drew) (fun _ _ h => h))
                have HB3 := Lib.hid (HKc.out.heap (fun h => h) HBR.out)
                have e0' := HKc.out.cell (p := ⟨bb, oo + k * 3, none⟩) (fun h => h) e0
                have e2' := HKc.out.cell (p := ⟨bb, oo + k * 3 + 1 + 1, none⟩) (fun h => h) e2
                clear c0 c1 e0 e1 e2
                have f0' := HKc.out.cell (p := ⟨bb, oo + m * 3, none⟩) (fun h => h) f0
                clear f0
                by_cases hle : ky ≤ pr
                · have HST2 : Hid (R = 4) := Lib.hid (by rw [HGO.out, hST, if_pos hle]; simp)
                  have g5 : decide (ky ≤ pr) = true := decide_eq_true hle
                  clear hST
                  go_wp2_with fail
                  go_region
                  go_wp2
                  go_ret
                  exact ⟨ret_i30 HST2.out.symm, by first | exact HK3.out | exact HK3.out.drew | exact HK3.out.drewN _⟩
                · have g5 : decide (ky ≤ pr) = false := decide_eq_false hle
                  have g51 : pr < ky := by omega
                  rw [if_neg hle] at hST
                  clear hle
                  by_cases h64 : 64 < dn
                  · have HST2 : Hid (R = 6) := Lib.hid (by rw [HGO.out, hST, if_pos h64]; simp)
                    have g5 : (64 : Int) < (dn : Int) := by omega
                    clear hST h64
                    go_wp2_with fail
                    go_region
                    go_wp2
                    go_ret
                    exact ⟨ret_i30 HST2.out.symm, by first | exact HK3.out | exact HK3.out.drew | exact HK3.out.drewN _⟩
                  · have g5 : (dn : Int) ≤ 64 := by omega
                    have g6 : decide ((64 : Int) < (dn : Int)) = false := decide_eq_false (by omega)
                    have HST2 : Hid (R = chkGo n b ky (l.drop (k + 1))) := Lib.hid (by rw [HGO.out, hST, if_neg h64, if_pos rfl])
                    clear hST h64
                    go_wp2_with fail
                    go_region
                    go_wp2
                    go_roundw
                    case rel => exact ⟨k + 1, by omega, by go_num, by rw [HPS.out]; exact HST2.out, HB3.out, by first | exact HK3.out | exact HK3.out.drew | exact HK3.out.drewN _⟩
                    case measure => simp [RowKit.intOf]; omega
        · obtain rfl : k = l.length := by omega
          rw [List.drop_length] at hR
          have HRZ : Hid (R = 0) := Lib.hid hR
          clear hR
          go_wp2_with fail
          go_ret
          exact ⟨ret_i30 HRZ.out.symm, HKR.out⟩
  · rw [decide_eq_false hr] at HR
    have HRR : Hid (R = 1) := Lib.hid (by rw [HE.out, if_pos hr])
    clear hr
    go_enter Try.func28, Try.ntmps28
    go_wp2_with (go_at_call 18; refine (HR.out _).mono ?_; rintro e w2 ⟨rfl, hk2⟩; have HK2 := Lib.hid (HK.out.trans hk2 (fun _ _ h => h)); have HB2 := Lib.hid (hk2.heap (fun h => h) HB.out); clear hk2)
    go_ret
    exact ⟨ret_i30 HRR.out.symm, HK2.out⟩
end Go.Proofs.Ytiifkcjngajegaa
