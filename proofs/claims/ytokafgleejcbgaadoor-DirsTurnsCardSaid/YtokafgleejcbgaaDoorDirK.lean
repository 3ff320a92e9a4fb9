/-
  Layer 29: which entries may be: Check of the chapter.
-/
import Derived.Test.YtokafgleejcbgaaDoorDirJ
import Derived.BigRegion
import Derived.Deep.RegionLaw
import Derived.Deep.RegionHeld3
namespace Go.Proofs.YtokafgleejcbgaaDoor
open Go.RowKit
set_option linter.unusedVariables false

theorem leq29_nil (x : List UInt8) (h : nmOk x) : leq29 x [] = false := by
  cases x with
  | nil => exact absurd h.1.1 (by simp)
  | cons a r => rfl
set_option maxRecDepth 100000 in
set_option maxHeartbeats 4000000 in
theorem rCheck29_any (v : Value) (l : List En) (F : Nat → Prop) (w : World) (h : ESl w F v l) (hkeys : ∀ j, j < l.length → (eth l j).1.length ≤ 1000000) :
    Calls Tryd.prog 24 #[v] w fun e w' => e = .returned (.int .i64 (chkE l)) ∧ Kept NoB w w' := by
  obtain ⟨a, c, rfl, hmax⟩ := h.form
  unfold maxLen at hmax
  have HP := Lib.hid h
  have HKEY := Lib.hid hkeys
  obtain ⟨R, hR⟩ : ∃ R, R = chkE l := ⟨_, rfl⟩
  rw [← hR]
  unfold chkE at hR
  have HE := Lib.hid hR
  clear h hkeys hR
  by_cases h20 : 32 < l.length
  · have g1 : (32 : Int) < (l.length : Int) := by omega
    have HRR : Hid (R = 17) := Lib.hid (by rw [HE.out, if_pos h20])
    clear h20
    go_enter Tryd.func24, Tryd.ntmps24
    go_wp2
    go_ret
    exact ⟨ret_i29 HRR.out.symm, Kept.refl _ _⟩
  · have g1 : (l.length : Int) ≤ 32 := by omega
    have g1' : decide ((32 : Int) < (l.length : Int)) = false := decide_eq_false (by omega)
    have HRR : Hid (R = goE [] l) := Lib.hid (by rw [HE.out, if_neg h20])
    have hl20 : l.length ≤ 32 := by omega
    clear h20
    go_enter Tryd.func24, Tryd.ntmps24
    go_wp2
    go_loopw [3] (fun i wr => ∃ k : Nat, k ≤ l.length ∧ i = .int .i64 k ∧ R = goE (prv29 l k) (l.drop k) ∧ Kept NoB w wr) (fun i _ => l.length - (RowKit.intOf i).toNat)
    case atStart => exact ⟨0, Nat.zero_le _, rfl, HRR.out, Kept.refl _ _⟩
    case round =>
      obtain ⟨k, hk, rfl, hR, hkk⟩ := hrel
      have HKR := Lib.hid hkk
      have HPR := Lib.hid (HP.out.no hkk)
      by_cases hlt : k < l.length
      · have hk1 : (k : Int) < (l.length : Int) := by omega
        have hk0 : (0 : Int) ≤ (k : Int) := by omega
        rw [edrop_cons hlt] at hR
        obtain ⟨bb, oo, ha, _, _, e0, e1⟩ := HPR.out.at_ hlt
        subst ha
        have hky := HKEY.out k hlt
        have HPS := Lib.hid (prv29_succ l k)
        have hprv : k ≠ 0 → prv29 l k = (eth l (k - 1)).1 := fun h => by unfold prv29; rw [if_neg h]
        have hprz : k = 0 → prv29 l k = [] := fun h => by unfold prv29; rw [if_pos h]
        obtain ⟨pr, hpr2⟩ : ∃ pr, pr = prv29 l k := ⟨_, rfl⟩
        rw [← hpr2] at hR hprv hprz
        obtain ⟨x, hx⟩ : ∃ x, x = eth l k := ⟨_, rfl⟩
        rw [← hx] at hR e0 e1 hky HPS
        obtain ⟨nm, nd⟩ := x
        simp only at e0 e1 hky HPS
        have HGO : Hid (R = if stepE pr (nm, nd) = 0 then goE nm (l.drop (k + 1)) else stepE pr (nm, nd)) := Lib.hid hR
        have hST : stepE pr (nm, nd) = if oneE (nm, nd) ≠ 0 then oneE (nm, nd) else if leq29 nm pr = true then 4 else 0 := rfl
        have hON : oneE (nm, nd) = if ¬ nmOk nm then 18 else if nd < 1 ∨ 65535 < nd then 4 else 0 := rfl
        have HN := Lib.hid (fun w => rName_l nm w hky)
        have HLQ : Hid (leq29 nm pr = !Op.bytesLess (⟨pr.toArray⟩ : ByteArray).toList (⟨nm.toArray⟩ : ByteArray).toList) := Lib.hid (by rw [toL29, toL29]; exact (bl29_tri pr nm).symm)
        obtain ⟨sx, hsx⟩ : ∃ sx : ByteArray, sx = ⟨nm.toArray⟩ := ⟨_, rfl⟩
        obtain ⟨sp, hsp⟩ : ∃ sp : ByteArray, sp = ⟨pr.toArray⟩ := ⟨_, rfl⟩
        rw [← hsx] at HN HLQ e0
        rw [← hsp] at HLQ
        have HSP := Lib.hid hsp
        clear hR hx hpr2 hkk hsx hsp hky
        by_cases hnm : nmOk nm
        · rw [decide_eq_true hnm] at HN
          rw [if_neg (fun q => q hnm)] at hON
          have HNM := Lib.hid hnm
          clear hnm
          by_cases h1 : nd < 1
          · have d1 : decide (nd < 1) = true := decide_eq_true h1
            have HST2 : Hid (R = 4) := Lib.hid (by rw [HGO.out, hST, show oneE (nm, nd) = 4 from by rw [hON, if_pos (.inl h1)]]; simp)
            clear hST hON hprv hprz
            go_wp2_with (go_at_call 25; refine (HN.out _).mono ?_; rintro e w3 ⟨rfl, hk3⟩; have HK3 := Lib.hid (HKR.out.trans hk3 (fun _ _ h => h)); have e0' := hk3.cell (p := ⟨bb, oo + k * 2, none⟩) (fun h => h) e0; have e1' := hk3.cell (p := ⟨bb, oo + k * 2 + 1, none⟩) (fun h => h) e1; clear e0 e1; clear hk3)
            go_region
            go_wp2
            go_ret
            exact ⟨ret_i29 HST2.out.symm, by first | exact HK3.out | exact HK3.out.drew | exact HK3.out.drewN _⟩
          · have d1 : decide (nd < 1) = false := decide_eq_false h1
            have g2 : (1 : Int) ≤ nd := by omega
            by_cases h2 : 65535 < nd
            · have d2 : decide ((65535 : Int) < nd) = true := decide_eq_true h2
              have HST2 : Hid (R = 4) := Lib.hid (by rw [HGO.out, hST, show oneE (nm, nd) = 4 from by rw [hON, if_pos (.inr h2)]]; simp)
              clear hST hON hprv hprz h1
              go_wp2_with (go_at_call 25; refine (HN.out _).mono ?_; rintro e w3 ⟨rfl, hk3⟩; have HK3 := Lib.hid (HKR.out.trans hk3 (fun _ _ h => h)); have e0' := hk3.cell (p := ⟨bb, oo + k * 2, none⟩) (fun h => h) e0; have e1' := hk3.cell (p := ⟨bb, oo + k * 2 + 1, none⟩) (fun h => h) e1; clear e0 e1; clear hk3)
              go_region
              go_wp2
              go_ret
              exact ⟨ret_i29 HST2.out.symm, by first | exact HK3.out | exact HK3.out.drew | exact HK3.out.drewN _⟩
            · have d2 : decide ((65535 : Int) < nd) = false := decide_eq_false h2
              have g21 : nd ≤ 65535 := by omega
              rw [show oneE (nm, nd) = 0 from by rw [hON, if_neg (fun q => q.elim h1 h2)], if_neg (fun q => q rfl)] at hST
              clear hON h1 h2
              by_cases hk00 : k = 0
              · have hpz := hprz hk00
                have HST2 : Hid (R = goE nm (l.drop (k + 1))) := Lib.hid (by rw [HGO.out, hST, hpz, leq29_nil nm HNM.out]; simp)
                have g3' : decide ((0 : Int) < (k : Int)) = false := decide_eq_false (by omega)
                have g3'' : decide (0 < k) = false := decide_eq_false (by omega)
                clear hprv hprz hpz hk00 hST
                go_wp2_with (go_at_call 25; refine (HN.out _).mono ?_; rintro e w3 ⟨rfl, hk3⟩; have HK3 := Lib.hid (HKR.out.trans hk3 (fun _ _ h => h)); have e0' := hk3.cell (p := ⟨bb, oo + k * 2, none⟩) (fun h => h) e0; have e1' := hk3.cell (p := ⟨bb, oo + k * 2 + 1, none⟩) (fun h => h) e1; clear e0 e1; clear hk3)
                go_region
                go_wp2
                go_roundw
                case rel => exact ⟨k + 1, by omega, by go_num, by rw [HPS.out]; exact HST2.out, by first | exact HK3.out | exact HK3.out.drew | exact HK3.out.drewN _⟩
                case measure => simp [RowKit.intOf]; omega
              · obtain ⟨m, hm⟩ : ∃ m, k = m + 1 := ⟨k - 1, by omega⟩
                have g3' : decide ((0 : Int) < (k : Int)) = true := decide_eq_true (by omega)
                have g3'' : decide (0 < k) = true := decide_eq_true (by omega)
                have g4 : (k : Int) - 1 = (m : Int) := by omega
                have g41 : IntKind.i64.wrap ((k : Int) - 1) = (m : Int) := by rw [g4]; exact IntWalk.i64_in _ (by omega)
                have g42 : IntKind.i64.wrap (m : Int) = (m : Int) := IntWalk.i64_in _ (by omega)
                have g43 : (0 : Int) ≤ (m : Int) := by omega
                have g44 : (m : Int) < (l.length : Int) := by omega
                obtain ⟨bb', oo', ha', _, _, f0, _⟩ := HPR.out.at_ (j := m) (by omega)
                injection ha' with ha'
                injection ha' with hb1 hb2
                subst hb1 hb2
                have hpk : (eth l m).1 = pr := by rw [hprv hk00, hm, Nat.add_sub_cancel]
                rw [hpk, ← HSP.out] at f0
                clear hprv hprz hpk hm hk00
                by_cases hle : leq29 nm pr = true
                · have HST2 : Hid (R = 4) := Lib.hid (by rw [HGO.out, hST, if_pos hle]; simp)
                  have g5 := HLQ.out.symm.trans hle
                  clear hST hle
                  go_wp2_with (go_at_call 25; refine (HN.out _).mono ?_; rintro e w3 ⟨rfl, hk3⟩; have HK3 := Lib.hid (HKR.out.trans hk3 (fun _ _ h => h)); have e0' := hk3.cell (p := ⟨bb, oo + k * 2, none⟩) (fun h => h) e0; have e1' := hk3.cell (p := ⟨bb, oo + k * 2 + 1, none⟩) (fun h => h) e1; clear e0 e1; have f0' := hk3.cell (p := ⟨bb, oo + m * 2, none⟩) (fun h => h) f0; clear f0; clear hk3)
                  go_region
                  go_wp2
                  go_ret
                  exact ⟨ret_i29 HST2.out.symm, by first | exact HK3.out | exact HK3.out.drew | exact HK3.out.drewN _⟩
                · have HST2 : Hid (R = goE nm (l.drop (k + 1))) := Lib.hid (by rw [HGO.out, hST, if_neg hle, if_pos rfl])
                  have g5 := HLQ.out.symm.trans (Bool.eq_false_iff.2 hle)
                  clear hST hle
                  go_wp2_with (go_at_call 25; refine (HN.out _).mono ?_; rintro e w3 ⟨rfl, hk3⟩; have HK3 := Lib.hid (HKR.out.trans hk3 (fun _ _ h => h)); have e0' := hk3.cell (p := ⟨bb, oo + k * 2, none⟩) (fun h => h) e0; have e1' := hk3.cell (p := ⟨bb, oo + k * 2 + 1, none⟩) (fun h => h) e1; clear e0 e1; have f0' := hk3.cell (p := ⟨bb, oo + m * 2, none⟩) (fun h => h) f0; clear f0; clear hk3)
                  go_region
                  go_wp2
                  go_roundw
                  case rel => exact ⟨k + 1, by omega, by go_num, by rw [HPS.out]; exact HST2.out, by first | exact HK3.out | exact HK3.out.drew | exact HK3.out.drewN _⟩
                  case measure => simp [RowKit.intOf]; omega
        · rw [decide_eq_false hnm] at HN
          have HST2 : Hid (R = 18) := Lib.hid (by rw [HGO.out, hST, show oneE (nm, nd) = 18 from by rw [hON, if_pos hnm]]; simp)
          clear hnm hST hON hprv hprz
          go_wp2_with (go_at_call 25; refine (HN.out _).mono ?_; rintro e w3 ⟨rfl, hk3⟩; have HK3 := Lib.hid (HKR.out.trans hk3 (fun _ _ h => h)); have e0' := hk3.cell (p := ⟨bb, oo + k * 2, none⟩) (fun h => h) e0; have e1' := hk3.cell (p := ⟨bb, oo + k * 2 + 1, none⟩) (fun h => h) e1; clear e0 e1; clear hk3)
          go_ret
          exact ⟨ret_i29 HST2.out.symm, HK3.out⟩
      · obtain rfl : k = l.length := by omega
        rw [List.drop_length] at hR
        have HRZ : Hid (R = 0) := Lib.hid hR
        clear hR
        go_wp2
        go_ret
        exact ⟨ret_i29 HRZ.out.symm, HKR.out⟩
end Go.Proofs.YtokafgleejcbgaaDoor
