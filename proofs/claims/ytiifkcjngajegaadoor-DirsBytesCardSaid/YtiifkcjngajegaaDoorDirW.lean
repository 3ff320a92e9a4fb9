/-
  Layer 29: the walk of DirsBytes.
-/
import Derived.Test.YtiifkcjngajegaaDoorDirU
namespace Go.Proofs.YtiifkcjngajegaaDoor
open Go.RowKit
set_option linter.unusedVariables false

set_option maxRecDepth 100000 in
set_option maxHeartbeats 8000000 in
theorem DirsBytes_any (v : Value) (E : List En) (s : ByteArray) (w : World) (h : ESl w (fun k => k < w.heap.size) v E) (hlb : ∀ x ∈ E, x.1.length ≤ 9223372036854775807) (hv : Lng w) (hs0 : s.size ≤ 9223372036854775807) :
    Calls Tryd.prog 3 #[v, .string s] w fun e w' => e = .returned (.bool true) ∧ Kept NoB w w' := by
  have HV := Lib.hid hv
  obtain ⟨a, c, rfl, hmax⟩ := h.form
  unfold maxLen at hmax
  have HE := Lib.hid h.any
  have HAW := Lib.hid (fun w hv => awake29_any w hv)
  have HK := Lib.hid (Kept.refl NoB w)
  have HFA := Lib.hid (fun (u : Value) (F : Nat → Prop) (w : World) (h : ESl w F u E) => far29_any u E F w h hlb)
  clear h hv hlb
  by_cases hf : farE E = true
  · rw [hf] at HFA
    clear hf
    go_enter Tryd.func3, Tryd.ntmps3
    go_wp2_with (first
      | (go_at_call 7; refine (HFA.out _ _ _ HE.out).mono ?_; rintro e w2 ⟨rfl, hk⟩; replace HK := Lib.hid (HK.out.trans hk (fun _ _ h => h)); replace HE := Lib.hid (HE.out.no hk); (try replace HO1 := Lib.hid (HO1.out.no hk)); (try replace HO2 := Lib.hid (HO2.out.no hk)); (try replace HE1 := Lib.hid (HE1.out.no hk)); (try replace HP := Lib.hid (HP.out.no29 hk)); (try replace HQ := Lib.hid (HQ.out.no29 hk)); clear hk)
      | (go_at_call 8; refine (HAW.out _ (HV.out.no HK.out)).mono ?_; rintro e w2 ⟨rfl, hk⟩; replace HK := Lib.hid (HK.out.trans hk (fun _ _ h => h)); replace HE := Lib.hid (HE.out.no hk); (try replace HO1 := Lib.hid (HO1.out.no hk)); (try replace HO2 := Lib.hid (HO2.out.no hk)); (try replace HE1 := Lib.hid (HE1.out.no hk)); (try replace HP := Lib.hid (HP.out.no29 hk)); (try replace HQ := Lib.hid (HQ.out.no29 hk)); clear hk))
    go_ret
    exact ⟨rfl, HK.out⟩
  · have hf : farE E = false := Bool.eq_false_iff.2 hf
    obtain ⟨h40, h30⟩ := farE_not hf
    rw [hf] at HFA
    clear hf
    by_cases h60 : 60 < s.size
    · have g1 : (60 : Int) < (s.size : Int) := by omega
      clear h60 h40 h30
      go_enter Tryd.func3, Tryd.ntmps3
      go_wp2_with (first
      | (go_at_call 7; refine (HFA.out _ _ _ HE.out).mono ?_; rintro e w2 ⟨rfl, hk⟩; replace HK := Lib.hid (HK.out.trans hk (fun _ _ h => h)); replace HE := Lib.hid (HE.out.no hk); (try replace HO1 := Lib.hid (HO1.out.no hk)); (try replace HO2 := Lib.hid (HO2.out.no hk)); (try replace HE1 := Lib.hid (HE1.out.no hk)); (try replace HP := Lib.hid (HP.out.no29 hk)); (try replace HQ := Lib.hid (HQ.out.no29 hk)); clear hk)
      | (go_at_call 8; refine (HAW.out _ (HV.out.no HK.out)).mono ?_; rintro e w2 ⟨rfl, hk⟩; replace HK := Lib.hid (HK.out.trans hk (fun _ _ h => h)); replace HE := Lib.hid (HE.out.no hk); (try replace HO1 := Lib.hid (HO1.out.no hk)); (try replace HO2 := Lib.hid (HO2.out.no hk)); (try replace HE1 := Lib.hid (HE1.out.no hk)); (try replace HP := Lib.hid (HP.out.no29 hk)); (try replace HQ := Lib.hid (HQ.out.no29 hk)); clear hk))
      go_ret
      exact ⟨rfl, HK.out⟩
    · have g1 : (s.size : Int) ≤ 60 := by omega
      have g1' : decide ((60 : Int) < (s.size : Int)) = false := decide_eq_false (by omega)
      have hnm : ∀ j, j < E.length → (eth E j).1.length ≤ 1000000 := fun j hj => Nat.le_trans (h30 _ (eth_mem hj)) (by decide)
      have HN1 := Lib.hid (fun w => vName_any s w (by omega))
      have HN2 := Lib.hid (fun w => rName29_any s w (by omega))
      obtain ⟨nb, hnb⟩ : ∃ q, q = decide (nmOk s.data.toList) := ⟨_, rfl⟩
      rw [← hnb] at HN1 HN2
      have HOU := Lib.hid (fun (u : Value) (F : Nat → Prop) (w : World) (h : ESl w F u E) => ours29_any u E F w h (by omega))
      have HC1 := Lib.hid (fun (u : Value) (F : Nat → Prop) (w : World) (h : ESl w F u E) => vCheck29_any u E F w h hnm)
      have HC2 := Lib.hid (fun (u : Value) (F : Nat → Prop) (w : World) (h : ESl w F u E) => rCheck29_any u E F w h hnm)
      have HPT := Lib.hid (fun (u : Value) (F : Nat → Prop) (w : World) (h : ESl w F u E) => vPut29_any u E F w h hnm)
      have HLK := Lib.hid (fun (u v : Value) (F G : Nat → Prop) (w : World) (h : ESl w F u E) (k : ESl w G v E) => like29_true u v E F G w h k (by omega))
      by_cases hz : chkE E = 0
      · have hp : putE E = bytEs E := by unfold putE; rw [if_pos hz]
        have hlen := bytEs_len E (fun p hp => ((chkE_zero hz).2.2 p hp).1.1.2)
        have HRB := Lib.hid (fun (u : Value) (F : Nat → Prop) (w : World) (h : ESl w F u E) => RBytes29_any u E F w h hz)
        have HVG := Lib.hid (fun (u : Value) (F : Nat → Prop) (w : World) (h : BSl w F u (bytEs E)) => vGet29_any u (bytEs E) F w h (by omega))
        rw [gotE_put E hz] at HVG
        simp only at HVG
        rw [hz] at HC1 HC2 HPT
        rw [hp] at HPT
        obtain ⟨BE, hBE⟩ : ∃ q, q = bytEs E := ⟨_, rfl⟩
        rw [← hBE] at HPT HVG HRB
        clear hp hz hlen hBE h40 h30 h60 hnm hnb
        go_enter Tryd.func3, Tryd.ntmps3
        go_wp2_with (first
          | (go_at_call 7; refine (HFA.out _ _ _ HE.out).mono ?_; rintro e w2 ⟨rfl, hk⟩; replace HK := Lib.hid (HK.out.trans hk (fun _ _ h => h)); replace HE := Lib.hid (HE.out.no hk); (try replace HO1 := Lib.hid (HO1.out.no hk)); (try replace HO2 := Lib.hid (HO2.out.no hk)); (try replace HE1 := Lib.hid (HE1.out.no hk)); (try replace HP := Lib.hid (HP.out.no29 hk)); (try replace HQ := Lib.hid (HQ.out.no29 hk)); clear hk)
          | (have hm := MO; clear hm; go_at_call 10; refine (HOU.out _ _ _ HE.out).mono ?_; rintro e w3 ⟨v2, rfl, hv, hk⟩; have hv' := hv.any; replace HK := Lib.hid (HK.out.trans hk (fun _ _ h => h)); replace HE := Lib.hid (HE.out.no hk); (try replace HO1 := Lib.hid (HO1.out.no hk)); (try replace HO2 := Lib.hid (HO2.out.no hk)); (try replace HE1 := Lib.hid (HE1.out.no hk)); (try replace HP := Lib.hid (HP.out.no29 hk)); (try replace HQ := Lib.hid (HQ.out.no29 hk)); clear hk; have HO2 := Lib.hid hv'; clear hv hv')
          | (go_at_call 10; refine (HOU.out _ _ _ HE.out).mono ?_; rintro e w3 ⟨v1, rfl, hv, hk⟩; have hv' := hv.any; replace HK := Lib.hid (HK.out.trans hk (fun _ _ h => h)); replace HE := Lib.hid (HE.out.no hk); (try replace HO1 := Lib.hid (HO1.out.no hk)); (try replace HO2 := Lib.hid (HO2.out.no hk)); (try replace HE1 := Lib.hid (HE1.out.no hk)); (try replace HP := Lib.hid (HP.out.no29 hk)); (try replace HQ := Lib.hid (HQ.out.no29 hk)); clear hk; have HO1 := Lib.hid hv'; have MO := Lib.hid trivial; clear hv hv')
          | (go_at_call 9; refine (HC1.out _ _ _ HO1.out).mono ?_; rintro e w2 ⟨rfl, hk⟩; replace HK := Lib.hid (HK.out.trans hk (fun _ _ h => h)); replace HE := Lib.hid (HE.out.no hk); (try replace HO1 := Lib.hid (HO1.out.no hk)); (try replace HO2 := Lib.hid (HO2.out.no hk)); (try replace HE1 := Lib.hid (HE1.out.no hk)); (try replace HP := Lib.hid (HP.out.no29 hk)); (try replace HQ := Lib.hid (HQ.out.no29 hk)); clear hk)
          | (go_at_call 11; refine (HPT.out _ _ _ HO2.out).mono ?_; rintro e w4 ⟨a3, c3, rfl, hp, hk⟩; replace HK := Lib.hid (HK.out.trans hk (fun _ _ h => h)); replace HE := Lib.hid (HE.out.no hk); (try replace HO1 := Lib.hid (HO1.out.no hk)); (try replace HO2 := Lib.hid (HO2.out.no hk)); (try replace HE1 := Lib.hid (HE1.out.no hk)); (try replace HP := Lib.hid (HP.out.no29 hk)); (try replace HQ := Lib.hid (HQ.out.no29 hk)); clear hk; have HP := Lib.hid hp; clear hp)
          | (go_at_call 12; refine (HC2.out _ _ _ HE.out).mono ?_; rintro e w2 ⟨rfl, hk⟩; replace HK := Lib.hid (HK.out.trans hk (fun _ _ h => h)); replace HE := Lib.hid (HE.out.no hk); (try replace HO1 := Lib.hid (HO1.out.no hk)); (try replace HO2 := Lib.hid (HO2.out.no hk)); (try replace HE1 := Lib.hid (HE1.out.no hk)); (try replace HP := Lib.hid (HP.out.no29 hk)); (try replace HQ := Lib.hid (HQ.out.no29 hk)); clear hk)
          | (go_at_call 13; refine (HN1.out _).mono ?_; rintro e w2 ⟨rfl, hk⟩; replace HK := Lib.hid (HK.out.trans hk (fun _ _ h => h)); replace HE := Lib.hid (HE.out.no hk); (try replace HO1 := Lib.hid (HO1.out.no hk)); (try replace HO2 := Lib.hid (HO2.out.no hk)); (try replace HE1 := Lib.hid (HE1.out.no hk)); (try replace HP := Lib.hid (HP.out.no29 hk)); (try replace HQ := Lib.hid (HQ.out.no29 hk)); clear hk)
          | (go_at_call 14; refine (HN2.out _).mono ?_; rintro e w2 ⟨rfl, hk⟩; replace HK := Lib.hid (HK.out.trans hk (fun _ _ h => h)); replace HE := Lib.hid (HE.out.no hk); (try replace HO1 := Lib.hid (HO1.out.no hk)); (try replace HO2 := Lib.hid (HO2.out.no hk)); (try replace HE1 := Lib.hid (HE1.out.no hk)); (try replace HP := Lib.hid (HP.out.no29 hk)); (try replace HQ := Lib.hid (HQ.out.no29 hk)); clear hk)
          | (go_at_call 15; refine (HVG.out _ _ _ HP.out).mono ?_; rintro e w5 ⟨v5, rfl, hv, hk⟩; have hv' := hv.any; (obtain ⟨a5, c5, rfl, _⟩ := hv); replace HK := Lib.hid (HK.out.trans hk (fun _ _ h => h)); replace HE := Lib.hid (HE.out.no hk); (try replace HO1 := Lib.hid (HO1.out.no hk)); (try replace HO2 := Lib.hid (HO2.out.no hk)); (try replace HE1 := Lib.hid (HE1.out.no hk)); (try replace HP := Lib.hid (HP.out.no29 hk)); (try replace HQ := Lib.hid (HQ.out.no29 hk)); clear hk; have HE1 := Lib.hid hv'; clear hv')
          | (go_at_call 17; refine (HRB.out _ _ _ HE.out).mono ?_; rintro e w6 ⟨v6, rfl, hv, hk⟩; replace HK := Lib.hid (HK.out.trans hk (fun _ _ h => h)); replace HE := Lib.hid (HE.out.no hk); (try replace HO1 := Lib.hid (HO1.out.no hk)); (try replace HO2 := Lib.hid (HO2.out.no hk)); (try replace HE1 := Lib.hid (HE1.out.no hk)); (try replace HP := Lib.hid (HP.out.no29 hk)); (try replace HQ := Lib.hid (HQ.out.no29 hk)); clear hk; have HQ := Lib.hid hv; clear hv)
          | (go_at_call 16; refine (Same_any _ _ _ _ _ _ _ HP.out HQ.out).mono ?_; rw [decide_eq_true rfl]; rintro e w2 ⟨rfl, hk⟩; replace HK := Lib.hid (HK.out.trans hk (fun _ _ h => h)); replace HE := Lib.hid (HE.out.no hk); (try replace HO1 := Lib.hid (HO1.out.no hk)); (try replace HO2 := Lib.hid (HO2.out.no hk)); (try replace HE1 := Lib.hid (HE1.out.no hk)); (try replace HP := Lib.hid (HP.out.no29 hk)); (try replace HQ := Lib.hid (HQ.out.no29 hk)); clear hk)
          | (go_at_call 18; refine (HLK.out _ _ _ _ _ HE1.out HE.out).mono ?_; rintro e w2 ⟨rfl, hk⟩; replace HK := Lib.hid (HK.out.trans hk (fun _ _ h => h)); replace HE := Lib.hid (HE.out.no hk); (try replace HO1 := Lib.hid (HO1.out.no hk)); (try replace HO2 := Lib.hid (HO2.out.no hk)); (try replace HE1 := Lib.hid (HE1.out.no hk)); (try replace HP := Lib.hid (HP.out.no29 hk)); (try replace HQ := Lib.hid (HQ.out.no29 hk)); clear hk)
          | (go_at_call 8; refine (HAW.out _ (HV.out.no HK.out)).mono ?_; rintro e w2 ⟨rfl, hk⟩; replace HK := Lib.hid (HK.out.trans hk (fun _ _ h => h)); replace HE := Lib.hid (HE.out.no hk); (try replace HO1 := Lib.hid (HO1.out.no hk)); (try replace HO2 := Lib.hid (HO2.out.no hk)); (try replace HE1 := Lib.hid (HE1.out.no hk)); (try replace HP := Lib.hid (HP.out.no29 hk)); (try replace HQ := Lib.hid (HQ.out.no29 hk)); clear hk))
        go_ret
        exact ⟨rfl, HK.out⟩
      · have hp : putE E = [] := by unfold putE; rw [if_neg hz]
        rw [hp] at HPT
        obtain ⟨er, her⟩ : ∃ q, q = chkE E := ⟨_, rfl⟩
        rw [← her] at HC1 HC2 HPT hz
        have g9 : (er != 0) = true := bne_iff_ne.2 hz
        clear hp hz her h40 h30 h60 hnm hnb
        go_enter Tryd.func3, Tryd.ntmps3
        go_wp2_with (first
          | (go_at_call 7; refine (HFA.out _ _ _ HE.out).mono ?_; rintro e w2 ⟨rfl, hk⟩; replace HK := Lib.hid (HK.out.trans hk (fun _ _ h => h)); replace HE := Lib.hid (HE.out.no hk); (try replace HO1 := Lib.hid (HO1.out.no hk)); (try replace HO2 := Lib.hid (HO2.out.no hk)); (try replace HE1 := Lib.hid (HE1.out.no hk)); (try replace HP := Lib.hid (HP.out.no29 hk)); (try replace HQ := Lib.hid (HQ.out.no29 hk)); clear hk)
          | (have hm := MO; clear hm; go_at_call 10; refine (HOU.out _ _ _ HE.out).mono ?_; rintro e w3 ⟨v2, rfl, hv, hk⟩; have hv' := hv.any; replace HK := Lib.hid (HK.out.trans hk (fun _ _ h => h)); replace HE := Lib.hid (HE.out.no hk); (try replace HO1 := Lib.hid (HO1.out.no hk)); (try replace HO2 := Lib.hid (HO2.out.no hk)); (try replace HE1 := Lib.hid (HE1.out.no hk)); (try replace HP := Lib.hid (HP.out.no29 hk)); (try replace HQ := Lib.hid (HQ.out.no29 hk)); clear hk; have HO2 := Lib.hid hv'; clear hv hv')
          | (go_at_call 10; refine (HOU.out _ _ _ HE.out).mono ?_; rintro e w3 ⟨v1, rfl, hv, hk⟩; have hv' := hv.any; replace HK := Lib.hid (HK.out.trans hk (fun _ _ h => h)); replace HE := Lib.hid (HE.out.no hk); (try replace HO1 := Lib.hid (HO1.out.no hk)); (try replace HO2 := Lib.hid (HO2.out.no hk)); (try replace HE1 := Lib.hid (HE1.out.no hk)); (try replace HP := Lib.hid (HP.out.no29 hk)); (try replace HQ := Lib.hid (HQ.out.no29 hk)); clear hk; have HO1 := Lib.hid hv'; have MO := Lib.hid trivial; clear hv hv')
          | (go_at_call 9; refine (HC1.out _ _ _ HO1.out).mono ?_; rintro e w2 ⟨rfl, hk⟩; replace HK := Lib.hid (HK.out.trans hk (fun _ _ h => h)); replace HE := Lib.hid (HE.out.no hk); (try replace HO1 := Lib.hid (HO1.out.no hk)); (try replace HO2 := Lib.hid (HO2.out.no hk)); (try replace HE1 := Lib.hid (HE1.out.no hk)); (try replace HP := Lib.hid (HP.out.no29 hk)); (try replace HQ := Lib.hid (HQ.out.no29 hk)); clear hk)
          | (go_at_call 11; refine (HPT.out _ _ _ HO2.out).mono ?_; rintro e w4 ⟨a3, c3, rfl, hp, hk⟩; replace HK := Lib.hid (HK.out.trans hk (fun _ _ h => h)); replace HE := Lib.hid (HE.out.no hk); (try replace HO1 := Lib.hid (HO1.out.no hk)); (try replace HO2 := Lib.hid (HO2.out.no hk)); (try replace HE1 := Lib.hid (HE1.out.no hk)); (try replace HP := Lib.hid (HP.out.no29 hk)); (try replace HQ := Lib.hid (HQ.out.no29 hk)); clear hk; have HP := Lib.hid hp; clear hp)
          | (go_at_call 12; refine (HC2.out _ _ _ HE.out).mono ?_; rintro e w2 ⟨rfl, hk⟩; replace HK := Lib.hid (HK.out.trans hk (fun _ _ h => h)); replace HE := Lib.hid (HE.out.no hk); (try replace HO1 := Lib.hid (HO1.out.no hk)); (try replace HO2 := Lib.hid (HO2.out.no hk)); (try replace HE1 := Lib.hid (HE1.out.no hk)); (try replace HP := Lib.hid (HP.out.no29 hk)); (try replace HQ := Lib.hid (HQ.out.no29 hk)); clear hk)
          | (go_at_call 13; refine (HN1.out _).mono ?_; rintro e w2 ⟨rfl, hk⟩; replace HK := Lib.hid (HK.out.trans hk (fun _ _ h => h)); replace HE := Lib.hid (HE.out.no hk); (try replace HO1 := Lib.hid (HO1.out.no hk)); (try replace HO2 := Lib.hid (HO2.out.no hk)); (try replace HE1 := Lib.hid (HE1.out.no hk)); (try replace HP := Lib.hid (HP.out.no29 hk)); (try replace HQ := Lib.hid (HQ.out.no29 hk)); clear hk)
          | (go_at_call 14; refine (HN2.out _).mono ?_; rintro e w2 ⟨rfl, hk⟩; replace HK := Lib.hid (HK.out.trans hk (fun _ _ h => h)); replace HE := Lib.hid (HE.out.no hk); (try replace HO1 := Lib.hid (HO1.out.no hk)); (try replace HO2 := Lib.hid (HO2.out.no hk)); (try replace HE1 := Lib.hid (HE1.out.no hk)); (try replace HP := Lib.hid (HP.out.no29 hk)); (try replace HQ := Lib.hid (HQ.out.no29 hk)); clear hk)
          | (go_at_call 8; refine (HAW.out _ (HV.out.no HK.out)).mono ?_; rintro e w2 ⟨rfl, hk⟩; replace HK := Lib.hid (HK.out.trans hk (fun _ _ h => h)); replace HE := Lib.hid (HE.out.no hk); (try replace HO1 := Lib.hid (HO1.out.no hk)); (try replace HO2 := Lib.hid (HO2.out.no hk)); (try replace HE1 := Lib.hid (HE1.out.no hk)); (try replace HP := Lib.hid (HP.out.no29 hk)); (try replace HQ := Lib.hid (HQ.out.no29 hk)); clear hk))
        go_ret
        exact ⟨rfl, HK.out⟩
end Go.Proofs.YtiifkcjngajegaaDoor
