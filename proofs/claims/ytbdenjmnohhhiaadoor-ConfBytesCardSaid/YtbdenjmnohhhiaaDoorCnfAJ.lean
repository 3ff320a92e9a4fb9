/-
  The page's example of layer 9.
-/
import Derived.Test.YtbdenjmnohhhiaaDoorCnfAI
import Derived.Test.YtbdenjmnohhhiaaDoorCnfAH
namespace Go.Proofs.YtbdenjmnohhhiaaDoor
open Go.RowKit Go.Sort Go.Lib
set_option linter.unusedVariables false

theorem ex_beg : begC 1 2 = [⟨0, 1, [1, 2], false, 0⟩] ∧ begX 1 2 = 0 := by decide
theorem ex_do1 : doC [⟨0, 1, [1, 2], false, 0⟩] 0 1 0 1 1 = [⟨0, 2, [2], false, 0⟩] ∧ canC [⟨0, 1, [1, 2], false, 0⟩] 0 1 0 1 1 = 0 := by decide
theorem ex_do2 : doC [⟨0, 2, [2], false, 0⟩] 0 2 0 2 5 = [⟨0, 3, [2], false, 5⟩] ∧ canC [⟨0, 2, [2], false, 0⟩] 0 2 0 2 5 = 0 := by decide
theorem ex_text : textC ⟨0, 3, [2], false, 5⟩ = [99, 104, 97, 105, 110, 32, 48, 32, 101, 112, 111, 99, 104, 32, 51, 58, 32, 50, 32, 43, 53] := by
  have d0 : Lib.decDigits 0 = [48] := by rw [Lib.decDigits]; rfl
  have d2 : Lib.decDigits 2 = [50] := by rw [Lib.decDigits]; rfl
  have d3 : Lib.decDigits 3 = [51] := by rw [Lib.decDigits]; rfl
  have d5 : Lib.decDigits 5 = [53] := by rw [Lib.decDigits]; rfl
  have hR : Rgt ⟨0, 3, [2], false, 5⟩ := by decide
  unfold textC
  rw [if_pos hR]
  show (txA 0 3 ++ ([32] ++ Lib.decDigits 2 ++ [])) ++ ([32, 43] ++ Lib.decDigits 5) = _
  unfold txA
  rw [d0, d2, d3, d5]
  rfl
set_option maxRecDepth 100000 in
set_option maxHeartbeats 1000000 in
theorem awake9 (w : World) (ht : Tab9 w) : Calls Tryd.prog 5 #[] w (BoolE true w) := by
  have HT := Lib.hid ht
  have HBG : Hid (∀ w, Calls Tryd.prog 18 #[.int .i64 1, .int .i64 2] w fun e w' => ∃ v, e = .returned (.tuple #[v, .int .i64 0]) ∧ CfsAt w' (fun k => w.heap.size ≤ k) v [⟨0, 1, [1, 2], false, 0⟩] ∧ Kept NoB w w') := Lib.hid (fun w => by
    have := Begin_any 1 2 w
    unfold BegE at this
    rw [ex_beg.1, ex_beg.2] at this
    exact this)
  have HD1 : Hid (∀ v F w, CfsAt w F v [⟨0, 1, [1, 2], false, 0⟩] → Calls Tryd.prog 19 #[v, cmdv 1 0 1 1] w (DoE [⟨0, 2, [2], false, 0⟩] true w)) := Lib.hid (fun v F w h => by
    have := Do_any v _ 0 1 0 1 1 F w h (by decide) (Chk.ok.2 (by unfold Vld; omega)) (by omega)
    rw [ex_do1.1, ex_do1.2] at this
    exact this)
  have HD2 : Hid (∀ v F w, CfsAt w F v [⟨0, 2, [2], false, 0⟩] → Calls Tryd.prog 19 #[v, cmdv 2 0 2 5] w (DoE [⟨0, 3, [2], false, 5⟩] true w)) := Lib.hid (fun v F w h => by
    have := Do_any v _ 0 2 0 2 5 F w h (by decide) (Chk.ok.2 (by unfold Vld; omega)) (by omega)
    rw [ex_do2.1, ex_do2.2] at this
    exact this)
  have HTX : Hid (∀ v F w, CfV w F v ⟨0, 3, [2], false, 5⟩ → Tab9 w → Calls Tryd.prog 20 #[v] w (StrE [99, 104, 97, 105, 110, 32, 48, 32, 101, 112, 111, 99, 104, 32, 51, 58, 32, 50, 32, 43, 53] w)) := Lib.hid (fun v F w h ht => by
    have := Text9_any v _ F w h ht
    rw [ex_text] at this
    exact this)
  clear ht
  go_enter Tryd.func5, Tryd.ntmps5
  go_wp2_with fail
  refine (HBG.out _).mono ?_
  rintro e w1 ⟨v, rfl, hcf, hk⟩
  have HCF := Lib.hid hcf
  obtain ⟨a1, cap1, rfl, _⟩ := hcf
  have HK1 := Lib.hid hk
  clear hk
  go_wp2_with fail
  refine (HD1.out _ _ _ HCF.out).mono ?_
  rintro e w2 ⟨v, rfl, hcf, hk⟩
  have HCF2 := Lib.hid hcf
  obtain ⟨a2, cap2, rfl, _⟩ := hcf
  have HK2 := Lib.hid (HK1.out.trans hk (fun _ _ h => h))
  clear hk
  go_wp2_with fail
  refine (HD2.out _ _ _ HCF2.out).mono ?_
  rintro e w3 ⟨v, rfl, hcf, hk⟩
  have HCF3 := Lib.hid hcf
  have hcf' := hcf
  obtain ⟨a3, cap3, rfl, _⟩ := hcf
  obtain ⟨b, o, rfl, _, _, u, e0, e1, e2, e3, e4, hns, hbd⟩ := hcf'.at_ (j := 0) (by decide)
  have hcv := cf_eta _ _ _ _ hns hbd
  obtain ⟨ua, uc, rfl, _⟩ := id hns
  have HK3 := Lib.hid (HK2.out.trans hk (fun _ _ h => h))
  have HXT := Lib.hid (HTX.out _ _ _ hcv (HT.out.kept HK3.out))
  clear hk hcv hns hbd hcf'
  simp only [Nat.zero_mul, Nat.add_zero] at e0 e1 e2 e3 e4
  go_wp2_with fail
  refine HXT.out.mono ?_
  rintro e w4 ⟨rfl, hk⟩
  have HK4 := Lib.hid (HK3.out.trans hk (fun _ _ h => h))
  clear hk
  go_wp2
  go_ret
  exact ⟨rfl, HK4.out⟩
end Go.Proofs.YtbdenjmnohhhiaaDoor
