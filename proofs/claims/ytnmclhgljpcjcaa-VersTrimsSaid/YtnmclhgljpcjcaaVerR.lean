/-
  awake and all of layer 15; the walk of VersNil.
-/
import Derived.Test.YtnmclhgljpcjcaaVerP
import Derived.Test.YtnmclhgljpcjcaaVerQ
namespace Go.Proofs.Ytnmclhgljpcjcaa
open Go.RowKit
set_option linter.unusedVariables false
set_option linter.unusedSimpArgs false

def ex15a : Vn := ⟨1, 4, []⟩
def ex15b : Vn := ⟨2, 9, []⟩
theorem put_new15 {w w' : World} {g : Nat} {G H : Nat → Prop} {l : List Vn} {x : Vn} {e : Ending} (h : PutEndV w g G l x e w') (hG : ∀ k, G k ∨ w.heap.size ≤ k → H k) : e = .returned (.int .i64 (putXV l x)) ∧ BkAt w' g H (putLV l x) ∧ Kept H w w' :=
  ⟨h.1, h.2.1.mono (fun k _ hk => hG k hk), h.2.2.mono (fun k _ hk => hG k (.inl hk))⟩
set_option maxRecDepth 100000 in
set_option maxHeartbeats 1000000 in
theorem awake15 (w : World) : Calls Try.prog 17 #[] w fun e w' => e = .returned (.bool true) ∧ Kept NoB w w' := by
  have HN := Lib.hid (VNew_any w)
  go_enter Try.func17, Try.ntmps17
  go_wp2_with fail
  refine HN.out.mono ?_
  rintro e w1 ⟨rfl, hb1, hk1⟩
  have HB1 := Lib.hid (hb1.mono (G := fun k => w.heap.size ≤ k) (fun k _ h => by omega))
  have HK1 := Lib.hid (hk1.mono (T := fun k => w.heap.size ≤ k) (fun _ _ h => absurd h (fun h => h)))
  clear hb1 hk1
  go_wp2_with fail
  refine (VPut_any w1 w.heap.size (fun k => w.heap.size ≤ k) NoB [] _ ex15a HB1.out ⟨_, rfl, BSl.nil _ _⟩ (by unfold FitV ex15a; decide) (by decide) (by decide)).mono ?_
  intro e w2 h2
  obtain ⟨rfl, hb2, hk2⟩ := put_new15 (H := fun k => w.heap.size ≤ k) h2 (fun k h => by have := HK1.out.size; omega)
  have hx : putXV [] ex15a = 0 := by decide
  have hL : putLV [] ex15a = [ex15a] := by unfold putLV; rw [hx]; rfl
  rw [hL] at hb2
  rw [hx]
  have HB2 := Lib.hid hb2
  have HK2 := Lib.hid (HK1.out.trans hk2 (fun _ _ h => h))
  clear h2 hb2 hk2 hx hL
  go_wp2_with fail
  refine (VPut_any w2 w.heap.size (fun k => w.heap.size ≤ k) NoB [ex15a] _ ex15b HB2.out ⟨_, rfl, BSl.nil _ _⟩ (by unfold FitV ex15b; decide) (by decide) (by decide)).mono ?_
  intro e w3 h3
  obtain ⟨rfl, hb3, hk3⟩ := put_new15 (H := fun k => w.heap.size ≤ k) h3 (fun k h => by have := HK2.out.size; omega)
  have hx : putXV [ex15a] ex15b = 0 := by decide
  have hL : putLV [ex15a] ex15b = [ex15a, ex15b] := by unfold putLV; rw [hx]; rfl
  rw [hL] at hb3
  rw [hx]
  obtain ⟨a3, c3, hc3, hv3⟩ := hb3.vs
  have hA3 := hb3.asc
  have hK3 := HK2.out.trans hk3 (fun _ _ h => h)
  have HK3 := Lib.hid hK3
  have HT3 := Lib.hid (TellsV.of hc3)
  have HV3 := Lib.hid hv3
  have HA3 := Lib.hid hA3
  have HCL : Hid (cleanV [ex15a, ex15b] 6 = ⟨1, 4, []⟩) := Lib.hid (by rfl)
  have HD1 : Hid (dirtyB [ex15a, ex15b] 6 = true) := Lib.hid (by decide)
  have HD2 : Hid (dirtyB [ex15a, ex15b] 9 = false) := Lib.hid (by decide)
  clear h3 hb3 hk3 hx hL hc3 hv3 hA3 hK3
  go_wp2_with fail
  refine (VClean_any w3 _ _ _ 6 _ HT3.out HV3.out HA3.out (by decide)).mono ?_
  rintro e w4 ⟨v4, rfl, hv4, hk4⟩
  rw [HCL.out] at hv4
  obtain ⟨u4, rfl, hu4⟩ := hv4
  obtain ⟨ua, uc, rfl⟩ := own_form hu4.2.1
  have HK4 := Lib.hid hk4
  have hfl := fld15_r 1 4 (.slice ua 0 uc)
  clear hk4 hu4
  go_wp2_with fail
  refine (VDirty_any w4 _ _ _ 6 _ (HT3.out.no HK4.out) (HV3.out.no HK4.out)).mono ?_
  rintro e w5 ⟨rfl, hk5⟩
  rw [HD1.out]
  have HK5 := Lib.hid (HK4.out.trans hk5 (fun _ _ h => h))
  clear hk5
  go_wp2_with fail
  refine (VDirty_any w5 _ _ _ 9 _ (HT3.out.no HK5.out) (HV3.out.no HK5.out)).mono ?_
  rintro e w6 ⟨rfl, hk6⟩
  rw [HD2.out]
  have HK6 := Lib.hid (HK5.out.trans hk6 (fun _ _ h => h))
  clear hk6
  go_wp2_with fail
  refine (VLen_any w6 _ _ _ _ (HT3.out.no HK6.out) (HV3.out.no HK6.out)).mono ?_
  rintro e w7 ⟨rfl, rfl⟩
  have hl : (([ex15a, ex15b] : List Vn).length : Int) = 2 := rfl
  rw [hl]
  clear hl
  go_wp2
  go_ret
  exact ⟨rfl, (HK3.out.trans HK6.out (fun _ _ h => absurd h (fun h => h))).mono (fun i hi h => by omega)⟩
end Go.Proofs.Ytnmclhgljpcjcaa
