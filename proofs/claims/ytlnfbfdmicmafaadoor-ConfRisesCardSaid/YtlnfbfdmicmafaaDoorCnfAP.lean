/-
  The statements' own functions of layer 9: one in both; one order.
-/
import Derived.Test.YtlnfbfdmicmafaaDoorCnfE
import Derived.Test.YtlnfbfdmicmafaaDoorCnfD
import Derived.Test.YtlnfbfdmicmafaaDoorCnfG
import Derived.BigQuiet
namespace Go.Proofs.YtlnfbfdmicmafaaDoor
open Go.RowKit
set_option linter.unusedVariables false

set_option maxRecDepth 100000 in
theorem meet_any (v u : Value) (a b : List Int) (F G : Nat → Prop) (w : World) (hv : NSl w F v a) (hu : NSl w G u b) : Calls Tryd.prog 30 #[v, u] w fun e w' => e = .returned (.bool (meetB a b)) ∧ w = w' := by
  obtain ⟨xa, xc, rfl, _⟩ := id hv
  obtain ⟨ya, yc, rfl, _⟩ := id hu
  have hl := len_le hv
  have HV := Lib.hid hv
  have HH := Lib.hid (fun x => Has4_any _ b x G w hu)
  obtain ⟨d, hd⟩ : ∃ d, d = meetB a b := ⟨_, rfl⟩
  rw [← hd]
  have HD := Lib.hid hd
  clear hv hu hd
  obtain ⟨m, hm⟩ : ∃ m, m = b.length := ⟨_, rfl⟩
  rw [← hm] at HH ⊢
  clear hm
  go_enter Tryd.func30, Tryd.ntmps30
  go_wp2
  go_loop [5] (fun i => ∃ k : Nat, i = .int .i64 k ∧ k ≤ a.length ∧ ∀ j, j < k → a.getD j 0 ∉ b) (fun i => a.length - (intOf i).toNat)
  case atStart => exact ⟨0, rfl, Nat.zero_le _, fun j hj => absurd hj (by omega)⟩
  case round =>
    obtain ⟨k, rfl, hk, hno⟩ := hrel
    have HN := Lib.hid hno
    clear hno
    by_cases hlt : k < a.length
    · obtain ⟨bb, o, rfl, _, _, hc⟩ := HV.out.at_ hlt
      have HX := Lib.hid (HH.out (a.getD k 0))
      have HA : Hid (a.getD k 0 ∈ a) := Lib.hid (by rw [getD_at hlt]; exact List.getElem_mem _)
      have HS : Hid (a.getD k 0 ∉ b → ∀ j, j < k + 1 → a.getD j 0 ∉ b) := Lib.hid (fun h j hj => by
        rcases Nat.lt_succ_iff_lt_or_eq.1 hj with hj | rfl
        · exact HN.out j hj
        · exact h)
      obtain ⟨y, hy⟩ : ∃ y, y = a.getD k 0 := ⟨_, rfl⟩
      rw [← hy] at hc HX HA HS
      have hk1 : (k : Int) < (a.length : Int) := by omega
      clear hy
      by_cases he : y ∈ b
      · have HE := Lib.hid (HD.out.trans (meet_of HA.out he))
        rw [decide_eq_true he] at HX
        clear he
        go_wp2_with fail
        refine HX.out.mono ?_
        rintro e w1 ⟨rfl, rfl⟩
        go_wp2
        go_ret
        exact ⟨retB HE.out.symm, rfl⟩
      · have HE := Lib.hid (HS.out he)
        rw [decide_eq_false he] at HX
        clear he
        go_wp2_with fail
        refine HX.out.mono ?_
        rintro e w1 ⟨rfl, rfl⟩
        go_wp2
        go_round
        case rel => exact ⟨k + 1, by go_num, by omega, HE.out⟩
        case measure => simp [intOf]; omega
    · obtain rfl : k = a.length := by omega
      have HE := Lib.hid (HD.out.trans (meet_no HN.out))
      go_wp2
      go_ret
      exact ⟨retB HE.out.symm, rfl⟩
/-- What is left of the old numbers, in their order, and at most one new one. -/
def Ordd (a b : List Int) : Prop := ∃ (p : Int → Bool) (ex : List Int), b = a.filter p ++ ex ∧ ex.length ≤ 1 ∧ ∀ x ∈ ex, x ∉ a
theorem Ordd.refl (a : List Int) : Ordd a a := ⟨fun _ => true, [], (by rw [List.append_nil]; exact (List.filter_eq_self.2 (fun _ _ => rfl)).symm), by simp, fun _ h => by cases h⟩
set_option maxRecDepth 100000 in
theorem ordered_any (v u : Value) (a b : List Int) (F G : Nat → Prop) (w : World) (hv : NSl w F v a) (hu : NSl w G u b) (ho : Ordd a b) : Calls Tryd.prog 31 #[v, u] w (BoolE true w) := by
  obtain ⟨p, ex, rfl, hex, hno⟩ := ho
  obtain ⟨xa, xc, rfl, _⟩ := id hv
  obtain ⟨ya, yc, rfl, _⟩ := id hu
  have hl := len_le hv
  have hl2 := len_le hu
  have HV := Lib.hid (fun w' (hk : Kept NoB w w') => hv.kept hk (fun _ _ _ h => h))
  have HU := Lib.hid (fun w' (hk : Kept NoB w w') => hu.kept hk (fun _ _ _ h => h))
  have HH := Lib.hid (fun w' (hk : Kept NoB w w') x (hx : x ∈ a) => ord_mem hno hx ▸ Has4_any _ (a.filter p ++ ex) x G w' (hu.kept hk (fun _ _ _ h => h)))
  have HP := Lib.hid (fun k (h : k < a.length) (hp : p (a.getD k 0) = true) => posP_at (ex := ex) p h hp)
  have hEN := ord_end (p := p) (a := a) hex
  have HPL := Lib.hid (fun k => (posP_le p a k))
  have hfl : (a.filter p).length ≤ (a.filter p ++ ex).length := by simp
  clear hv hu hex hno
  obtain ⟨b, hb⟩ : ∃ b, b = a.filter p ++ ex := ⟨_, rfl⟩
  rw [← hb] at HU HH HP hEN hl2 hfl ⊢
  clear hb
  obtain ⟨m, hm⟩ : ∃ m, m = b.length := ⟨_, rfl⟩
  rw [← hm] at HU HH HP hEN hl2 hfl ⊢
  have HM := Lib.hid hm
  clear hm
  go_enter Tryd.func31, Tryd.ntmps31
  go_wp2
  go_loopw [5, 6] (fun at_ i wr => ∃ k : Nat, i = .int .i64 k ∧ k ≤ a.length ∧ at_ = .int .i64 (posP p a k) ∧ Kept NoB w wr) (fun _ i _ => a.length - (intOf i).toNat)
  case atStart => exact ⟨0, rfl, Nat.zero_le _, rfl, Kept.refl _ _⟩
  case round =>
    obtain ⟨k, rfl, hk, rfl, hkk⟩ := hrel
    have HKR := Lib.hid hkk
    clear hkk
    have hpl := HPL.out k
    by_cases hlt : k < a.length
    · obtain ⟨bb, o, rfl, _, _, hc⟩ := (HV.out _ HKR.out).at_ hlt
      have HX := Lib.hid (HH.out _ HKR.out (a.getD k 0) (by rw [getD_at hlt]; exact List.getElem_mem _))
      have HQ := Lib.hid (HP.out k hlt)
      have HS := Lib.hid (posP_succ p hlt)
      obtain ⟨y, hy⟩ : ∃ y, y = a.getD k 0 := ⟨_, rfl⟩
      rw [← hy] at hc HX HQ HS
      have hk1 : (k : Int) < (a.length : Int) := by omega
      clear hy
      obtain ⟨q, hq⟩ : ∃ q, q = posP p a k := ⟨_, rfl⟩
      rw [← hq] at HQ HS hpl ⊢
      clear hq
      by_cases he : p y = true
      · obtain ⟨hq1, hq2⟩ := HQ.out he
        rw [if_pos he] at HS
        rw [he] at HX
        obtain ⟨b2, o2, rfl, _, _, hc2⟩ := (HU.out _ HKR.out).at_ (j := q) (by rw [← HM.out]; exact hq1)
        rw [hq2] at hc2
        have hqm : q < m := hq1
        have hq3 : (q : Int) < (m : Int) := by omega
        clear he hq1 hq2
        go_wp2_with fail
        refine HX.out.mono ?_
        rintro e w1 ⟨rfl, rfl⟩
        have zz : (y != y) = false := by simp
        go_wp2_with fail
        go_quiet (fail)
        all_goals
          go_wp2
          exact ⟨⟨k + 1, by go_num, by omega, by rw [HS.out]; go_num, by first | exact HKR.out.drewN _ | exact HKR.out⟩, by simp [intOf]; omega⟩
      · rw [if_neg he] at HS
        rw [Bool.not_eq_true] at he
        rw [he] at HX
        clear he
        go_wp2_with fail
        refine HX.out.mono ?_
        rintro e w1 ⟨rfl, rfl⟩
        go_wp2
        exact ⟨⟨k + 1, by go_num, by omega, by rw [HS.out]; rfl, HKR.out⟩, by simp [intOf]; omega⟩
    · obtain rfl : k = a.length := by omega
      obtain ⟨q, hq⟩ : ∃ q, q = posP p a a.length := ⟨_, rfl⟩
      rw [← hq] at hEN hpl ⊢
      have hd : decide ((m : Int) - (q : Int) ≤ 1) = true := decide_eq_true (by omega)
      clear hq
      go_wp2
      go_ret
      exact ⟨rfl, HKR.out⟩
end Go.Proofs.YtlnfbfdmicmafaaDoor
