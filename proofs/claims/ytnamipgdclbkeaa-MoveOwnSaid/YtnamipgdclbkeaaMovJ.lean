/-
  The walk of MoveParts.
-/
import Derived.Test.YtnamipgdclbkeaaMovH
import Derived.Deep.CutRange
import Derived.Deep.DeepCutAuto
namespace Go.Proofs.Ytnamipgdclbkeaa
open Go.RowKit Go.Shelf
set_option linter.unusedVariables false
set_option linter.unusedSimpArgs false

theorem take_prt (l : List Int) (k : Nat) : l.take (1024 * (k + 1)) = l.take (1024 * k) ++ prt l k := by
  unfold prt
  rw [Nat.mul_succ, List.take_add]
theorem take_npr (l : List Int) : l.take (1024 * npr l.length) = l := by
  apply List.take_of_length_le
  unfold npr
  omega
theorem Same_yes (v u : Value) (l : List Int) (F G : Nat → Prop) (w : World) (h : BSl w F v l) (k : BSl w G u l) :
    Calls Try.prog 14 #[v, u] w fun e w' => e = .returned (.bool true) ∧ Kept NoB w w' := by
  refine (Same_any v u l l F G w h k).mono ?_
  rintro e w' ⟨rfl, hk⟩
  rw [decide_eq_true (rfl : l = l)]
  exact ⟨rfl, hk⟩
def PtRel (w : World) (l : List Int) (al kv : Value) (wr : World) : Prop :=
  ∃ k : Nat, kv = .int .i64 k ∧ k ≤ npr l.length ∧ Own wr (fun j => w.heap.size ≤ j) al (l.take (1024 * k)) ∧ Kept NoB w wr
set_option maxRecDepth 100000 in
theorem MoveParts_any (n : Nat) (v : Value) (l : List Int) (i : Int) (F : Nat → Prop) (w : World) (h : BSl w F v l) (hlm : l.length ≤ 9223372036854775807) : Calls Try.prog 3 #[.int .u64 n, v, .int .i64 i] w fun e w' => e = .returned (.bool true) ∧ Kept NoB w w' := by
  obtain ⟨i0, hi0, hz0, hz1, hz2⟩ := info_parts Try.info5
  obtain ⟨va, vc, rfl, _⟩ := id h
  have HB := Lib.hid h
  clear h
  by_cases hl : (6000 : Int) < l.length
  · have d1 : decide ((6000 : Int) < l.length) = true := decide_eq_true hl
    go_enter Try.func3, Try.ntmps3
    go_wp2_with (go_at_call 7; refine (awake21_any _).mono ?_; rintro e w4 ⟨rfl, hk4⟩; have HK4 := Lib.hid hk4; clear hk4)
    go_ret
    exact ⟨rfl, HK4.out⟩
  · have d1 : decide ((6000 : Int) < l.length) = false := decide_eq_false hl
    have hl6 : l.length ≤ 100000 := by omega
    obtain ⟨N, hN⟩ : ∃ N, N = npr l.length := ⟨_, rfl⟩
    have hN9 : N ≤ 6 := by rw [hN]; unfold npr; omega
    have HN := Lib.hid hN
    clear hN
    go_enter Try.func3, Try.ntmps3
    go_upto_region 6 with (first
      | (go_at_call 8; refine (NewM_any n _ l F w HB.out hl6).mono ?_; rintro e w2 ⟨g, rfl, hO2, hk2⟩; have HO2 := Lib.hid hO2; have HK2 := Lib.hid hk2; clear hO2 hk2)
      | (go_at_call 9; refine (Part_any g n l i _ _ HO2.out hl6).mono ?_; rintro e w3 ⟨v3, b3, rfl, hb3, hv3, hk3⟩; have HB3 := Lib.hid hb3; have HV3 := Lib.hid hv3; have HO3 := Lib.hid (HO2.out.no hk3); have HK3 := Lib.hid (HK2.out.trans hk3 (fun _ _ h => h)); clear hb3 hv3 hk3)
      | (go_at_call 10; refine (RPart_any _ l i F _ (HB.out.kept HK3.out (fun _ _ h => h)) hl6).mono ?_; rintro e w4 ⟨v4, b4, rfl, hb4, hv4, rfl⟩; have HB4 := Lib.hid hb4; have HV4 := Lib.hid hv4; clear hb4 hv4))
    obtain rfl : b4 = b3 := HB4.out.trans HB3.out.symm
    obtain ⟨px, hpx⟩ : ∃ px, px = (if b4 then prt l i.toNat else []) := ⟨_, rfl⟩
    rw [← hpx] at HV3 HV4
    obtain ⟨x3, y3, hv3⟩ : ∃ a c, v3 = .slice a px.length c := by obtain ⟨a, c, h, _⟩ := HV3.out; exact ⟨a, c, h⟩
    obtain ⟨x4, y4, hv4⟩ : ∃ a c, v4 = .slice a px.length c := by obtain ⟨a, c, h, _⟩ := HV4.out; exact ⟨a, c, h⟩
    subst hv3 hv4
    have HV3' := Lib.hid (HV3.out.mono (G := fun k => k < w3.heap.size) (fun k h _ => h))
    clear hpx HB3 HB4 HO2 HV3
    go_wp2
    go_loopw [12, 13, 14, 15] (fun al kv _ _ wr => PtRel w3 l al kv wr) (fun _ kv _ _ _ => N - (intOf kv).toNat)
    case atStart => exact ⟨0, rfl, Nat.zero_le _, by simpa using Own.nil _ _, Kept.refl _ _⟩
    case round =>
      obtain ⟨k, rfl, hk, hO, hK⟩ := hrel
      rw [← HN.out] at hk
      obtain ⟨oa, oc, rfl⟩ := own_form hO.2.1
      have htl : (l.take (1024 * k)).length ≤ 100000 := Nat.le_trans (List.length_take_le _ _) (by omega)
      obtain ⟨m, hm⟩ : ∃ m, m = l.take (1024 * k) := ⟨_, rfl⟩
      rw [← hm] at hO htl ⊢
      have HM := Lib.hid hm
      have HO := Lib.hid hO
      have HK := Lib.hid hK
      have HO5 := Lib.hid (HO3.out.no hK)
      clear hm hO hK
      have hks : w3.heap.size ≤ wr.heap.size := HK.out.size
      by_cases hlt : k < N
      · have hlt1 : (k : Int) < N := by omega
        have hk20 : (k : Int) < 20 := by omega
        go_upto_region 11 with (first
          | (go_at_call 11; refine (Parts_any g n l _ _ HO5.out).mono ?_; rintro e w9 ⟨rfl, rfl⟩; rw [← HN.out])
          | (go_at_call 9; refine (Part_any g n l k _ _ HO5.out hl6).mono ?_; rintro e w6 ⟨v6, b6, rfl, hb6, hv6, hk6⟩; obtain rfl : b6 = true := (by rw [hb6, ← HN.out]; exact decide_eq_true ⟨by omega, by omega⟩); rw [if_pos rfl, show ((k : Int)).toNat = k from rfl] at hv6; have HV6 := Lib.hid hv6; have HK6 := Lib.hid hk6; clear hv6 hk6 hb6))
        obtain ⟨b, hb⟩ : ∃ b, b = prt l k := ⟨_, rfl⟩
        have hbl : b.length ≤ 1024 := by rw [hb, prt_len]; omega
        rw [← hb] at HV6
        obtain ⟨x6, y6, hv6⟩ : ∃ a c, v6 = .slice a b.length c := by obtain ⟨a, c, h, _⟩ := HV6.out; exact ⟨a, c, h⟩
        subst hv6
        have HBE := Lib.hid hb
        have HO6 := Lib.hid (HO.out.kept HK6.out (fun _ _ h => h))
        clear hb HO
        go_wp2_with (at_builtin; refine wpList_append_bsl _ rfl (.tmp 51) (.tmp 52) _ rfl 5 i0 _ Try.underlying23 hi0 hz0 hz1 hz2 rfl (.slice oa m.length oc) m.length m rfl HO6.out.2.1 _ _ b rfl HV6.out (by omega) ?_; intro a' c' w1 hown2 hg2 hat2; have HG := Lib.hid (HO6.out.grow (G := fun k => w3.heap.size ≤ k) HV6.out.isB (fun _ _ h => h) (fun k h => by have := HK6.out.size; omega) hown2 hg2 hat2); clear hown2 hg2 hat2)
        go_roundw
        case rel =>
          refine ⟨k + 1, by go_num, by rw [← HN.out]; omega, ?_, (HK.out.trans HK6.out (fun _ _ h => h)).trans HG.out.2 (fun i hi h => by omega)⟩
          rw [take_prt, ← HM.out, ← HBE.out]; exact HG.out.1
        case measure => simp [intOf]; omega
      · have hke : k = N := by omega
        have hd : ¬ (k : Int) < N := by omega
        have hml : m = l := by rw [HM.out, hke, HN.out, take_npr]
        subst hml
        have HS1 := Lib.hid (fun wq (hkq : Kept NoB wr wq) => Same_yes _ _ px _ _ wq (HV3'.out.kept ((HK.out.trans hkq (fun _ _ h => h))) (fun _ _ h => h)) (HV4.out.kept ((HK.out.trans hkq (fun _ _ h => h))) (fun _ _ h => h)))
        have HS2 := Lib.hid (fun wq (hkq : Kept NoB wr wq) => Same_yes _ _ m _ _ wq (HO.out.bsl.kept hkq (fun _ _ h => h)) (HB.out.kept ((HK3.out.trans HK.out (fun _ _ h => h)).trans hkq (fun _ _ h => h)) (fun _ _ h => h)))
        clear hke
        have HKq := Lib.hid (Kept.refl NoB wr)
        go_wp2_with (first
          | (go_at_call 11; refine (Parts_any g n m _ _ (HO5.out.no HKq.out)).mono ?_; rintro e w9 ⟨rfl, rfl⟩; rw [← HN.out])
          | (go_at_call 12; refine (At_any g n m _ _ (HO5.out.no HKq.out)).mono ?_; rintro e w9 ⟨rfl, rfl⟩)
          | (go_at_call 13; refine (RParts_any _ m _ _ (HB.out.kept ((HK3.out.trans HK.out (fun _ _ h => h)).trans HKq.out (fun _ _ h => h)) (fun _ _ h => h)) hl6).mono ?_; rintro e w9 ⟨rfl, rfl⟩; rw [← HN.out])
          | (go_at_call 14; (first | (with_reducible refine (HS1.out _ HKq.out).mono ?_) | (with_reducible refine (HS2.out _ HKq.out).mono ?_)); rintro e w9 ⟨rfl, hk9⟩; replace HKq := Lib.hid (HKq.out.trans hk9 (fun _ _ h => h)); clear hk9)
          | (go_at_call 7; refine (awake21_any _).mono ?_; rintro e w9 ⟨rfl, hk9⟩; replace HKq := Lib.hid (HKq.out.trans hk9 (fun _ _ h => h)); clear hk9))
        go_ret
        exact ⟨rfl, (HK3.out.trans HK.out (fun _ _ h => h)).trans HKq.out (fun _ _ h => h)⟩
theorem MoveParts_i (a : Int) (v : Value) (l : List Int) (i : Int) (w : World) (h : BSl w (fun k => k < w.heap.size) v l) (h0 : 0 ≤ a) : Calls Try.prog 3 #[.int .u64 a, v, .int .i64 i] w fun e w' => e = .returned (.bool true) ∧ Kept NoB w w' := by
  obtain ⟨k, rfl⟩ := Int.eq_ofNat_of_zero_le h0
  exact MoveParts_any k v l i _ w h (by obtain ⟨_, _, _, h1, h2, _⟩ := h; unfold maxLen at h2; omega)
end Go.Proofs.Ytnamipgdclbkeaa
