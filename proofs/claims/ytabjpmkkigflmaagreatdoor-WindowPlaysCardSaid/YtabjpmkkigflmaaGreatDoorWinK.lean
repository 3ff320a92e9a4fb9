/-
  Calls of a window that came in; the walk of WindowOnce.
-/
import Derived.Test.YtabjpmkkigflmaaGreatDoorWinJ
import Derived.IntWalk
import Derived.Deep.RegionHeld3
namespace Go.Proofs.YtabjpmkkigflmaaGreatDoor
open Go.RowKit
set_option linter.unusedVariables false
set_option linter.unusedSimpArgs false

/-- A call of a window. -/
structure Opr where
  k : Int
  n : Int
  u : Up
  b : Int
  m : Int
/-- Eleven cells that are a call. -/
structure OprC (w : World) (G : Nat → Prop) (r q : Nat) (x : Opr) : Prop where
  c0 : w.cell? ⟨r, q, none⟩ = some (.int .i64 x.k)
  c1 : w.cell? ⟨r, q + 1, none⟩ = some (.int .u8 x.n)
  cu : UpAt w G r (q + 2) x.u
  c9 : w.cell? ⟨r, q + 9, none⟩ = some (.int .u8 x.b)
  c10 : w.cell? ⟨r, q + 10, none⟩ = some (.int .i64 x.m)
  n0 : 0 ≤ x.n
  n1 : x.n ≤ 255
  b0 : 0 ≤ x.b
  b1 : x.b ≤ 255
  fit : FitU x.u
theorem OprC.no {w w' : World} {G : Nat → Prop} {r q : Nat} {x : Opr} (h : OprC w G r q x) (hk : Kept NoB w w') : OprC w' G r q x :=
  ⟨hk.cell (p := ⟨r, q, none⟩) (fun h => h) h.c0, hk.cell (p := ⟨r, q + 1, none⟩) (fun h => h) h.c1, h.cu.kept hk (fun h => h) (fun _ _ h => h), hk.cell (p := ⟨r, q + 9, none⟩) (fun h => h) h.c9, hk.cell (p := ⟨r, q + 10, none⟩) (fun h => h) h.c10, h.n0, h.n1, h.b0, h.b1, h.fit⟩
/-- A slice of calls. -/
def OpsAt (w : World) (G : Nat → Prop) (v : Value) (n : Nat) (it : Nat → Opr) : Prop :=
  ∃ a c, v = .slice a n c ∧ n ≤ c ∧ c ≤ maxLen ∧ (0 < n → ∃ r o, a = some ⟨r, o, none⟩ ∧ r < w.heap.size ∧ ∀ j, j < n → OprC w G r (o + j * 11) (it j))
/-- What Reach tells, told once. -/
theorem outW_seq {x : Wn} (h : WnOk x) (d : Nat) : (outW x d).length = doneW x d - x.done ∧ ∀ j, j < (outW x d).length → (nthU (outW x d) j).q = ((x.done : Int) + 1) + j := by
  have h1 := h.ld
  have h2 : x.done ≤ doneW x d ∧ doneW x d ≤ x.en := by unfold doneW; have := h.de; omega
  have hl : (outW x d).length = doneW x d - x.done := betW_len h h1 h2.1 h2.2
  refine ⟨hl, fun j hj => ?_⟩
  unfold outW
  rw [betW_nth h h1 h2.2 (by omega), h.seq _ (by rw [h.len]; omega)]
  omega
theorem norm_held {x : Wn} (h : WnOk x) (nm : Norm x) : x.l.length ≤ 32 + (x.en - x.done) := by
  have h1 := h.len
  have h2 := h.ld
  have h3 := h.de
  unfold Norm at nm
  omega
theorem tmod_nat {a m : Int} (h : 0 ≤ a) (hm : 0 < m) : ∃ t : Nat, a.tmod m = (t : Int) ∧ a % m = (t : Int) ∧ (t : Int) < m := by
  obtain ⟨t, ht⟩ := Int.eq_ofNat_of_zero_le (Int.emod_nonneg a (by omega : m ≠ 0))
  exact ⟨t, by rw [Int.tmod_eq_emod_of_nonneg h]; exact ht, ht, by rw [← ht]; exact Int.emod_lt_of_pos a hm⟩
set_option maxRecDepth 100000 in
set_option maxHeartbeats 4000000 in
theorem WindowOnce_any (w : World) (v : Value) (n : Nat) (it : Nat → Opr) (G : Nat → Prop) (h : OpsAt w G v n it) (ht : Tab10 w) : Calls Tryz.prog 4 #[v] w fun e w' => e = .returned (.bool true) ∧ Kept NoB w w' := by
  have HT := Lib.hid ht
  have H9 := Lib.hid (fun w' (hk : Kept NoB w w') => awake20 w' (ht.kept hk (fun h => h)))
  have HN := Lib.hid (wst_new w w 0 (by decide) (Kept.refl _ _))
  have HO := Lib.hid one20_any
  obtain ⟨a, cap, rfl, hnc, hcap, hrow⟩ := h
  have HROW := Lib.hid hrow
  have hn64 : (n : Int) ≤ 9223372036854775807 := by unfold maxLen at hcap; omega
  clear ht hrow hcap
  go_enter Tryz.func4, Tryz.ntmps4
  go_wp2_with fail
  refine HN.out.mono ?_
  rintro e w1 ⟨rfl, hw1, hk1⟩
  have HW1 := Lib.hid hw1
  obtain ⟨b, hb⟩ : ∃ b, b = w.heap.size := ⟨_, rfl⟩
  rw [← hb] at HW1 ⊢
  clear hw1 hk1 hb
  go_wp2_with fail
  go_loopw [4, 5] (fun nv iv wr => ∃ (i : Nat) (S : Nat → Prop) (x : Wn), i ≤ n ∧ i ≤ 60 ∧ iv = .int .i64 i ∧ nv = .int .u64 ((x.done : Int) + 1) ∧ x.en ≤ 29 * i ∧ WSt w wr S b x) (fun _ iv _ => 60 - (intOf iv).toNat)
  case atStart => exact ⟨0, _, newW 0, Nat.zero_le _, by omega, rfl, rfl, Nat.zero_le _, HW1.out⟩
  case round =>
    obtain ⟨i, S, x, hi, hi60, rfl, rfl, hen, hst⟩ := hrel
    have HST := Lib.hid hst
    clear hst
    by_cases hin : i < n
    · have hini : (i : Int) < (n : Int) := by omega
      by_cases h60 : i < 60
      · have h60i : (i : Int) < 60 := by omega
        have hi0 : (0 : Int) ≤ (i : Int) := by omega
        obtain ⟨r, o, ha, hr, hcell⟩ := HROW.out (by omega)
        subst ha
        have HC := Lib.hid (fun w' (hk : Kept NoB w w') => (hcell i hin).no hk)
        have HQ := Lib.hid (hcell i hin)
        clear hcell
        obtain ⟨⟨ok, on, ou, ob, om⟩, hop⟩ : ∃ z, z = it i := ⟨_, rfl⟩
        rw [← hop] at HC HQ
        clear hop
        have hn0 := HQ.out.n0
        have hn1 := HQ.out.n1
        have hb0 := HQ.out.b0
        have hb1 := HQ.out.b1
        simp only at hn0 hn1 hb0 hb1
        obtain ⟨M, hM1, hM2, hM3⟩ := tmod_nat hn0 (show (0 : Int) < 30 by decide)
        obtain ⟨T, hT1, hT2, hT3⟩ := tmod_nat hb0 (show (0 : Int) < 20 by decide)
        have hwn : IntKind.i64.wrap on = on := IntWalk.i64_in _ (by omega)
        have hwb : IntKind.u64.wrap ob = ob := IntWalk.u64_in _ (by omega)
        have e1 : wr.cell? ⟨r, o + i * 11 + 1, none⟩ = some (.int .u8 on) := (HC.out wr HST.out.kept).c1
        go_wp2_with fail
        go_loopw [6] (fun kv w2 => ∃ (k : Nat) (S' : Nat → Prop) (x' : Wn), k ≤ M ∧ kv = .int .i64 k ∧ x'.done = x.done ∧ x'.en = x.en + k ∧ WSt w w2 S' b x') (fun kv _ => M - (intOf kv).toNat)
        case atStart => exact ⟨0, S, x, Nat.zero_le _, rfl, rfl, rfl, HST.out⟩
        case round =>
          obtain ⟨k, S', x', hk, rfl, hxd, hxe, hst⟩ := hrel
          have HS := Lib.hid hst
          have HXD := Lib.hid hxd
          have HXE := Lib.hid hxe
          have hxb : x'.en ≤ 2000 := by omega
          clear hst hxd hxe
          have e1 : wr.cell? ⟨r, o + i * 11 + 1, none⟩ = some (.int .u8 on) := (HC.out wr HS.out.kept).c1
          by_cases hkM : k < M
          · have hkMi : (k : Int) < (M : Int) := by omega
            have hwe : IntKind.u64.wrap ((x'.en : Int) + 1) = (x'.en : Int) + 1 := IntWalk.u64_in _ (by omega)
            have hwk : IntKind.i64.wrap ((k : Int) + 1) = (k : Int) + 1 := IntWalk.i64_in _ (by omega)
            have hxl : x'.l.length < 5000 := by have := HS.out.ok.len; omega
            have htop : x'.en + 1 ≤ 9223372036854775807 := by omega
            clear hk hkM
            go_wp2_with fail
            refine (WEnd_any _ _ _ _ HS.out.at_).mono ?_
            rintro e w3 ⟨rfl, rfl⟩
            go_wp2_with fail
            refine (HO.out _ _).mono ?_
            rintro e w4 ⟨rfl, hk4⟩
            have HS4 := Lib.hid (HS.out.no hk4)
            have HA := Lib.hid (wst_add w w4 S' b x' HS4.out _ (oneU ((x'.en : Int) + 1)) NoB (one_upv w4 _) (fun _ h => absurd h (fun h => h)) (oneU_fit (by omega) (by omega)) HT.out hxl htop)
            rw [(oneU_add x').1, (oneU_add x').2] at HA
            clear hk4
            go_wp2_with fail
            with_reducible refine HA.out.mono ?_
            rintro e w5 ⟨rfl, S5, hw5, _, _⟩
            have HS5 := Lib.hid hw5
            clear hw5
            go_wp2
            exact ⟨⟨k + 1, S5, addW x' (oneU ((x'.en : Int) + 1)), by omega, by go_num, HXD.out, (by show x'.en + 1 = _; have := HXE.out; omega), HS5.out⟩, by simp [intOf]; omega⟩
          · obtain rfl : k = M := by omega
            clear hk hkM
            have e9 : wr.cell? ⟨r, o + i * 11 + 9, none⟩ = some (.int .u8 ob) := (HC.out wr HS.out.kept).c9
            have hws : IntKind.u64.wrap ((x'.done : Int) + (T : Int)) = (x'.done : Int) + (T : Int) := IntWalk.u64_in _ (by have := HS.out.ok.de; omega)
            have HRE := Lib.hid (fun z (hz : WSt w z S' b x') => wst_reach w z S' b x' hz (x'.done + T))
            rw [Int.natCast_add] at HRE
            go_wp2_with fail
            have HKc := Lib.hid ((Kept.refl NoB wr).drew)
            have HSc := Lib.hid (HS.out.no HKc.out)
            have HEc := Lib.hid ((HC.out _ HSc.out.kept).c9)
            go_region_held3 (fun w' => w'.cell? ⟨r, o + i * 11 + 9, none⟩ = some (.int .u8 ob))
              (first | (with_reducible exact HEc.out) | (with_reducible exact HE3.out))
              (first
              | (go_at_call 27; (with_reducible refine (WDone_any _ _ _ _ HSc.out.at_).mono ?_); rintro e w3 ⟨rfl, rfl⟩)
              | (go_at_call 22; (with_reducible refine (HRE.out _ HSc.out).mono ?_); rintro e w3 ⟨a3, c3, rfl, hu3, hs3, hk3⟩; have HU3 := Lib.hid hu3; have HS3 := Lib.hid hs3; have HE3 := Lib.hid ((HC.out _ hs3.kept).c9); clear hu3 hs3 hk3))
            have HSE := Lib.hid (outW_seq HS.out.ok (x'.done + T))
            have HYD : Hid ((reachW x' (x'.done + T)).done = doneW x' (x'.done + T) ∧ (reachW x' (x'.done + T)).en = x'.en ∧ x'.done ≤ doneW x' (x'.done + T)) := Lib.hid ⟨rfl, rfl, Nat.le_max_left _ _⟩
            obtain ⟨L, hL⟩ : ∃ L, L = outW x' (x'.done + T) := ⟨_, rfl⟩
            obtain ⟨y, hy⟩ : ∃ y, y = reachW x' (x'.done + T) := ⟨_, rfl⟩
            rw [← hL] at HU3 HSE ⊢
            rw [← hy] at HS3 HYD
            rw [HXD.out] at HSE HYD
            clear hL hy HRE HSc HKc HEc hws
            have hLl : L.length ≤ 2000 := by have := HSE.out.1; have := HYD.out; have := HS3.out.ok.de; omega
            have hLd : x.done ≤ 2000 := by have := HYD.out; have := HS3.out.ok.de; omega
            obtain ⟨D, hD⟩ : ∃ D, D = x.done := ⟨_, rfl⟩
            rw [← hD] at HSE HYD hLd ⊢
            clear hD
            go_wp2_with fail
            go_loopw [4, 8] (fun nv jv wz => ∃ j : Nat, j ≤ L.length ∧ jv = .int .i64 j ∧ nv = .int .u64 ((D : Int) + 1 + j) ∧ Kept NoB w3 wz) (fun _ jv _ => L.length - (intOf jv).toNat)
            case atStart => exact ⟨0, Nat.zero_le _, rfl, by go_num, Kept.refl _ _⟩
            case round =>
              obtain ⟨j, hj, rfl, rfl, hK⟩ := hrel
              have HKJ := Lib.hid hK
              by_cases hjl : j < L.length
              · obtain ⟨r3, o3, rfl, _, _, q3, e0, _⟩ := (HU3.out.no hK).at_ hjl
                rw [HSE.out.2 j hjl] at e0
                have hj1 : (j : Int) < (L.length : Int) := by omega
                have hj0 : (0 : Int) ≤ (j : Int) := by omega
                have hwz : IntKind.u64.wrap ((D : Int) + 1 + (j : Int) + 1) = (D : Int) + 1 + (j : Int) + 1 := IntWalk.u64_in _ (by omega)
                clear hK
                go_wp2
                exact ⟨⟨j + 1, by omega, by go_num, by go_num, HKJ.out⟩, by simp [intOf]; omega⟩
              · obtain rfl : j = L.length := by omega
                have HSJ := Lib.hid (HS3.out.no hK)
                have hnx : (D : Int) + 1 + (L.length : Int) = (y.done : Int) + 1 := by have := HSE.out.1; have := HYD.out; omega
                rw [hnx]
                have HEN : Hid (y.en ≤ 29 * (i + 1)) := Lib.hid (by have := HXE.out; have := HYD.out.2.1; omega)
                clear hnx hK hj hjl e1 e9
                have HHE := Lib.hid (fun z (hz : WSt w z S' b y) => WHeld_any z S' b y hz.at_)
                have HDI := Lib.hid (fun z (hz : WSt w z S' b y) => WDirty_any z S' b y hz.at_ hz.ok)
                have hg2 : ¬ (y.done : Int) < (y.low : Int) := by have := HS3.out.ok.ld; omega
                have hg3 : ¬ (y.en : Int) < (y.done : Int) := by have := HS3.out.ok.de; omega
                have hg1 : ¬ (32 : Int) + ((y.en - y.done : Nat) : Int) < (y.l.length : Int) := by have := norm_held HS3.out.ok HS3.out.nm; omega
                have hyb : (y.done : Int) ≤ 2000 := by have := HYD.out; have := HS3.out.ok.de; omega
                have hdb : y.en - y.done ≤ 2000 := by have := HYD.out; omega
                obtain ⟨Q, hQ⟩ : ∃ z : Nat, z = y.l.length := ⟨_, rfl⟩
                obtain ⟨R, hR⟩ : ∃ z : Nat, z = y.en - y.done := ⟨_, rfl⟩
                rw [← hQ] at HHE hg1
                rw [← hR] at HDI hg1 hdb
                clear hQ hR
                have hw1 : IntKind.u64.wrap ((y.done : Int) + 1) = (y.done : Int) + 1 := IntWalk.u64_in _ (by omega)
                have hw2 : IntKind.i64.wrap ((32 : Int) + (R : Int)) = (32 : Int) + (R : Int) := IntWalk.i64_in _ (by omega)
                go_wp2_with fail
                refine (WDone_any _ _ _ _ HSJ.out.at_).mono ?_
                rintro e w4 ⟨rfl, rfl⟩
                go_wp2_with fail
                refine (HHE.out _ HSJ.out).mono ?_
                rintro e w4 ⟨rfl, rfl⟩
                go_wp2_with fail
                refine (HDI.out _ HSJ.out).mono ?_
                rintro e w4 ⟨rfl, hk4⟩
                have HS4 := Lib.hid (HSJ.out.no hk4)
                clear hk4
                go_wp2_with fail
                refine (WLow_any _ _ _ _ HS4.out.at_).mono ?_
                rintro e w5 ⟨rfl, rfl⟩
                go_wp2_with fail
                refine (WDone_any _ _ _ _ HS4.out.at_).mono ?_
                rintro e w5 ⟨rfl, rfl⟩
                go_wp2_with fail
                refine (WDone_any _ _ _ _ HS4.out.at_).mono ?_
                rintro e w5 ⟨rfl, rfl⟩
                go_wp2_with fail
                refine (WEnd_any _ _ _ _ HS4.out.at_).mono ?_
                rintro e w5 ⟨rfl, rfl⟩
                go_wp2
                exact ⟨⟨i + 1, S', y, by omega, by omega, by go_num, rfl, HEN.out, HS4.out⟩, by simp [intOf]; omega⟩
      · obtain rfl : i = 60 := by omega
        clear hi hi60
        go_wp2_with fail
        refine (H9.out _ HST.out.kept).mono ?_
        rintro e w2 ⟨rfl, hk2⟩
        have HK2 := Lib.hid (HST.out.kept.trans hk2 (fun _ _ h => h))
        clear hk2
        go_wp2
        go_ret
        exact ⟨rfl, HK2.out⟩
    · have hini : ¬ (i : Int) < (n : Int) := by omega
      go_wp2_with fail
      refine (H9.out _ HST.out.kept).mono ?_
      rintro e w2 ⟨rfl, hk2⟩
      have HK2 := Lib.hid (HST.out.kept.trans hk2 (fun _ _ h => h))
      clear hk2
      go_wp2
      go_ret
      exact ⟨rfl, HK2.out⟩
end Go.Proofs.YtabjpmkkigflmaaGreatDoor
