/-
  catenarylaw14.Far: has a letter more than is looked at?
-/
import Derived.Test.YtcbenminaakahaaGreatDoorLckL
namespace Go.Proofs.YtcbenminaakahaaGreatDoor
open Go.RowKit
set_option linter.unusedVariables false
set_option linter.unusedSimpArgs false

def farU (u : Up) : Bool := decide (2100 < u.d.length)
def far14 (c : LC) : Bool := (c.us.take 9).any farU || (decide (8 < c.us.length) || (decide (600 < c.vs.length) || (decide (2100 < c.ds.length) || decide (30 < c.ns.length))))
theorem far14_ns {c : LC} (h : far14 c = false) : c.ns.length ≤ 30 ∧ c.vs.length ≤ 600 ∧ c.us.length ≤ 8 ∧ c.ds.length ≤ 2100 := by
  unfold far14 at h
  simp only [Bool.or_eq_false_iff, decide_eq_false_iff_not] at h
  omega
theorem far14_us {c : LC} (h : far14 c = false) : ∀ u ∈ c.us, u.d.length ≤ 2100 := by
  have hl := (far14_ns h).2.2.1
  unfold far14 at h
  rw [Bool.or_eq_false_iff] at h
  intro u hu
  have := List.any_eq_false.1 h.1 u (by rw [List.take_of_length_le (by omega)]; exact hu)
  unfold farU at this
  simp at this
  exact this
set_option maxRecDepth 100000 in
set_option maxHeartbeats 4000000 in
theorem Far_any (w : World) (kd fr to ch ep ba nu se dn ve sl ke co ck cc ce cn gc ge gj : Int) (gf : Bool) (ga va ua dda : Option Addr) (gm gcp vm vcp um ucp dm dcp : Nat) (x : LV) (c : LC) (H : Nat → Prop) (hx : x = ⟨kd, fr, to, ch, ep, ba, nu, se, dn, ve, sl, ke, co, ck, cc, ce, cn, gc, ge, .slice ga gm gcp, gf, gj, .slice va vm vcp, .slice ua um ucp, .slice dda dm dcp⟩) (h : LtM w H x c) :
    Calls Tryz.prog 50 #[.agg #[.int .i64 kd, .int .i64 fr, .int .i64 to, .int .i64 ch, .int .u64 ep, .int .u64 ba, .int .u64 nu, .int .u64 se, .int .u64 dn, .int .u64 ve, .int .i64 sl, .int .u32 ke, .int .i64 co, .int .i64 ck, .int .i64 cc, .int .u64 ce, .int .i64 cn, .int .i64 gc, .int .u64 ge, .slice ga gm gcp, .bool gf, .int .i64 gj, .slice va vm vcp, .slice ua um ucp, .slice dda dm dcp]] w (YesNoK (far14 c) w) := by
  obtain ⟨hns, hvs, hus, hds, _, _, _, _, _, _⟩ := h
  subst hx
  simp only at hns hvs hus hds
  obtain ⟨ga', gcp', eg, _, hgm, _⟩ := id hns
  obtain ⟨va', vcp', ev⟩ := hvs.form
  obtain ⟨ua', ucp', eu⟩ := hus.form
  obtain ⟨da', dcp', ed, hdc, hdm, _⟩ := id hds
  injection eg with eg1 eg2 eg3
  injection ev with ev1 ev2 ev3
  injection eu with eu1 eu2 eu3
  injection ed with ed1 ed2 ed3
  subst eg1 eg2 eg3 ev1 ev2 ev3 eu1 eu2 eu3 ed1 ed2 ed3
  have hvl : (c.vs.length : Int) ≤ 9223372036854775807 := by have := hvs.len; omega
  have hul : (c.us.length : Int) ≤ 9223372036854775807 := by have := hus.len; unfold maxLen at this; omega
  unfold maxLen at hgm hdm
  have hgl : (c.ns.length : Int) ≤ 9223372036854775807 := by omega
  have hdl : (c.ds.length : Int) ≤ 9223372036854775807 := by omega
  obtain ⟨fb, hfb⟩ : ∃ fb, fb = far14 c := ⟨_, rfl⟩
  have HFB := Lib.hid hfb
  rw [← hfb]
  obtain ⟨W, hW⟩ : ∃ W, W = w.alloc (.cells #[.int .i64 kd, .int .i64 fr, .int .i64 to, .int .i64 ch, .int .u64 ep, .int .u64 ba, .int .u64 nu, .int .u64 se, .int .u64 dn, .int .u64 ve, .int .i64 sl, .int .u32 ke, .int .i64 co, .int .i64 ck, .int .i64 cc, .int .u64 ce, .int .i64 cn, .int .i64 gc, .int .u64 ge, .slice ga c.ns.length gcp, .bool gf, .int .i64 gj, .slice va c.vs.length vcp, .slice ua c.us.length ucp, .slice dda c.ds.length dcp] 34 (0, 0)) := ⟨_, rfl⟩
  have hkk : Kept NoB w W := by rw [hW]; exact (Kept.refl NoB w).alloc _
  have h1 : W.heap[w.heap.size]? = some (.cells #[.int .i64 kd, .int .i64 fr, .int .i64 to, .int .i64 ch, .int .u64 ep, .int .u64 ba, .int .u64 nu, .int .u64 se, .int .u64 dn, .int .u64 ve, .int .i64 sl, .int .u32 ke, .int .i64 co, .int .i64 ck, .int .i64 cc, .int .u64 ce, .int .i64 cn, .int .i64 gc, .int .u64 ge, .slice ga c.ns.length gcp, .bool gf, .int .i64 gj, .slice va c.vs.length vcp, .slice ua c.us.length ucp, .slice dda c.ds.length dcp] 34 (0, 0)) := by rw [hW]; exact heap_alloc_new w _
  have HTEN : Hid (∀ w', Kept NoB W w' → w'.cell? ⟨w.heap.size, 19, none⟩ = some (.slice ga c.ns.length gcp) ∧ w'.cell? ⟨w.heap.size, 22, none⟩ = some (.slice va c.vs.length vcp) ∧ w'.cell? ⟨w.heap.size, 23, none⟩ = some (.slice ua c.us.length ucp) ∧ w'.cell? ⟨w.heap.size, 24, none⟩ = some (.slice dda c.ds.length dcp)) := Lib.hid (fun w' hk => ⟨cell_of_row _ _ 19 _ _ _ (hk.heap (fun h => h) h1), cell_of_row _ _ 22 _ _ _ (hk.heap (fun h => h) h1), cell_of_row _ _ 23 _ _ _ (hk.heap (fun h => h) h1), cell_of_row _ _ 24 _ _ _ (hk.heap (fun h => h) h1)⟩)
  have HK := Lib.hid hkk
  have HW := Lib.hid hW
  have HU := Lib.hid (hus.no hkk)
  clear h1 hW hkk hns hvs hus hds hfb hgm hdc hdm
  go_enter Tryz.func50, Tryz.ntmps50
  go_wp2_with fail
  try rw [← HW.out]
  go_wp2
  go_loopw [3] (fun i wr => ∃ k : Nat, i = .int .i64 k ∧ k ≤ c.us.length ∧ k ≤ 9 ∧ (c.us.take k).any farU = false ∧ Kept NoB W wr) (fun i _ => 9 - (RowKit.intOf i).toNat)
  case atStart => exact ⟨0, rfl, Nat.zero_le _, by omega, rfl, Kept.refl _ _⟩
  case round =>
    obtain ⟨k, rfl, hk, hk9, hno, hkr⟩ := hrel
    have HNO := Lib.hid hno
    have HKR := Lib.hid hkr
    obtain ⟨c19, c22, c23, c24⟩ := HTEN.out wr hkr
    have hk0 : (0 : Int) ≤ (k : Int) := by omega
    clear hno hkr
    by_cases hlt : k < c.us.length
    · by_cases h9 : k < 9
      · obtain ⟨b, o, rfl, _, hb, u, e0, e1, e2, e3, e4, e5, e6, hdd⟩ := (HU.out.no HKR.out).at_ hlt
        have HSS := Lib.hid (takeU hlt)
        obtain ⟨y, hy⟩ : ∃ y, y = nthU c.us k := ⟨_, rfl⟩
        rw [← hy] at hdd HSS
        have HY : Hid (y ∈ c.us.take 9) := Lib.hid (by rw [hy, nthU_at hlt]; exact List.mem_take_iff_getElem.2 ⟨k, by omega, rfl⟩)
        obtain ⟨dq, dqc, rfl, _⟩ := hdd
        have hk1 : (k : Int) < (c.us.length : Int) := by omega
        have hk2 : (k : Int) < 9 := by omega
        obtain ⟨m, hm⟩ : ∃ m, m = y.d.length := ⟨_, rfl⟩
        rw [← hm] at e6
        have HM := Lib.hid hm
        clear hy hm e0 e1 e2 e3 e4 e5 hb
        by_cases hf : 2100 < m
        · have g : decide ((m : Int) > 2100) = true := decide_eq_true (by omega)
          have g' : decide ((2100 : Int) < (m : Int)) = true := decide_eq_true (by omega)
          have HR : Hid (fb = true) := Lib.hid (by rw [HFB.out]; unfold far14; rw [List.any_eq_true.2 ⟨y, HY.out, by unfold farU; rw [← HM.out]; exact decide_eq_true hf⟩]; rfl)
          clear hf
          go_wp2
          go_ret
          exact ⟨by rw [HR.out]; rfl, HK.out.trans HKR.out (fun _ _ h => h)⟩
        · have g : decide ((m : Int) > 2100) = false := decide_eq_false (by omega)
          have g' : decide ((2100 : Int) < (m : Int)) = false := decide_eq_false (by omega)
          have HN2 : Hid ((c.us.take (k + 1)).any farU = false) := Lib.hid (by rw [HSS.out, List.any_append, HNO.out]; simp [farU, ← HM.out]; omega)
          clear hf
          go_wp2
          exact ⟨⟨k + 1, by go_num, by omega, by omega, HN2.out, HKR.out⟩, by simp [RowKit.intOf]; omega⟩
      · have hk1 : (k : Int) < (c.us.length : Int) := by omega
        have hk2 : ¬ (k : Int) < 9 := by omega
        have hl8 : (c.us.length : Int) > 8 := by omega
        have g8 : decide ((c.us.length : Int) > 8) = true := decide_eq_true hl8
        have g8' : decide ((8 : Int) < (c.us.length : Int)) = true := decide_eq_true hl8
        have HR : Hid (fb = true) := Lib.hid (by rw [HFB.out]; unfold far14; rw [decide_eq_true (show 8 < c.us.length by omega)]; simp)
        clear hl8
        go_wp2
        go_ret
        exact ⟨by rw [HR.out]; rfl, HK.out.trans HKR.out (fun _ _ h => h)⟩
    · obtain ⟨m, hm⟩ : ∃ m, m = c.us.length := ⟨_, rfl⟩
      have hkm : k = m := by omega
      have HA : Hid ((c.us.take 9).any farU = false ∨ fb = true) := Lib.hid (by
        by_cases h8 : 8 < c.us.length
        · right; rw [HFB.out]; unfold far14; rw [decide_eq_true h8]; simp
        · left; rw [List.take_of_length_le (by omega)]; have h0 := HNO.out; rw [show k = c.us.length by omega, List.take_length] at h0; exact h0)
      obtain ⟨d1, h1⟩ : ∃ d1, d1 = decide (8 < c.us.length) := ⟨_, rfl⟩
      obtain ⟨d2, h2⟩ : ∃ d2, d2 = decide (600 < c.vs.length) := ⟨_, rfl⟩
      obtain ⟨d3, h3⟩ : ∃ d3, d3 = decide (2100 < c.ds.length) := ⟨_, rfl⟩
      obtain ⟨d4, h4⟩ : ∃ d4, d4 = decide (30 < c.ns.length) := ⟨_, rfl⟩
      have HR : Hid (fb = (d1 || (d2 || (d3 || d4)))) := Lib.hid (by
        rcases HA.out with h | h
        · rw [HFB.out]; unfold far14; rw [h, h1, h2, h3, h4]; rfl
        · by_cases h8 : 8 < c.us.length
          · rw [h, h1, decide_eq_true h8]; rfl
          · have h0 := HNO.out
            rw [show k = c.us.length by omega, List.take_length] at h0
            rw [HFB.out]; unfold far14; rw [List.take_of_length_le (by omega), h0, h1, h2, h3, h4]; rfl)
      have q1 : decide ((c.us.length : Int) > 8) = d1 := by rw [h1]; exact decide_eq_decide.2 (by omega)
      have q2 : decide ((c.vs.length : Int) > 600) = d2 := by rw [h2]; exact decide_eq_decide.2 (by omega)
      have q3 : decide ((c.ds.length : Int) > 2100) = d3 := by rw [h3]; exact decide_eq_decide.2 (by omega)
      have q4 : decide ((c.ns.length : Int) > 30) = d4 := by rw [h4]; exact decide_eq_decide.2 (by omega)
      have p1 : decide ((8 : Int) < (c.us.length : Int)) = d1 := q1
      have p2 : decide ((600 : Int) < (c.vs.length : Int)) = d2 := q2
      have p3 : decide ((2100 : Int) < (c.ds.length : Int)) = d3 := q3
      have p4 : decide ((30 : Int) < (c.ns.length : Int)) = d4 := q4
      have hnl : ¬ (k : Int) < (c.us.length : Int) := by omega
      clear h1 h2 h3 h4 hm hkm HA hlt hk
      cases d1 with
      | true =>
        go_wp2
        go_ret
        exact ⟨by rw [HR.out]; rfl, HK.out.trans HKR.out (fun _ _ h => h)⟩
      | false =>
        cases d2 with
        | true =>
          go_wp2
          go_ret
          exact ⟨by rw [HR.out]; rfl, HK.out.trans HKR.out (fun _ _ h => h)⟩
        | false =>
          cases d3 with
          | true =>
            go_wp2
            go_ret
            exact ⟨by rw [HR.out]; rfl, HK.out.trans HKR.out (fun _ _ h => h)⟩
          | false =>
            go_wp2
            go_ret
            exact ⟨by rw [HR.out]; rfl, HK.out.trans HKR.out (fun _ _ h => h)⟩
end Go.Proofs.YtcbenminaakahaaGreatDoor
