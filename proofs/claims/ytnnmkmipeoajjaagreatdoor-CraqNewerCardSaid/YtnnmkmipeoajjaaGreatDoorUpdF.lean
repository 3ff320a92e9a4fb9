/-
  catenaryref10: SameUpdate, SameUpdates.
-/
import Derived.Test.YtnnmkmipeoajjaaGreatDoorUpdC
namespace Go.Proofs.YtnnmkmipeoajjaaGreatDoor
open Go.RowKit
set_option linter.unusedVariables false
set_option linter.unusedSimpArgs false

theorem up_eq (x y : Up) : (x.q = y.q ∧ x.c = y.c ∧ x.n = y.n ∧ x.k = y.k ∧ x.key = y.key ∧ x.r = y.r ∧ x.d = y.d) ↔ x = y := by
  obtain ⟨x0, x1, x2, x3, x4, x5, x6⟩ := x
  obtain ⟨y0, y1, y2, y3, y4, y5, y6⟩ := y
  simp
instance upDec : DecidableEq Up := fun x y => decidable_of_iff _ (up_eq x y)
set_option maxRecDepth 100000 in
set_option maxHeartbeats 1000000 in
theorem RSameUpdate_any (w : World) (v u : Value) (x y : Up) (F G : Nat → Prop) (hv : UpV w F v x) (hu : UpV w G u y) : Calls Tryz.prog 208 #[v, u] w fun e w' => e = .returned (.bool (decide (x = y))) ∧ Kept NoB w w' := by
  obtain ⟨xd, rfl, hb⟩ := hv
  obtain ⟨yd, rfl, hc⟩ := hu
  obtain ⟨x0, x1, x2, x3, x4, x5, x6⟩ := x
  obtain ⟨y0, y1, y2, y3, y4, y5, y6⟩ := y
  simp only at hb hc ⊢
  have HB := Lib.hid hb
  have HC := Lib.hid hc
  obtain ⟨ba, bc, rfl, _⟩ := hb
  obtain ⟨ca, cc, rfl, _⟩ := hc
  have hk := ((Kept.refl NoB w).alloc (.cells #[.int .u64 x0, .int .i64 x1, .int .u64 x2, .int .i64 x3, .int .u32 x4, .int .u64 x5, .slice ba x6.length bc] 62)).alloc (.cells #[.int .u64 y0, .int .i64 y1, .int .u64 y2, .int .i64 y3, .int .u32 y4, .int .u64 y5, .slice ca y6.length cc] 62)
  have HE := Lib.hid (Same_any _ _ x6 y6 F G _ (HB.out.kept hk (fun _ _ h => h)) (HC.out.kept hk (fun _ _ h => h)))
  have HK := Lib.hid hk
  clear hk
  by_cases h0 : x0 = y0
  rotate_left
  · skip
    have e0 : (x0 == y0) = false := by simpa using h0
    have HR : Hid (decide ((⟨x0, x1, x2, x3, x4, x5, x6⟩ : Up) = ⟨y0, y1, y2, y3, y4, y5, y6⟩) = false) := Lib.hid (decide_eq_false (fun h => h0 (by injection h)))
    clear h0
    go_enter Tryz.func208, Tryz.ntmps208
    go_wp2
    go_ret
    exact ⟨by rw [HR.out]; rfl, HK.out⟩
  by_cases h1 : x1 = y1
  rotate_left
  · skip
    have e0 : (x0 == y0) = true := by simpa using h0
    have e1 : (x1 == y1) = false := by simpa using h1
    have HR : Hid (decide ((⟨x0, x1, x2, x3, x4, x5, x6⟩ : Up) = ⟨y0, y1, y2, y3, y4, y5, y6⟩) = false) := Lib.hid (decide_eq_false (fun h => h1 (by injection h)))
    clear h0 h1
    go_enter Tryz.func208, Tryz.ntmps208
    go_wp2
    go_ret
    exact ⟨by rw [HR.out]; rfl, HK.out⟩
  by_cases h2 : x2 = y2
  rotate_left
  · skip
    have e0 : (x0 == y0) = true := by simpa using h0
    have e1 : (x1 == y1) = true := by simpa using h1
    have e2 : (x2 == y2) = false := by simpa using h2
    have HR : Hid (decide ((⟨x0, x1, x2, x3, x4, x5, x6⟩ : Up) = ⟨y0, y1, y2, y3, y4, y5, y6⟩) = false) := Lib.hid (decide_eq_false (fun h => h2 (by injection h)))
    clear h0 h1 h2
    go_enter Tryz.func208, Tryz.ntmps208
    go_wp2
    go_ret
    exact ⟨by rw [HR.out]; rfl, HK.out⟩
  by_cases h3 : x3 = y3
  rotate_left
  · skip
    have e0 : (x0 == y0) = true := by simpa using h0
    have e1 : (x1 == y1) = true := by simpa using h1
    have e2 : (x2 == y2) = true := by simpa using h2
    have e3 : (x3 == y3) = false := by simpa using h3
    have HR : Hid (decide ((⟨x0, x1, x2, x3, x4, x5, x6⟩ : Up) = ⟨y0, y1, y2, y3, y4, y5, y6⟩) = false) := Lib.hid (decide_eq_false (fun h => h3 (by injection h)))
    clear h0 h1 h2 h3
    go_enter Tryz.func208, Tryz.ntmps208
    go_wp2
    go_ret
    exact ⟨by rw [HR.out]; rfl, HK.out⟩
  by_cases h4 : x4 = y4
  rotate_left
  · skip
    have e0 : (x0 == y0) = true := by simpa using h0
    have e1 : (x1 == y1) = true := by simpa using h1
    have e2 : (x2 == y2) = true := by simpa using h2
    have e3 : (x3 == y3) = true := by simpa using h3
    have e4 : (x4 == y4) = false := by simpa using h4
    have HR : Hid (decide ((⟨x0, x1, x2, x3, x4, x5, x6⟩ : Up) = ⟨y0, y1, y2, y3, y4, y5, y6⟩) = false) := Lib.hid (decide_eq_false (fun h => h4 (by injection h)))
    clear h0 h1 h2 h3 h4
    go_enter Tryz.func208, Tryz.ntmps208
    go_wp2
    go_ret
    exact ⟨by rw [HR.out]; rfl, HK.out⟩
  by_cases h5 : x5 = y5
  rotate_left
  · skip
    have e0 : (x0 == y0) = true := by simpa using h0
    have e1 : (x1 == y1) = true := by simpa using h1
    have e2 : (x2 == y2) = true := by simpa using h2
    have e3 : (x3 == y3) = true := by simpa using h3
    have e4 : (x4 == y4) = true := by simpa using h4
    have e5 : (x5 == y5) = false := by simpa using h5
    have HR : Hid (decide ((⟨x0, x1, x2, x3, x4, x5, x6⟩ : Up) = ⟨y0, y1, y2, y3, y4, y5, y6⟩) = false) := Lib.hid (decide_eq_false (fun h => h5 (by injection h)))
    clear h0 h1 h2 h3 h4 h5
    go_enter Tryz.func208, Tryz.ntmps208
    go_wp2
    go_ret
    exact ⟨by rw [HR.out]; rfl, HK.out⟩
  have e0 : (x0 == y0) = true := by simpa using h0
  have e1 : (x1 == y1) = true := by simpa using h1
  have e2 : (x2 == y2) = true := by simpa using h2
  have e3 : (x3 == y3) = true := by simpa using h3
  have e4 : (x4 == y4) = true := by simpa using h4
  have e5 : (x5 == y5) = true := by simpa using h5
  have HR : Hid (decide ((⟨x0, x1, x2, x3, x4, x5, x6⟩ : Up) = ⟨y0, y1, y2, y3, y4, y5, y6⟩) = decide (x6 = y6)) := Lib.hid (by rw [h0, h1, h2, h3, h4, h5]; simp)
  clear h0 h1 h2 h3 h4 h5
  go_enter Tryz.func208, Tryz.ntmps208
  go_wp2_with fail
  refine HE.out.mono ?_
  rintro e w1 ⟨rfl, hk1⟩
  have HK1 := Lib.hid (HK.out.trans hk1 (fun _ _ h => h)); clear hk1
  go_wp2
  go_ret
  exact ⟨by rw [HR.out]; rfl, HK1.out⟩
set_option maxRecDepth 100000 in
set_option maxHeartbeats 2000000 in
theorem RSameUpdates_any (w : World) (v u : Value) (l m : List Up) (F G : Nat → Prop) (hv : UsAt w F v l) (hu : UsAt w G u m) : Calls Tryz.prog 152 #[v, u] w fun e w' => e = .returned (.bool (decide (l = m))) ∧ Kept NoB w w' := by
  obtain ⟨a, c, rfl⟩ := hv.form
  obtain ⟨a2, c2, rfl⟩ := hu.form
  have hl1 := hv.len
  have hl2 := hu.len
  unfold maxLen at hl1 hl2
  have hm1 : (l.length : Int) ≤ 9223372036854775807 := by omega
  have hm2 : (m.length : Int) ≤ 9223372036854775807 := by omega
  have HV := Lib.hid hv
  have HU := Lib.hid hu
  clear hl1 hl2 hv hu
  by_cases hlen : l.length = m.length
  rotate_left
  · have hne : ((l.length : Int) != (m.length : Int)) = true := by simp; omega
    have HR : Hid (decide (l = m) = false) := Lib.hid (decide_eq_false (fun h => hlen (by rw [h])))
    clear hlen
    go_enter Tryz.func152, Tryz.ntmps152
    go_wp2
    go_ret
    exact ⟨by rw [HR.out]; rfl, Kept.refl _ _⟩
  have hne : ((l.length : Int) != (m.length : Int)) = false := by simp [hlen]
  have HL := Lib.hid hlen
  clear hlen
  go_enter Tryz.func152, Tryz.ntmps152
  go_wp2
  go_loopw [5] (fun i wr => ∃ k : Nat, k ≤ l.length ∧ i = .int .i64 k ∧ l.take k = m.take k ∧ Kept NoB w wr) (fun i _ => l.length - (RowKit.intOf i).toNat)
  case atStart => exact ⟨0, Nat.zero_le _, rfl, rfl, Kept.refl _ _⟩
  case round =>
    obtain ⟨k, hk, rfl, heq, hK⟩ := hrel
    have HE := Lib.hid heq
    have HK := Lib.hid hK
    have hk0 : (0 : Int) ≤ (k : Int) := by omega
    clear heq hK
    by_cases hlt : k < l.length
    · have hlt2 : k < m.length := by have := HL.out; omega
      have hk1 : (k : Int) < (l.length : Int) := by omega
      have hk2 : (k : Int) < (m.length : Int) := by omega
      have HT1 := Lib.hid (takeU hlt)
      have HT2 := Lib.hid (takeU hlt2)
      obtain ⟨b1, o1, rfl, _, _, u1, a0, a1, a2, a3, a4, a5, a6, ad⟩ := (HV.out.no HK.out).at_ hlt
      obtain ⟨b2, o2, rfl, _, _, u2, d0, d1, d2, d3, d4, d5, d6, dd⟩ := (HU.out.no HK.out).at_ hlt2
      have HN1 := Lib.hid (nthU_at hlt)
      have HN2 := Lib.hid (nthU_at hlt2)
      obtain ⟨⟨x0, x1, x2, x3, x4, x5, x6⟩, hx⟩ : ∃ x, x = nthU l k := ⟨_, rfl⟩
      obtain ⟨⟨y0, y1, y2, y3, y4, y5, y6⟩, hy⟩ : ∃ y, y = nthU m k := ⟨_, rfl⟩
      rw [← hx] at a0 a1 a2 a3 a4 a5 ad HT1 HN1
      rw [← hy] at d0 d1 d2 d3 d4 d5 dd HT2 HN2
      simp only at a0 a1 a2 a3 a4 a5 ad d0 d1 d2 d3 d4 d5 dd
      have HAD := Lib.hid ad
      have HDD := Lib.hid dd
      obtain ⟨pa, pc, rfl, _⟩ := ad
      obtain ⟨qa, qc, rfl, _⟩ := dd
      have HS := Lib.hid (fun w' (hk : Kept NoB wr w') => RSameUpdate_any w' (.agg #[.int .u64 x0, .int .i64 x1, .int .u64 x2, .int .i64 x3, .int .u32 x4, .int .u64 x5, .slice pa x6.length pc]) (.agg #[.int .u64 y0, .int .i64 y1, .int .u64 y2, .int .i64 y3, .int .u32 y4, .int .u64 y5, .slice qa y6.length qc]) ⟨x0, x1, x2, x3, x4, x5, x6⟩ ⟨y0, y1, y2, y3, y4, y5, y6⟩ F G ⟨_, rfl, HAD.out.kept hk (fun _ _ h => h)⟩ ⟨_, rfl, HDD.out.kept hk (fun _ _ h => h)⟩)
      have HTEN : Hid (∀ w', Kept NoB wr w' → w'.cell? ⟨b1, o1 + k * 7, none⟩ = some (.int .u64 x0) ∧ w'.cell? ⟨b1, o1 + k * 7 + 1, none⟩ = some (.int .i64 x1) ∧ w'.cell? ⟨b1, o1 + k * 7 + 2, none⟩ = some (.int .u64 x2) ∧ w'.cell? ⟨b1, o1 + k * 7 + 3, none⟩ = some (.int .i64 x3) ∧ w'.cell? ⟨b1, o1 + k * 7 + 4, none⟩ = some (.int .u32 x4) ∧ w'.cell? ⟨b1, o1 + k * 7 + 5, none⟩ = some (.int .u64 x5) ∧ w'.cell? ⟨b1, o1 + k * 7 + 6, none⟩ = some (.slice pa x6.length pc) ∧ w'.cell? ⟨b2, o2 + k * 7, none⟩ = some (.int .u64 y0) ∧ w'.cell? ⟨b2, o2 + k * 7 + 1, none⟩ = some (.int .i64 y1) ∧ w'.cell? ⟨b2, o2 + k * 7 + 2, none⟩ = some (.int .u64 y2) ∧ w'.cell? ⟨b2, o2 + k * 7 + 3, none⟩ = some (.int .i64 y3) ∧ w'.cell? ⟨b2, o2 + k * 7 + 4, none⟩ = some (.int .u32 y4) ∧ w'.cell? ⟨b2, o2 + k * 7 + 5, none⟩ = some (.int .u64 y5) ∧ w'.cell? ⟨b2, o2 + k * 7 + 6, none⟩ = some (.slice qa y6.length qc)) := Lib.hid (fun w' hk => ⟨hk.cell (p := ⟨b1, o1 + k * 7, none⟩) (fun h => h) a0, hk.cell (p := ⟨b1, o1 + k * 7 + 1, none⟩) (fun h => h) a1, hk.cell (p := ⟨b1, o1 + k * 7 + 2, none⟩) (fun h => h) a2, hk.cell (p := ⟨b1, o1 + k * 7 + 3, none⟩) (fun h => h) a3, hk.cell (p := ⟨b1, o1 + k * 7 + 4, none⟩) (fun h => h) a4, hk.cell (p := ⟨b1, o1 + k * 7 + 5, none⟩) (fun h => h) a5, hk.cell (p := ⟨b1, o1 + k * 7 + 6, none⟩) (fun h => h) a6, hk.cell (p := ⟨b2, o2 + k * 7, none⟩) (fun h => h) d0, hk.cell (p := ⟨b2, o2 + k * 7 + 1, none⟩) (fun h => h) d1, hk.cell (p := ⟨b2, o2 + k * 7 + 2, none⟩) (fun h => h) d2, hk.cell (p := ⟨b2, o2 + k * 7 + 3, none⟩) (fun h => h) d3, hk.cell (p := ⟨b2, o2 + k * 7 + 4, none⟩) (fun h => h) d4, hk.cell (p := ⟨b2, o2 + k * 7 + 5, none⟩) (fun h => h) d5, hk.cell (p := ⟨b2, o2 + k * 7 + 6, none⟩) (fun h => h) d6⟩)
      clear hx hy a0 a1 a2 a3 a4 a5 a6 d0 d1 d2 d3 d4 d5 d6
      obtain ⟨bb, hbb⟩ : ∃ b, b = decide ((⟨x0, x1, x2, x3, x4, x5, x6⟩ : Up) = ⟨y0, y1, y2, y3, y4, y5, y6⟩) := ⟨_, rfl⟩
      have HBB := Lib.hid hbb
      rw [← hbb] at HS
      clear hbb
      go_wp2_with fail
      have HKe := Lib.hid (Kept.refl NoB wr).drew
      have HT := Lib.hid (HTEN.out _ HKe.out)
      go_region_held3 (fun w' => w'.cell? ⟨b1, o1 + k * 7, none⟩ = some (.int .u64 x0) ∧ w'.cell? ⟨b1, o1 + k * 7 + 1, none⟩ = some (.int .i64 x1) ∧ w'.cell? ⟨b1, o1 + k * 7 + 2, none⟩ = some (.int .u64 x2) ∧ w'.cell? ⟨b1, o1 + k * 7 + 3, none⟩ = some (.int .i64 x3) ∧ w'.cell? ⟨b1, o1 + k * 7 + 4, none⟩ = some (.int .u32 x4) ∧ w'.cell? ⟨b1, o1 + k * 7 + 5, none⟩ = some (.int .u64 x5) ∧ w'.cell? ⟨b1, o1 + k * 7 + 6, none⟩ = some (.slice pa x6.length pc) ∧ w'.cell? ⟨b2, o2 + k * 7, none⟩ = some (.int .u64 y0) ∧ w'.cell? ⟨b2, o2 + k * 7 + 1, none⟩ = some (.int .i64 y1) ∧ w'.cell? ⟨b2, o2 + k * 7 + 2, none⟩ = some (.int .u64 y2) ∧ w'.cell? ⟨b2, o2 + k * 7 + 3, none⟩ = some (.int .i64 y3) ∧ w'.cell? ⟨b2, o2 + k * 7 + 4, none⟩ = some (.int .u32 y4) ∧ w'.cell? ⟨b2, o2 + k * 7 + 5, none⟩ = some (.int .u64 y5) ∧ w'.cell? ⟨b2, o2 + k * 7 + 6, none⟩ = some (.slice qa y6.length qc)) (with_reducible exact HT.out) ((go_at_call 208; (with_reducible refine (HS.out _ HKe.out).mono ?_); rintro e w1 ⟨rfl, hk1⟩; replace HKe := Lib.hid (HKe.out.trans hk1 (fun _ _ h => h)); replace HT := Lib.hid (HTEN.out _ HKe.out); clear hk1))
      cases bb with
      | false =>
        go_wp2
        go_ret
        have hno : decide (l = m) = false := decide_eq_false (fun h => by
          subst h
          have e1 := HN1.out
          have e2 := HN2.out
          exact absurd (e1.trans e2.symm) (of_decide_eq_false HBB.out.symm))
        exact ⟨by rw [hno]; rfl, HK.out.trans HKe.out (fun _ _ h => h)⟩
      | true =>
        go_wp2
        refine ⟨⟨k + 1, by omega, by go_num, ?_, HK.out.trans HKe.out (fun _ _ h => h)⟩, by simp [RowKit.intOf]; omega⟩
        rw [HT1.out, HT2.out, HE.out, of_decide_eq_true HBB.out.symm]
    · go_wp2
      go_ret
      have e1 : l.take k = l := List.take_of_length_le (by omega)
      have e2 : m.take k = m := List.take_of_length_le (by have := HL.out; omega)
      have hyes : decide (l = m) = true := decide_eq_true (by rw [← e1, HE.out, e2])
      exact ⟨by rw [hyes]; rfl, HK.out⟩
end Go.Proofs.YtnnmkmipeoajjaaGreatDoor
