/-
  The walk of AcceptRises.
-/
import Derived.Test.YtbockiohaomkmaaAccP
namespace Go.Proofs.Ytbockiohaomkmaa
open Go.RowKit
set_option linter.unusedVariables false

/-- No vote is above what was promised. -/
def Lim (p : Int) (L : List Vt) : Prop := ∀ v ∈ L, v.b ≤ p
/-- What P11.4 asks of one call. -/
structure Rise (p : Int) (L : List Vt) (p' : Int) (L' : List Vt) : Prop where
  up : p ≤ p'
  lim : Lim p' L'
  at_ : ∀ v ∈ L, atV L' v.s = some v ∨ ∃ v', atV L' v.s = some v' ∧ v'.s = v.s ∧ v.b ≤ v'.b ∧ p ≤ v'.b ∧ v'.b ≤ p'
theorem Rise.two {p p' : Int} {L L' : List Vt} (h : Rise p L p' L') (v : Vt) (hv : v ∈ L) : atV L' v.s = some v ∨ ∃ v', atV L' v.s = some v' ∧ v'.s = v.s ∧ v.b ≤ v'.b ∧ p ≤ v'.b ∧ v'.b ≤ p' ∧ (v'.b ≠ v.b ∨ (v'.b = v.b ∧ v'.k ≠ v.k) ∨ (v'.b = v.b ∧ v'.k = v.k ∧ v'.ch ≠ v.ch) ∨ (v'.b = v.b ∧ v'.k = v.k ∧ v'.ch = v.ch ∧ v'.ep ≠ v.ep) ∨ (v'.b = v.b ∧ v'.k = v.k ∧ v'.ch = v.ch ∧ v'.ep = v.ep ∧ v'.nd ≠ v.nd)) := by
  rcases h.at_ v hv with h1 | ⟨v', h1, h2, h3, h4, h5⟩
  · exact .inl h1
  · by_cases e : v'.b = v.b ∧ v'.k = v.k ∧ v'.ch = v.ch ∧ v'.ep = v.ep ∧ v'.nd = v.nd
    · obtain ⟨e1, e2, e3, e4, e5⟩ := e
      obtain ⟨x0, x1, x2, x3, x4, x5⟩ := v
      obtain ⟨u0, u1, u2, u3, u4, u5⟩ := v'
      simp only at h1 h2 e1 e2 e3 e4 e5
      subst h2 e1 e2 e3 e4 e5
      exact .inl h1
    · exact .inr ⟨v', h1, h2, h3, h4, h5, by omega⟩
theorem canX_up {p b : Int} (h : canX p b = 0) : p ≤ b := by
  unfold canX at h
  split at h
  · cases h
  · split at h
    · cases h
    · omega
theorem rise_prep {p : Int} {L : List Vt} (b f : Int) (hs : Srt L) (hl : Lim p L) : Rise p L (prepP p b f) L := by
  have hp : p ≤ prepP p b f := by
    unfold prepP
    split
    · rename_i h
      unfold prepX at h
      split at h
      · cases h
      · exact canX_up h
    · omega
  exact ⟨hp, fun v hv => by have := hl v hv; omega, fun v hv => .inl (atV_mem hs hv)⟩
theorem rise_acc {p : Int} {L : List Vt} (b s x : Int) (v : Vt) (hvs : v.s = s) (hvb : v.b = b) (hs : Srt L) (hl : Lim p L) : Rise p L (accP p b s x) (accL p b s x L v) := by
  unfold accP accL
  by_cases h : accX p b s x = 0
  · rw [if_pos h, if_pos h]
    have hp : p ≤ b := by
      unfold accX at h
      split at h
      · cases h
      · split at h
        · rename_i hx; exact absurd h hx
        · exact canX_up h
    refine ⟨hp, fun y hy => ?_, fun y hy => ?_⟩
    · rcases putV_mem hy with rfl | hy
      · omega
      · have := hl y hy; omega
    · by_cases e : y.s = v.s
      · rw [e, atV_put_same]
        exact .inr ⟨v, rfl, rfl, by have := hl y hy; omega, by omega, by omega⟩
      · rw [atV_put_other v e]
        exact .inl (atV_mem hs hy)
  · rw [if_neg h, if_neg h]
    exact ⟨Int.le_refl _, hl, fun y hy => .inl (atV_mem hs hy)⟩
/-- What stands behind j calls. -/
def ArRel (w : World) (n : Nat) (iv : Value) (wr : World) : Prop :=
  ∃ (j : Nat) (p : Int) (L : List Vt), j ≤ n ∧ j ≤ 60 ∧ iv = .int .i64 j ∧ AccAt wr (w.heap.size + 1) w.heap.size p L ∧ Lim p L ∧ Kept NoB w wr
/-- What stands behind k old votes. -/
def AiRel (w3 : World) (n : Nat) (kv : Value) (wr : World) : Prop := ∃ k : Nat, k ≤ n ∧ kv = .int .i64 k ∧ Kept NoB w3 wr
set_option maxRecDepth 100000 in
set_option maxHeartbeats 2000000 in
theorem AcceptRises_any (v : Value) (n : Nat) (it : Nat → OpV) (w : World) (hv : OpsAt w v n it) : Calls Try.prog 4 #[v] w fun e w' => e = .returned (.bool true) ∧ Kept NoB w w' := by
  obtain ⟨va, vc, rfl, hn63, hit⟩ := hv
  have HIT := Lib.hid hit
  have hnn : (n : Int) ≤ 9223372036854775807 := by omega
  clear hit hn63
  go_enter Try.func4, Try.ntmps4
  go_wp2_with fail
  refine (ANew_any w).mono ?_
  rintro e w1 ⟨rfl, ha, hk⟩
  have HA0 := Lib.hid ha
  have HK0 := Lib.hid hk
  clear ha hk
  go_wp2_with fail
  go_loopw [4] (ArRel w n) (fun i _ => 60 - (RowKit.intOf i).toNat)
  case atStart => exact ⟨0, 0, [], Nat.zero_le _, Nat.zero_le _, rfl, HA0.out, (fun v hv => by cases hv), HK0.out⟩
  case round =>
    obtain ⟨j, p, L, hj, hj60, rfl, hA, hL, hK⟩ := hrel
    have HA := Lib.hid hA
    have HL := Lib.hid hL
    have HK := Lib.hid hK
    have HSR := Lib.hid hA.map.1
    have HOK := Lib.hid hA.ok
    have hsz := hK.size
    have hp0 := hA.p0
    clear hA hL hK
    by_cases hlt : j < n ∧ j < 60
    · obtain ⟨hjn, hj7⟩ := hlt
      obtain ⟨b, o, rfl, hb, hcs⟩ := HIT.out (by omega)
      have hcj := hcs j hjn
      obtain ⟨q, hq⟩ : ∃ q, q = it j := ⟨_, rfl⟩
      rw [← hq] at hcj
      clear hq hcs
      obtain ⟨kd, qb, qs, qk, qch, qep, qnd⟩ := q
      have hfit := hcj.2.2.2.2.2.2.2
      have HCS := Lib.hid hcj
      clear hcj
      have hj0 : (0 : Int) ≤ (j : Int) := by omega
      have hj1 : (j : Int) < (n : Int) := by omega
      have hj2 : (j : Int) < 60 := by omega
      obtain ⟨hb0, hb1, hs0, hs1, he0, he1⟩ := hfit
      simp only at hb0 hb1 hs0 hs1 he0 he1
      have HP := Lib.hid (APromised_any wr _ _ p L HA.out)
      have HV := Lib.hid (AVotes_any wr _ _ p 0 L HA.out (by omega))
      rw [fromV_all (fun v hv => (HOK.out v hv).1)] at HV
      go_wp2_with (go_at_call 11; refine HP.out.mono ?_; rintro e w' ⟨rfl, rfl⟩)
      refine HV.out.mono ?_
      rintro e w2 ⟨vo, rfl, hvo, hk⟩
      have HA2 := Lib.hid (HA.out.no hk)
      have HK2 := Lib.hid (HK.out.trans hk (fun _ _ h => h))
      have hsz2 := hk.size
      obtain ⟨oa, oc, rfl⟩ := hvo.form
      have HO2 := Lib.hid hvo
      clear hk hvo
      obtain ⟨e0, e1, e2, e3, e4, e5, e6, _⟩ := HCS.out
      try simp only at e0 e1 e2 e3 e4 e5 e6
      have f0 := HK2.out.cell (p := ⟨b, o + j * 7, none⟩) (fun h => h) e0
      have f1 := HK2.out.cell (p := ⟨b, o + j * 7 + 1, none⟩) (fun h => h) e1
      have f2 := HK2.out.cell (p := ⟨b, o + j * 7 + 2, none⟩) (fun h => h) e2
      have f3 := HK2.out.cell (p := ⟨b, o + j * 7 + 3, none⟩) (fun h => h) e3
      have f4 := HK2.out.cell (p := ⟨b, o + j * 7 + 4, none⟩) (fun h => h) e4
      have f5 := HK2.out.cell (p := ⟨b, o + j * 7 + 5, none⟩) (fun h => h) e5
      have f6 := HK2.out.cell (p := ⟨b, o + j * 7 + 6, none⟩) (fun h => h) e6
      clear e0 e1 e2 e3 e4 e5 e6
      by_cases hkd : kd = 0
      · subst hkd
        go_wp2_with fail
        have HNB : Hid (¬ AB (w.heap.size + 1) w.heap.size b) := Lib.hid (by rintro (h | h) <;> omega)
        have HRI := Lib.hid (rise_prep qb qs HSR.out HL.out)
        have HRI2 := True.intro
        go_region_held3 (fun w' => w'.cell? ⟨b, o + j * 7 + 1, none⟩ = some (.int .u64 qb) ∧ w'.cell? ⟨b, o + j * 7 + 2, none⟩ = some (.int .i64 qs))
          (first
            | exact ⟨cell_drew f1, cell_drew f2⟩
            | exact ⟨HKQ.out.cell (p := ⟨b, o + j * 7 + 1, none⟩) HNB.out f1, HKQ.out.cell (p := ⟨b, o + j * 7 + 2, none⟩) HNB.out f2⟩
            | go_keep)
          ((go_at_call 17; refine (APrep_any _ (w.heap.size + 1) w.heap.size p qb qs L HA2.out.drew hb0 hb1 hs1).mono ?_; rintro e w3 ⟨v3, rfl, hv3, ha3, hk3⟩; have HA3 := Lib.hid ha3; have HKQ := Lib.hid ((Kept.refl (AB (w.heap.size + 1) w.heap.size) w2).drew.trans hk3 (fun _ _ h => h)); clear hv3 ha3 hk3))
        all_goals

          obtain ⟨p', L', HRI, HA3⟩ : ∃ p' L', Hid (Rise p L p' L') ∧ Hid (AccAt w3 (w.heap.size + 1) w.heap.size p' L') := ⟨_, _, HRI, HA3⟩
          have hup := HRI.out.up
          have hud : decide (p' < p) = false := decide_eq_false (by omega)
          have HK3 := Lib.hid (HK2.out.trans (T := AB (w.heap.size + 1) w.heap.size) HKQ.out (fun i hi h => by rcases h with h | h <;> omega))
          have HO3 := Lib.hid (HO2.out.kept HKQ.out (fun i hi h => by have := HO2.out.base i hi; have := heap_lt HA.out.cells; have := HA.out.map.lt; rcases h with h | h <;> omega))
          have HP3 := Lib.hid (APromised_any w3 _ _ p' L' HA3.out)
          clear HRI2 HP HV HKQ HA2 HK2 HO2 HCS hup f0 f1 f2 f3 f4 f5 f6 HNB
          go_wp2_with (go_at_call 11; refine HP3.out.mono ?_; rintro e w' ⟨rfl, rfl⟩)
          go_loopw [7] (AiRel w3 L.length) (fun i _ => L.length - (RowKit.intOf i).toNat)
          case atStart => exact ⟨0, Nat.zero_le _, rfl, Kept.refl _ _⟩
          case round =>
            obtain ⟨m, hm, rfl, hkx⟩ := hrel
            by_cases hml : m < L.length
            · have HKX := Lib.hid hkx
              have hfew := HA.out.few
              obtain ⟨r, c, hvv, hrl, c0, c1, c2, c3, c4, c5⟩ := (HO3.out.no hkx).cells m hml
              injection hvv with hva _ hvc
              subst hva hvc
              have hmem : L[m] ∈ L := List.getElem_mem hml
              have hwf : (Lit.int .i64 L[m].s).wf = true := WalkArith.wf_i64 (by have := HOK.out _ hmem; unfold VtOk at this; omega)
              have HVO := Lib.hid (AVote_any wr (w.heap.size + 1) w.heap.size p' L[m].s L' (HA3.out.no hkx) hwf)
              have hat := HRI.out.two _ hmem
              have hlim := HL.out _ hmem
              obtain ⟨y, hy⟩ : ∃ y, y = L[m] := ⟨_, rfl⟩
              rw [← hy] at HVO hat hlim c0 c1 c2 c3 c4 c5
              clear hy hwf hkx
              have hm0 : (0 : Int) ≤ (m : Int) := by omega
              have hm1 : (m : Int) < (L.length : Int) := by omega
              obtain ⟨y0, y1, y2, y3, y4, y5⟩ := y
              simp only at HVO c0 c1 c2 c3 c4 c5 hlim hat
              rcases hat with hat | ⟨⟨z0, z1, z2, z3, z4, z5⟩, hat, hz0, hz1, hz2, hz3, hdf⟩
              · rw [hat] at HVO
                have HVO : Hid (Calls Try.prog 9 #[.pointer (some ⟨w.heap.size + 1, 0, none⟩), .int .i64 y0] wr fun e w' => e = .returned (.tuple #[.agg #[.int .i64 y0, .int .u64 y1, .int .i64 y2, .int .i64 y3, .int .u64 y4, .int .i64 y5], .bool true]) ∧ Kept NoB wr w') := HVO
                have HRC : Hid (wr.cell? ⟨r, m * 6, none⟩ = some (.int .i64 y0) ∧ wr.cell? ⟨r, m * 6 + 1, none⟩ = some (.int .u64 y1) ∧ wr.cell? ⟨r, m * 6 + 2, none⟩ = some (.int .i64 y2) ∧ wr.cell? ⟨r, m * 6 + 3, none⟩ = some (.int .i64 y3) ∧ wr.cell? ⟨r, m * 6 + 4, none⟩ = some (.int .u64 y4) ∧ wr.cell? ⟨r, m * 6 + 5, none⟩ = some (.int .i64 y5)) := Lib.hid ⟨c0, c1, c2, c3, c4, c5⟩
                clear hat
                go_wp2_with fail
                refine HVO.out.mono ?_
                rintro e w5 ⟨rfl, hk⟩
                have HK5 := Lib.hid (HKX.out.trans hk (fun _ _ h => h))
                clear c0 c1 c2 c3 c4 c5
                obtain ⟨c0, c1, c2, c3, c4, c5⟩ := HRC.out
                have d0 := cell_alloc (hk.cell (p := ⟨r, m * 6, none⟩) (fun h => h) c0) (.cells #[.int .i64 y0, .int .u64 y1, .int .i64 y2, .int .i64 y3, .int .u64 y4, .int .i64 y5] 36)
                have d1 := cell_alloc (hk.cell (p := ⟨r, m * 6 + 1, none⟩) (fun h => h) c1) (.cells #[.int .i64 y0, .int .u64 y1, .int .i64 y2, .int .i64 y3, .int .u64 y4, .int .i64 y5] 36)
                have d2 := cell_alloc (hk.cell (p := ⟨r, m * 6 + 2, none⟩) (fun h => h) c2) (.cells #[.int .i64 y0, .int .u64 y1, .int .i64 y2, .int .i64 y3, .int .u64 y4, .int .i64 y5] 36)
                have d3 := cell_alloc (hk.cell (p := ⟨r, m * 6 + 3, none⟩) (fun h => h) c3) (.cells #[.int .i64 y0, .int .u64 y1, .int .i64 y2, .int .i64 y3, .int .u64 y4, .int .i64 y5] 36)
                have d4 := cell_alloc (hk.cell (p := ⟨r, m * 6 + 4, none⟩) (fun h => h) c4) (.cells #[.int .i64 y0, .int .u64 y1, .int .i64 y2, .int .i64 y3, .int .u64 y4, .int .i64 y5] 36)
                have d5 := cell_alloc (hk.cell (p := ⟨r, m * 6 + 5, none⟩) (fun h => h) c5) (.cells #[.int .i64 y0, .int .u64 y1, .int .i64 y2, .int .i64 y3, .int .u64 y4, .int .i64 y5] 36)
                have hz := heap_alloc_new w5 (.cells #[.int .i64 y0, .int .u64 y1, .int .i64 y2, .int .i64 y3, .int .u64 y4, .int .i64 y5] 36)
                obtain ⟨g0, g1, g2, g3, g4, g5⟩ := cells6 (v := ⟨y0, y1, y2, y3, y4, y5⟩) hz
                have HK6 := Lib.hid (HK5.out.alloc (.cells #[.int .i64 y0, .int .u64 y1, .int .i64 y2, .int .i64 y3, .int .u64 y4, .int .i64 y5] 36))
                clear hk hz c0 c1 c2 c3 c4 c5
                go_wp2_with fail
                generalize hW : World.alloc _ _ = w6 at d0 d1 d2 d3 d4 d5 g0 g1 g2 g3 g4 g5 HK6 ⊢
                clear hW
                go_region
                all_goals
                  go_wp2
                  exact ⟨⟨m + 1, by omega, by go_num, HK6.out.drew⟩, by simp [RowKit.intOf]; omega⟩
              · rw [hat] at HVO
                have hz0 : z0 = y0 := hz0
                subst hz0
                have hz1 : y1 ≤ z1 := hz1
                have hz2 : p ≤ z1 := hz2
                have hz3 : z1 ≤ p' := hz3
                have hdf : z1 ≠ y1 ∨ (z1 = y1 ∧ z2 ≠ y2) ∨ (z1 = y1 ∧ z2 = y2 ∧ z3 ≠ y3) ∨ (z1 = y1 ∧ z2 = y2 ∧ z3 = y3 ∧ z4 ≠ y4) ∨ (z1 = y1 ∧ z2 = y2 ∧ z3 = y3 ∧ z4 = y4 ∧ z5 ≠ y5) := hdf
                have HVO : Hid (Calls Try.prog 9 #[.pointer (some ⟨w.heap.size + 1, 0, none⟩), .int .i64 z0] wr fun e w' => e = .returned (.tuple #[.agg #[.int .i64 z0, .int .u64 z1, .int .i64 z2, .int .i64 z3, .int .u64 z4, .int .i64 z5], .bool true]) ∧ Kept NoB wr w') := HVO
                have HRC : Hid (wr.cell? ⟨r, m * 6, none⟩ = some (.int .i64 z0) ∧ wr.cell? ⟨r, m * 6 + 1, none⟩ = some (.int .u64 y1) ∧ wr.cell? ⟨r, m * 6 + 2, none⟩ = some (.int .i64 y2) ∧ wr.cell? ⟨r, m * 6 + 3, none⟩ = some (.int .i64 y3) ∧ wr.cell? ⟨r, m * 6 + 4, none⟩ = some (.int .u64 y4) ∧ wr.cell? ⟨r, m * 6 + 5, none⟩ = some (.int .i64 y5)) := Lib.hid ⟨c0, c1, c2, c3, c4, c5⟩
                clear hat
                go_wp2_with fail
                refine HVO.out.mono ?_
                rintro e w5 ⟨rfl, hk⟩
                have HK5 := Lib.hid (HKX.out.trans hk (fun _ _ h => h))
                clear c0 c1 c2 c3 c4 c5
                obtain ⟨c0, c1, c2, c3, c4, c5⟩ := HRC.out
                have d0 := cell_alloc (hk.cell (p := ⟨r, m * 6, none⟩) (fun h => h) c0) (.cells #[.int .i64 z0, .int .u64 z1, .int .i64 z2, .int .i64 z3, .int .u64 z4, .int .i64 z5] 36)
                have d1 := cell_alloc (hk.cell (p := ⟨r, m * 6 + 1, none⟩) (fun h => h) c1) (.cells #[.int .i64 z0, .int .u64 z1, .int .i64 z2, .int .i64 z3, .int .u64 z4, .int .i64 z5] 36)
                have d2 := cell_alloc (hk.cell (p := ⟨r, m * 6 + 2, none⟩) (fun h => h) c2) (.cells #[.int .i64 z0, .int .u64 z1, .int .i64 z2, .int .i64 z3, .int .u64 z4, .int .i64 z5] 36)
                have d3 := cell_alloc (hk.cell (p := ⟨r, m * 6 + 3, none⟩) (fun h => h) c3) (.cells #[.int .i64 z0, .int .u64 z1, .int .i64 z2, .int .i64 z3, .int .u64 z4, .int .i64 z5] 36)
                have d4 := cell_alloc (hk.cell (p := ⟨r, m * 6 + 4, none⟩) (fun h => h) c4) (.cells #[.int .i64 z0, .int .u64 z1, .int .i64 z2, .int .i64 z3, .int .u64 z4, .int .i64 z5] 36)
                have d5 := cell_alloc (hk.cell (p := ⟨r, m * 6 + 5, none⟩) (fun h => h) c5) (.cells #[.int .i64 z0, .int .u64 z1, .int .i64 z2, .int .i64 z3, .int .u64 z4, .int .i64 z5] 36)
                have hz := heap_alloc_new w5 (.cells #[.int .i64 z0, .int .u64 z1, .int .i64 z2, .int .i64 z3, .int .u64 z4, .int .i64 z5] 36)
                obtain ⟨g0, g1, g2, g3, g4, g5⟩ := cells6 (v := ⟨z0, z1, z2, z3, z4, z5⟩) hz
                have HK6 := Lib.hid (HK5.out.alloc (.cells #[.int .i64 z0, .int .u64 z1, .int .i64 z2, .int .i64 z3, .int .u64 z4, .int .i64 z5] 36))
                clear hk hz c0 c1 c2 c3 c4 c5
                go_wp2_with fail
                generalize hW : World.alloc _ _ = w6 at d0 d1 d2 d3 d4 d5 g0 g1 g2 g3 g4 g5 HK6 ⊢
                clear hW
                have HZ := Lib.hid (show y1 ≤ z1 ∧ p ≤ z1 ∧ z1 ≤ p' from ⟨hz1, hz2, hz3⟩)
                clear hz1 hz2 hz3
                rcases hdf with hne | ⟨rfl, hne⟩ | ⟨rfl, rfl, hne⟩ | ⟨rfl, rfl, rfl, hne⟩ | ⟨rfl, rfl, rfl, rfl, hne⟩
                · have hnb : (z1 == y1) = false := by simpa using hne
                  clear hne
                  have hd1 : decide (z1 < y1) = false := decide_eq_false (by have := HZ.out; omega)
                  have hd2 : decide (z1 < p) = false := decide_eq_false (by have := HZ.out; omega)
                  have hd3 : decide (p' < z1) = false := decide_eq_false (by have := HZ.out; omega)
                  have HP6 := Lib.hid (APromised_any w6.drew (w.heap.size + 1) w.heap.size p' L' (HA3.out.no HK6.out).drew)
                  go_region_held3 (fun w' => w'.cell? ⟨r, m * 6, none⟩ = some (.int .i64 z0) ∧ w'.cell? ⟨r, m * 6 + 1, none⟩ = some (.int .u64 y1) ∧ w'.cell? ⟨r, m * 6 + 2, none⟩ = some (.int .i64 y2) ∧ w'.cell? ⟨r, m * 6 + 3, none⟩ = some (.int .i64 y3) ∧ w'.cell? ⟨r, m * 6 + 4, none⟩ = some (.int .u64 y4) ∧ w'.cell? ⟨r, m * 6 + 5, none⟩ = some (.int .i64 y5) ∧
                      w'.cell? ⟨w5.heap.size, 0, none⟩ = some (.int .i64 z0) ∧ w'.cell? ⟨w5.heap.size, 1, none⟩ = some (.int .u64 z1) ∧ w'.cell? ⟨w5.heap.size, 2, none⟩ = some (.int .i64 z2) ∧ w'.cell? ⟨w5.heap.size, 3, none⟩ = some (.int .i64 z3) ∧ w'.cell? ⟨w5.heap.size, 4, none⟩ = some (.int .u64 z4) ∧ w'.cell? ⟨w5.heap.size, 5, none⟩ = some (.int .i64 z5))
                    (first
                      | exact ⟨cell_drew d0, cell_drew d1, cell_drew d2, cell_drew d3, cell_drew d4, cell_drew d5, cell_drew g0, cell_drew g1, cell_drew g2, cell_drew g3, cell_drew g4, cell_drew g5⟩
                      | go_keep)
                    ((go_at_call 11; refine HP6.out.mono ?_; rintro e w' ⟨rfl, rfl⟩))
                  all_goals
                    go_wp2
                    exact ⟨⟨m + 1, by omega, by go_num, HK6.out.drew⟩, by simp [RowKit.intOf]; omega⟩
                · have hnb : (z2 == y2) = false := by simpa using hne
                  clear hne
                  have hd1 : decide (z1 < z1) = false := decide_eq_false (by have := HZ.out; omega)
                  have hd2 : decide (z1 < p) = false := decide_eq_false (by have := HZ.out; omega)
                  have hd3 : decide (p' < z1) = false := decide_eq_false (by have := HZ.out; omega)
                  have HP6 := Lib.hid (APromised_any w6.drew (w.heap.size + 1) w.heap.size p' L' (HA3.out.no HK6.out).drew)
                  go_region_held3 (fun w' => w'.cell? ⟨r, m * 6, none⟩ = some (.int .i64 z0) ∧ w'.cell? ⟨r, m * 6 + 1, none⟩ = some (.int .u64 z1) ∧ w'.cell? ⟨r, m * 6 + 2, none⟩ = some (.int .i64 y2) ∧ w'.cell? ⟨r, m * 6 + 3, none⟩ = some (.int .i64 y3) ∧ w'.cell? ⟨r, m * 6 + 4, none⟩ = some (.int .u64 y4) ∧ w'.cell? ⟨r, m * 6 + 5, none⟩ = some (.int .i64 y5) ∧
                      w'.cell? ⟨w5.heap.size, 0, none⟩ = some (.int .i64 z0) ∧ w'.cell? ⟨w5.heap.size, 1, none⟩ = some (.int .u64 z1) ∧ w'.cell? ⟨w5.heap.size, 2, none⟩ = some (.int .i64 z2) ∧ w'.cell? ⟨w5.heap.size, 3, none⟩ = some (.int .i64 z3) ∧ w'.cell? ⟨w5.heap.size, 4, none⟩ = some (.int .u64 z4) ∧ w'.cell? ⟨w5.heap.size, 5, none⟩ = some (.int .i64 z5))
                    (first
                      | exact ⟨cell_drew d0, cell_drew d1, cell_drew d2, cell_drew d3, cell_drew d4, cell_drew d5, cell_drew g0, cell_drew g1, cell_drew g2, cell_drew g3, cell_drew g4, cell_drew g5⟩
                      | go_keep)
                    ((go_at_call 11; refine HP6.out.mono ?_; rintro e w' ⟨rfl, rfl⟩))
                  all_goals
                    go_wp2
                    exact ⟨⟨m + 1, by omega, by go_num, HK6.out.drew⟩, by simp [RowKit.intOf]; omega⟩
                · have hnb : (z3 == y3) = false := by simpa using hne
                  clear hne
                  have hd1 : decide (z1 < z1) = false := decide_eq_false (by have := HZ.out; omega)
                  have hd2 : decide (z1 < p) = false := decide_eq_false (by have := HZ.out; omega)
                  have hd3 : decide (p' < z1) = false := decide_eq_false (by have := HZ.out; omega)
                  have HP6 := Lib.hid (APromised_any w6.drew (w.heap.size + 1) w.heap.size p' L' (HA3.out.no HK6.out).drew)
                  go_region_held3 (fun w' => w'.cell? ⟨r, m * 6, none⟩ = some (.int .i64 z0) ∧ w'.cell? ⟨r, m * 6 + 1, none⟩ = some (.int .u64 z1) ∧ w'.cell? ⟨r, m * 6 + 2, none⟩ = some (.int .i64 z2) ∧ w'.cell? ⟨r, m * 6 + 3, none⟩ = some (.int .i64 y3) ∧ w'.cell? ⟨r, m * 6 + 4, none⟩ = some (.int .u64 y4) ∧ w'.cell? ⟨r, m * 6 + 5, none⟩ = some (.int .i64 y5) ∧
                      w'.cell? ⟨w5.heap.size, 0, none⟩ = some (.int .i64 z0) ∧ w'.cell? ⟨w5.heap.size, 1, none⟩ = some (.int .u64 z1) ∧ w'.cell? ⟨w5.heap.size, 2, none⟩ = some (.int .i64 z2) ∧ w'.cell? ⟨w5.heap.size, 3, none⟩ = some (.int .i64 z3) ∧ w'.cell? ⟨w5.heap.size, 4, none⟩ = some (.int .u64 z4) ∧ w'.cell? ⟨w5.heap.size, 5, none⟩ = some (.int .i64 z5))
                    (first
                      | exact ⟨cell_drew d0, cell_drew d1, cell_drew d2, cell_drew d3, cell_drew d4, cell_drew d5, cell_drew g0, cell_drew g1, cell_drew g2, cell_drew g3, cell_drew g4, cell_drew g5⟩
                      | go_keep)
                    ((go_at_call 11; refine HP6.out.mono ?_; rintro e w' ⟨rfl, rfl⟩))
                  all_goals
                    go_wp2
                    exact ⟨⟨m + 1, by omega, by go_num, HK6.out.drew⟩, by simp [RowKit.intOf]; omega⟩
                · have hnb : (z4 == y4) = false := by simpa using hne
                  clear hne
                  have hd1 : decide (z1 < z1) = false := decide_eq_false (by have := HZ.out; omega)
                  have hd2 : decide (z1 < p) = false := decide_eq_false (by have := HZ.out; omega)
                  have hd3 : decide (p' < z1) = false := decide_eq_false (by have := HZ.out; omega)
                  have HP6 := Lib.hid (APromised_any w6.drew (w.heap.size + 1) w.heap.size p' L' (HA3.out.no HK6.out).drew)
                  go_region_held3 (fun w' => w'.cell? ⟨r, m * 6, none⟩ = some (.int .i64 z0) ∧ w'.cell? ⟨r, m * 6 + 1, none⟩ = some (.int .u64 z1) ∧ w'.cell? ⟨r, m * 6 + 2, none⟩ = some (.int .i64 z2) ∧ w'.cell? ⟨r, m * 6 + 3, none⟩ = some (.int .i64 z3) ∧ w'.cell? ⟨r, m * 6 + 4, none⟩ = some (.int .u64 y4) ∧ w'.cell? ⟨r, m * 6 + 5, none⟩ = some (.int .i64 y5) ∧
                      w'.cell? ⟨w5.heap.size, 0, none⟩ = some (.int .i64 z0) ∧ w'.cell? ⟨w5.heap.size, 1, none⟩ = some (.int .u64 z1) ∧ w'.cell? ⟨w5.heap.size, 2, none⟩ = some (.int .i64 z2) ∧ w'.cell? ⟨w5.heap.size, 3, none⟩ = some (.int .i64 z3) ∧ w'.cell? ⟨w5.heap.size, 4, none⟩ = some (.int .u64 z4) ∧ w'.cell? ⟨w5.heap.size, 5, none⟩ = some (.int .i64 z5))
                    (first
                      | exact ⟨cell_drew d0, cell_drew d1, cell_drew d2, cell_drew d3, cell_drew d4, cell_drew d5, cell_drew g0, cell_drew g1, cell_drew g2, cell_drew g3, cell_drew g4, cell_drew g5⟩
                      | go_keep)
                    ((go_at_call 11; refine HP6.out.mono ?_; rintro e w' ⟨rfl, rfl⟩))
                  all_goals
                    go_wp2
                    exact ⟨⟨m + 1, by omega, by go_num, HK6.out.drew⟩, by simp [RowKit.intOf]; omega⟩
                · have hnb : (z5 == y5) = false := by simpa using hne
                  clear hne
                  have hd1 : decide (z1 < z1) = false := decide_eq_false (by have := HZ.out; omega)
                  have hd2 : decide (z1 < p) = false := decide_eq_false (by have := HZ.out; omega)
                  have hd3 : decide (p' < z1) = false := decide_eq_false (by have := HZ.out; omega)
                  have HP6 := Lib.hid (APromised_any w6.drew (w.heap.size + 1) w.heap.size p' L' (HA3.out.no HK6.out).drew)
                  go_region_held3 (fun w' => w'.cell? ⟨r, m * 6, none⟩ = some (.int .i64 z0) ∧ w'.cell? ⟨r, m * 6 + 1, none⟩ = some (.int .u64 z1) ∧ w'.cell? ⟨r, m * 6 + 2, none⟩ = some (.int .i64 z2) ∧ w'.cell? ⟨r, m * 6 + 3, none⟩ = some (.int .i64 z3) ∧ w'.cell? ⟨r, m * 6 + 4, none⟩ = some (.int .u64 z4) ∧ w'.cell? ⟨r, m * 6 + 5, none⟩ = some (.int .i64 y5) ∧
                      w'.cell? ⟨w5.heap.size, 0, none⟩ = some (.int .i64 z0) ∧ w'.cell? ⟨w5.heap.size, 1, none⟩ = some (.int .u64 z1) ∧ w'.cell? ⟨w5.heap.size, 2, none⟩ = some (.int .i64 z2) ∧ w'.cell? ⟨w5.heap.size, 3, none⟩ = some (.int .i64 z3) ∧ w'.cell? ⟨w5.heap.size, 4, none⟩ = some (.int .u64 z4) ∧ w'.cell? ⟨w5.heap.size, 5, none⟩ = some (.int .i64 z5))
                    (first
                      | exact ⟨cell_drew d0, cell_drew d1, cell_drew d2, cell_drew d3, cell_drew d4, cell_drew d5, cell_drew g0, cell_drew g1, cell_drew g2, cell_drew g3, cell_drew g4, cell_drew g5⟩
                      | go_keep)
                    ((go_at_call 11; refine HP6.out.mono ?_; rintro e w' ⟨rfl, rfl⟩))
                  all_goals
                    go_wp2
                    exact ⟨⟨m + 1, by omega, by go_num, HK6.out.drew⟩, by simp [RowKit.intOf]; omega⟩
            · have hml2 : m = L.length := by omega
              have HK7 := Lib.hid (HK3.out.trans hkx (fun _ _ h => h))
              have HA7 := Lib.hid (HA3.out.no hkx)
              subst hml2
              clear hkx
              go_wp2
              exact ⟨⟨j + 1, p', L', by omega, by omega, by go_num, HA7.out, HRI.out.lim, HK7.out⟩, by simp [RowKit.intOf]; omega⟩
      · have hkx : (kd == 0) = false := by simpa using hkd
        obtain ⟨x, hx⟩ : ∃ x, Chk qk qch qep qnd x := ⟨_, chk_is _ _ _ _⟩
        clear hkd
        go_wp2_with fail
        have HNB : Hid (¬ AB (w.heap.size + 1) w.heap.size b) := Lib.hid (by rintro (h | h) <;> omega)
        have HRI := Lib.hid (rise_acc qb qs x ⟨qs, qb, qk, qch, qep, qnd⟩ rfl rfl HSR.out HL.out)
        have HRI2 := True.intro
        go_region_held3 (fun w' => w'.cell? ⟨b, o + j * 7 + 1, none⟩ = some (.int .u64 qb) ∧ w'.cell? ⟨b, o + j * 7 + 2, none⟩ = some (.int .i64 qs) ∧ w'.cell? ⟨b, o + j * 7 + 3, none⟩ = some (.int .i64 qk) ∧ w'.cell? ⟨b, o + j * 7 + 4, none⟩ = some (.int .i64 qch) ∧ w'.cell? ⟨b, o + j * 7 + 5, none⟩ = some (.int .u64 qep) ∧ w'.cell? ⟨b, o + j * 7 + 6, none⟩ = some (.int .i64 qnd))
          (first
            | exact ⟨cell_drew f1, cell_drew f2, cell_drew f3, cell_drew f4, cell_drew f5, cell_drew f6⟩
            | exact ⟨HKQ.out.cell (p := ⟨b, o + j * 7 + 1, none⟩) HNB.out f1, HKQ.out.cell (p := ⟨b, o + j * 7 + 2, none⟩) HNB.out f2, HKQ.out.cell (p := ⟨b, o + j * 7 + 3, none⟩) HNB.out f3, HKQ.out.cell (p := ⟨b, o + j * 7 + 4, none⟩) HNB.out f4, HKQ.out.cell (p := ⟨b, o + j * 7 + 5, none⟩) HNB.out f5, HKQ.out.cell (p := ⟨b, o + j * 7 + 6, none⟩) HNB.out f6⟩
            | go_keep)
          ((go_at_call 18; refine (AAcc_any _ (w.heap.size + 1) w.heap.size p qb qs qk qch qep qnd x L HA2.out.drew hb0 hb1 he0 he1 hx).mono ?_; rintro e w3 ⟨rfl, ha3, hk3⟩; have HA3 := Lib.hid ha3; have HKQ := Lib.hid ((Kept.refl (AB (w.heap.size + 1) w.heap.size) w2).drew.trans hk3 (fun _ _ h => h)); clear ha3 hk3))
        all_goals

          obtain ⟨p', L', HRI, HA3⟩ : ∃ p' L', Hid (Rise p L p' L') ∧ Hid (AccAt w3 (w.heap.size + 1) w.heap.size p' L') := ⟨_, _, HRI, HA3⟩
          have hup := HRI.out.up
          have hud : decide (p' < p) = false := decide_eq_false (by omega)
          have HK3 := Lib.hid (HK2.out.trans (T := AB (w.heap.size + 1) w.heap.size) HKQ.out (fun i hi h => by rcases h with h | h <;> omega))
          have HO3 := Lib.hid (HO2.out.kept HKQ.out (fun i hi h => by have := HO2.out.base i hi; have := heap_lt HA.out.cells; have := HA.out.map.lt; rcases h with h | h <;> omega))
          have HP3 := Lib.hid (APromised_any w3 _ _ p' L' HA3.out)
          clear HRI2 HP HV HKQ HA2 HK2 HO2 HCS hup f0 f1 f2 f3 f4 f5 f6 HNB
          go_wp2_with (go_at_call 11; refine HP3.out.mono ?_; rintro e w' ⟨rfl, rfl⟩)
          go_loopw [7] (AiRel w3 L.length) (fun i _ => L.length - (RowKit.intOf i).toNat)
          case atStart => exact ⟨0, Nat.zero_le _, rfl, Kept.refl _ _⟩
          case round =>
            obtain ⟨m, hm, rfl, hkx⟩ := hrel
            by_cases hml : m < L.length
            · have HKX := Lib.hid hkx
              have hfew := HA.out.few
              obtain ⟨r, c, hvv, hrl, c0, c1, c2, c3, c4, c5⟩ := (HO3.out.no hkx).cells m hml
              injection hvv with hva _ hvc
              subst hva hvc
              have hmem : L[m] ∈ L := List.getElem_mem hml
              have hwf : (Lit.int .i64 L[m].s).wf = true := WalkArith.wf_i64 (by have := HOK.out _ hmem; unfold VtOk at this; omega)
              have HVO := Lib.hid (AVote_any wr (w.heap.size + 1) w.heap.size p' L[m].s L' (HA3.out.no hkx) hwf)
              have hat := HRI.out.two _ hmem
              have hlim := HL.out _ hmem
              obtain ⟨y, hy⟩ : ∃ y, y = L[m] := ⟨_, rfl⟩
              rw [← hy] at HVO hat hlim c0 c1 c2 c3 c4 c5
              clear hy hwf hkx
              have hm0 : (0 : Int) ≤ (m : Int) := by omega
              have hm1 : (m : Int) < (L.length : Int) := by omega
              obtain ⟨y0, y1, y2, y3, y4, y5⟩ := y
              simp only at HVO c0 c1 c2 c3 c4 c5 hlim hat
              rcases hat with hat | ⟨⟨z0, z1, z2, z3, z4, z5⟩, hat, hz0, hz1, hz2, hz3, hdf⟩
              · rw [hat] at HVO
                have HVO : Hid (Calls Try.prog 9 #[.pointer (some ⟨w.heap.size + 1, 0, none⟩), .int .i64 y0] wr fun e w' => e = .returned (.tuple #[.agg #[.int .i64 y0, .int .u64 y1, .int .i64 y2, .int .i64 y3, .int .u64 y4, .int .i64 y5], .bool true]) ∧ Kept NoB wr w') := HVO
                have HRC : Hid (wr.cell? ⟨r, m * 6, none⟩ = some (.int .i64 y0) ∧ wr.cell? ⟨r, m * 6 + 1, none⟩ = some (.int .u64 y1) ∧ wr.cell? ⟨r, m * 6 + 2, none⟩ = some (.int .i64 y2) ∧ wr.cell? ⟨r, m * 6 + 3, none⟩ = some (.int .i64 y3) ∧ wr.cell? ⟨r, m * 6 + 4, none⟩ = some (.int .u64 y4) ∧ wr.cell? ⟨r, m * 6 + 5, none⟩ = some (.int .i64 y5)) := Lib.hid ⟨c0, c1, c2, c3, c4, c5⟩
                clear hat
                go_wp2_with fail
                refine HVO.out.mono ?_
                rintro e w5 ⟨rfl, hk⟩
                have HK5 := Lib.hid (HKX.out.trans hk (fun _ _ h => h))
                clear c0 c1 c2 c3 c4 c5
                obtain ⟨c0, c1, c2, c3, c4, c5⟩ := HRC.out
                have d0 := cell_alloc (hk.cell (p := ⟨r, m * 6, none⟩) (fun h => h) c0) (.cells #[.int .i64 y0, .int .u64 y1, .int .i64 y2, .int .i64 y3, .int .u64 y4, .int .i64 y5] 36)
                have d1 := cell_alloc (hk.cell (p := ⟨r, m * 6 + 1, none⟩) (fun h => h) c1) (.cells #[.int .i64 y0, .int .u64 y1, .int .i64 y2, .int .i64 y3, .int .u64 y4, .int .i64 y5] 36)
                have d2 := cell_alloc (hk.cell (p := ⟨r, m * 6 + 2, none⟩) (fun h => h) c2) (.cells #[.int .i64 y0, .int .u64 y1, .int .i64 y2, .int .i64 y3, .int .u64 y4, .int .i64 y5] 36)
                have d3 := cell_alloc (hk.cell (p := ⟨r, m * 6 + 3, none⟩) (fun h => h) c3) (.cells #[.int .i64 y0, .int .u64 y1, .int .i64 y2, .int .i64 y3, .int .u64 y4, .int .i64 y5] 36)
                have d4 := cell_alloc (hk.cell (p := ⟨r, m * 6 + 4, none⟩) (fun h => h) c4) (.cells #[.int .i64 y0, .int .u64 y1, .int .i64 y2, .int .i64 y3, .int .u64 y4, .int .i64 y5] 36)
                have d5 := cell_alloc (hk.cell (p := ⟨r, m * 6 + 5, none⟩) (fun h => h) c5) (.cells #[.int .i64 y0, .int .u64 y1, .int .i64 y2, .int .i64 y3, .int .u64 y4, .int .i64 y5] 36)
                have hz := heap_alloc_new w5 (.cells #[.int .i64 y0, .int .u64 y1, .int .i64 y2, .int .i64 y3, .int .u64 y4, .int .i64 y5] 36)
                obtain ⟨g0, g1, g2, g3, g4, g5⟩ := cells6 (v := ⟨y0, y1, y2, y3, y4, y5⟩) hz
                have HK6 := Lib.hid (HK5.out.alloc (.cells #[.int .i64 y0, .int .u64 y1, .int .i64 y2, .int .i64 y3, .int .u64 y4, .int .i64 y5] 36))
                clear hk hz c0 c1 c2 c3 c4 c5
                go_wp2_with fail
                generalize hW : World.alloc _ _ = w6 at d0 d1 d2 d3 d4 d5 g0 g1 g2 g3 g4 g5 HK6 ⊢
                clear hW
                go_region
                all_goals
                  go_wp2
                  exact ⟨⟨m + 1, by omega, by go_num, HK6.out.drew⟩, by simp [RowKit.intOf]; omega⟩
              · rw [hat] at HVO
                have hz0 : z0 = y0 := hz0
                subst hz0
                have hz1 : y1 ≤ z1 := hz1
                have hz2 : p ≤ z1 := hz2
                have hz3 : z1 ≤ p' := hz3
                have hdf : z1 ≠ y1 ∨ (z1 = y1 ∧ z2 ≠ y2) ∨ (z1 = y1 ∧ z2 = y2 ∧ z3 ≠ y3) ∨ (z1 = y1 ∧ z2 = y2 ∧ z3 = y3 ∧ z4 ≠ y4) ∨ (z1 = y1 ∧ z2 = y2 ∧ z3 = y3 ∧ z4 = y4 ∧ z5 ≠ y5) := hdf
                have HVO : Hid (Calls Try.prog 9 #[.pointer (some ⟨w.heap.size + 1, 0, none⟩), .int .i64 z0] wr fun e w' => e = .returned (.tuple #[.agg #[.int .i64 z0, .int .u64 z1, .int .i64 z2, .int .i64 z3, .int .u64 z4, .int .i64 z5], .bool true]) ∧ Kept NoB wr w') := HVO
                have HRC : Hid (wr.cell? ⟨r, m * 6, none⟩ = some (.int .i64 z0) ∧ wr.cell? ⟨r, m * 6 + 1, none⟩ = some (.int .u64 y1) ∧ wr.cell? ⟨r, m * 6 + 2, none⟩ = some (.int .i64 y2) ∧ wr.cell? ⟨r, m * 6 + 3, none⟩ = some (.int .i64 y3) ∧ wr.cell? ⟨r, m * 6 + 4, none⟩ = some (.int .u64 y4) ∧ wr.cell? ⟨r, m * 6 + 5, none⟩ = some (.int .i64 y5)) := Lib.hid ⟨c0, c1, c2, c3, c4, c5⟩
                clear hat
                go_wp2_with fail
                refine HVO.out.mono ?_
                rintro e w5 ⟨rfl, hk⟩
                have HK5 := Lib.hid (HKX.out.trans hk (fun _ _ h => h))
                clear c0 c1 c2 c3 c4 c5
                obtain ⟨c0, c1, c2, c3, c4, c5⟩ := HRC.out
                have d0 := cell_alloc (hk.cell (p := ⟨r, m * 6, none⟩) (fun h => h) c0) (.cells #[.int .i64 z0, .int .u64 z1, .int .i64 z2, .int .i64 z3, .int .u64 z4, .int .i64 z5] 36)
                have d1 := cell_alloc (hk.cell (p := ⟨r, m * 6 + 1, none⟩) (fun h => h) c1) (.cells #[.int .i64 z0, .int .u64 z1, .int .i64 z2, .int .i64 z3, .int .u64 z4, .int .i64 z5] 36)
                have d2 := cell_alloc (hk.cell (p := ⟨r, m * 6 + 2, none⟩) (fun h => h) c2) (.cells #[.int .i64 z0, .int .u64 z1, .int .i64 z2, .int .i64 z3, .int .u64 z4, .int .i64 z5] 36)
                have d3 := cell_alloc (hk.cell (p := ⟨r, m * 6 + 3, none⟩) (fun h => h) c3) (.cells #[.int .i64 z0, .int .u64 z1, .int .i64 z2, .int .i64 z3, .int .u64 z4, .int .i64 z5] 36)
                have d4 := cell_alloc (hk.cell (p := ⟨r, m * 6 + 4, none⟩) (fun h => h) c4) (.cells #[.int .i64 z0, .int .u64 z1, .int .i64 z2, .int .i64 z3, .int .u64 z4, .int .i64 z5] 36)
                have d5 := cell_alloc (hk.cell (p := ⟨r, m * 6 + 5, none⟩) (fun h => h) c5) (.cells #[.int .i64 z0, .int .u64 z1, .int .i64 z2, .int .i64 z3, .int .u64 z4, .int .i64 z5] 36)
                have hz := heap_alloc_new w5 (.cells #[.int .i64 z0, .int .u64 z1, .int .i64 z2, .int .i64 z3, .int .u64 z4, .int .i64 z5] 36)
                obtain ⟨g0, g1, g2, g3, g4, g5⟩ := cells6 (v := ⟨z0, z1, z2, z3, z4, z5⟩) hz
                have HK6 := Lib.hid (HK5.out.alloc (.cells #[.int .i64 z0, .int .u64 z1, .int .i64 z2, .int .i64 z3, .int .u64 z4, .int .i64 z5] 36))
                clear hk hz c0 c1 c2 c3 c4 c5
                go_wp2_with fail
                generalize hW : World.alloc _ _ = w6 at d0 d1 d2 d3 d4 d5 g0 g1 g2 g3 g4 g5 HK6 ⊢
                clear hW
                have HZ := Lib.hid (show y1 ≤ z1 ∧ p ≤ z1 ∧ z1 ≤ p' from ⟨hz1, hz2, hz3⟩)
                clear hz1 hz2 hz3
                rcases hdf with hne | ⟨rfl, hne⟩ | ⟨rfl, rfl, hne⟩ | ⟨rfl, rfl, rfl, hne⟩ | ⟨rfl, rfl, rfl, rfl, hne⟩
                · have hnb : (z1 == y1) = false := by simpa using hne
                  clear hne
                  have hd1 : decide (z1 < y1) = false := decide_eq_false (by have := HZ.out; omega)
                  have hd2 : decide (z1 < p) = false := decide_eq_false (by have := HZ.out; omega)
                  have hd3 : decide (p' < z1) = false := decide_eq_false (by have := HZ.out; omega)
                  have HP6 := Lib.hid (APromised_any w6.drew (w.heap.size + 1) w.heap.size p' L' (HA3.out.no HK6.out).drew)
                  go_region_held3 (fun w' => w'.cell? ⟨r, m * 6, none⟩ = some (.int .i64 z0) ∧ w'.cell? ⟨r, m * 6 + 1, none⟩ = some (.int .u64 y1) ∧ w'.cell? ⟨r, m * 6 + 2, none⟩ = some (.int .i64 y2) ∧ w'.cell? ⟨r, m * 6 + 3, none⟩ = some (.int .i64 y3) ∧ w'.cell? ⟨r, m * 6 + 4, none⟩ = some (.int .u64 y4) ∧ w'.cell? ⟨r, m * 6 + 5, none⟩ = some (.int .i64 y5) ∧
                      w'.cell? ⟨w5.heap.size, 0, none⟩ = some (.int .i64 z0) ∧ w'.cell? ⟨w5.heap.size, 1, none⟩ = some (.int .u64 z1) ∧ w'.cell? ⟨w5.heap.size, 2, none⟩ = some (.int .i64 z2) ∧ w'.cell? ⟨w5.heap.size, 3, none⟩ = some (.int .i64 z3) ∧ w'.cell? ⟨w5.heap.size, 4, none⟩ = some (.int .u64 z4) ∧ w'.cell? ⟨w5.heap.size, 5, none⟩ = some (.int .i64 z5))
                    (first
                      | exact ⟨cell_drew d0, cell_drew d1, cell_drew d2, cell_drew d3, cell_drew d4, cell_drew d5, cell_drew g0, cell_drew g1, cell_drew g2, cell_drew g3, cell_drew g4, cell_drew g5⟩
                      | go_keep)
                    ((go_at_call 11; refine HP6.out.mono ?_; rintro e w' ⟨rfl, rfl⟩))
                  all_goals
                    go_wp2
                    exact ⟨⟨m + 1, by omega, by go_num, HK6.out.drew⟩, by simp [RowKit.intOf]; omega⟩
                · have hnb : (z2 == y2) = false := by simpa using hne
                  clear hne
                  have hd1 : decide (z1 < z1) = false := decide_eq_false (by have := HZ.out; omega)
                  have hd2 : decide (z1 < p) = false := decide_eq_false (by have := HZ.out; omega)
                  have hd3 : decide (p' < z1) = false := decide_eq_false (by have := HZ.out; omega)
                  have HP6 := Lib.hid (APromised_any w6.drew (w.heap.size + 1) w.heap.size p' L' (HA3.out.no HK6.out).drew)
                  go_region_held3 (fun w' => w'.cell? ⟨r, m * 6, none⟩ = some (.int .i64 z0) ∧ w'.cell? ⟨r, m * 6 + 1, none⟩ = some (.int .u64 z1) ∧ w'.cell? ⟨r, m * 6 + 2, none⟩ = some (.int .i64 y2) ∧ w'.cell? ⟨r, m * 6 + 3, none⟩ = some (.int .i64 y3) ∧ w'.cell? ⟨r, m * 6 + 4, none⟩ = some (.int .u64 y4) ∧ w'.cell? ⟨r, m * 6 + 5, none⟩ = some (.int .i64 y5) ∧
                      w'.cell? ⟨w5.heap.size, 0, none⟩ = some (.int .i64 z0) ∧ w'.cell? ⟨w5.heap.size, 1, none⟩ = some (.int .u64 z1) ∧ w'.cell? ⟨w5.heap.size, 2, none⟩ = some (.int .i64 z2) ∧ w'.cell? ⟨w5.heap.size, 3, none⟩ = some (.int .i64 z3) ∧ w'.cell? ⟨w5.heap.size, 4, none⟩ = some (.int .u64 z4) ∧ w'.cell? ⟨w5.heap.size, 5, none⟩ = some (.int .i64 z5))
                    (first
                      | exact ⟨cell_drew d0, cell_drew d1, cell_drew d2, cell_drew d3, cell_drew d4, cell_drew d5, cell_drew g0, cell_drew g1, cell_drew g2, cell_drew g3, cell_drew g4, cell_drew g5⟩
                      | go_keep)
                    ((go_at_call 11; refine HP6.out.mono ?_; rintro e w' ⟨rfl, rfl⟩))
                  all_goals
                    go_wp2
                    exact ⟨⟨m + 1, by omega, by go_num, HK6.out.drew⟩, by simp [RowKit.intOf]; omega⟩
                · have hnb : (z3 == y3) = false := by simpa using hne
                  clear hne
                  have hd1 : decide (z1 < z1) = false := decide_eq_false (by have := HZ.out; omega)
                  have hd2 : decide (z1 < p) = false := decide_eq_false (by have := HZ.out; omega)
                  have hd3 : decide (p' < z1) = false := decide_eq_false (by have := HZ.out; omega)
                  have HP6 := Lib.hid (APromised_any w6.drew (w.heap.size + 1) w.heap.size p' L' (HA3.out.no HK6.out).drew)
                  go_region_held3 (fun w' => w'.cell? ⟨r, m * 6, none⟩ = some (.int .i64 z0) ∧ w'.cell? ⟨r, m * 6 + 1, none⟩ = some (.int .u64 z1) ∧ w'.cell? ⟨r, m * 6 + 2, none⟩ = some (.int .i64 z2) ∧ w'.cell? ⟨r, m * 6 + 3, none⟩ = some (.int .i64 y3) ∧ w'.cell? ⟨r, m * 6 + 4, none⟩ = some (.int .u64 y4) ∧ w'.cell? ⟨r, m * 6 + 5, none⟩ = some (.int .i64 y5) ∧
                      w'.cell? ⟨w5.heap.size, 0, none⟩ = some (.int .i64 z0) ∧ w'.cell? ⟨w5.heap.size, 1, none⟩ = some (.int .u64 z1) ∧ w'.cell? ⟨w5.heap.size, 2, none⟩ = some (.int .i64 z2) ∧ w'.cell? ⟨w5.heap.size, 3, none⟩ = some (.int .i64 z3) ∧ w'.cell? ⟨w5.heap.size, 4, none⟩ = some (.int .u64 z4) ∧ w'.cell? ⟨w5.heap.size, 5, none⟩ = some (.int .i64 z5))
                    (first
                      | exact ⟨cell_drew d0, cell_drew d1, cell_drew d2, cell_drew d3, cell_drew d4, cell_drew d5, cell_drew g0, cell_drew g1, cell_drew g2, cell_drew g3, cell_drew g4, cell_drew g5⟩
                      | go_keep)
                    ((go_at_call 11; refine HP6.out.mono ?_; rintro e w' ⟨rfl, rfl⟩))
                  all_goals
                    go_wp2
                    exact ⟨⟨m + 1, by omega, by go_num, HK6.out.drew⟩, by simp [RowKit.intOf]; omega⟩
                · have hnb : (z4 == y4) = false := by simpa using hne
                  clear hne
                  have hd1 : decide (z1 < z1) = false := decide_eq_false (by have := HZ.out; omega)
                  have hd2 : decide (z1 < p) = false := decide_eq_false (by have := HZ.out; omega)
                  have hd3 : decide (p' < z1) = false := decide_eq_false (by have := HZ.out; omega)
                  have HP6 := Lib.hid (APromised_any w6.drew (w.heap.size + 1) w.heap.size p' L' (HA3.out.no HK6.out).drew)
                  go_region_held3 (fun w' => w'.cell? ⟨r, m * 6, none⟩ = some (.int .i64 z0) ∧ w'.cell? ⟨r, m * 6 + 1, none⟩ = some (.int .u64 z1) ∧ w'.cell? ⟨r, m * 6 + 2, none⟩ = some (.int .i64 z2) ∧ w'.cell? ⟨r, m * 6 + 3, none⟩ = some (.int .i64 z3) ∧ w'.cell? ⟨r, m * 6 + 4, none⟩ = some (.int .u64 y4) ∧ w'.cell? ⟨r, m * 6 + 5, none⟩ = some (.int .i64 y5) ∧
                      w'.cell? ⟨w5.heap.size, 0, none⟩ = some (.int .i64 z0) ∧ w'.cell? ⟨w5.heap.size, 1, none⟩ = some (.int .u64 z1) ∧ w'.cell? ⟨w5.heap.size, 2, none⟩ = some (.int .i64 z2) ∧ w'.cell? ⟨w5.heap.size, 3, none⟩ = some (.int .i64 z3) ∧ w'.cell? ⟨w5.heap.size, 4, none⟩ = some (.int .u64 z4) ∧ w'.cell? ⟨w5.heap.size, 5, none⟩ = some (.int .i64 z5))
                    (first
                      | exact ⟨cell_drew d0, cell_drew d1, cell_drew d2, cell_drew d3, cell_drew d4, cell_drew d5, cell_drew g0, cell_drew g1, cell_drew g2, cell_drew g3, cell_drew g4, cell_drew g5⟩
                      | go_keep)
                    ((go_at_call 11; refine HP6.out.mono ?_; rintro e w' ⟨rfl, rfl⟩))
                  all_goals
                    go_wp2
                    exact ⟨⟨m + 1, by omega, by go_num, HK6.out.drew⟩, by simp [RowKit.intOf]; omega⟩
                · have hnb : (z5 == y5) = false := by simpa using hne
                  clear hne
                  have hd1 : decide (z1 < z1) = false := decide_eq_false (by have := HZ.out; omega)
                  have hd2 : decide (z1 < p) = false := decide_eq_false (by have := HZ.out; omega)
                  have hd3 : decide (p' < z1) = false := decide_eq_false (by have := HZ.out; omega)
                  have HP6 := Lib.hid (APromised_any w6.drew (w.heap.size + 1) w.heap.size p' L' (HA3.out.no HK6.out).drew)
                  go_region_held3 (fun w' => w'.cell? ⟨r, m * 6, none⟩ = some (.int .i64 z0) ∧ w'.cell? ⟨r, m * 6 + 1, none⟩ = some (.int .u64 z1) ∧ w'.cell? ⟨r, m * 6 + 2, none⟩ = some (.int .i64 z2) ∧ w'.cell? ⟨r, m * 6 + 3, none⟩ = some (.int .i64 z3) ∧ w'.cell? ⟨r, m * 6 + 4, none⟩ = some (.int .u64 z4) ∧ w'.cell? ⟨r, m * 6 + 5, none⟩ = some (.int .i64 y5) ∧
                      w'.cell? ⟨w5.heap.size, 0, none⟩ = some (.int .i64 z0) ∧ w'.cell? ⟨w5.heap.size, 1, none⟩ = some (.int .u64 z1) ∧ w'.cell? ⟨w5.heap.size, 2, none⟩ = some (.int .i64 z2) ∧ w'.cell? ⟨w5.heap.size, 3, none⟩ = some (.int .i64 z3) ∧ w'.cell? ⟨w5.heap.size, 4, none⟩ = some (.int .u64 z4) ∧ w'.cell? ⟨w5.heap.size, 5, none⟩ = some (.int .i64 z5))
                    (first
                      | exact ⟨cell_drew d0, cell_drew d1, cell_drew d2, cell_drew d3, cell_drew d4, cell_drew d5, cell_drew g0, cell_drew g1, cell_drew g2, cell_drew g3, cell_drew g4, cell_drew g5⟩
                      | go_keep)
                    ((go_at_call 11; refine HP6.out.mono ?_; rintro e w' ⟨rfl, rfl⟩))
                  all_goals
                    go_wp2
                    exact ⟨⟨m + 1, by omega, by go_num, HK6.out.drew⟩, by simp [RowKit.intOf]; omega⟩
            · have hml2 : m = L.length := by omega
              have HK7 := Lib.hid (HK3.out.trans hkx (fun _ _ h => h))
              have HA7 := Lib.hid (HA3.out.no hkx)
              subst hml2
              clear hkx
              go_wp2
              exact ⟨⟨j + 1, p', L', by omega, by omega, by go_num, HA7.out, HRI.out.lim, HK7.out⟩, by simp [RowKit.intOf]; omega⟩
    · have HAW := Lib.hid (awake11 wr)
      by_cases h1 : j < n
      · have h2 : j = 60 := by omega
        subst h2
        have h3 : ((60 : Nat) : Int) < (n : Int) := by omega
        have h4 : decide ((((60 : Nat) : Int)) < 60) = false := by decide
        go_wp2_with (go_at_call 16; refine HAW.out.mono ?_; rintro e w' ⟨rfl, hk⟩; have HKF := Lib.hid (HK.out.trans hk (fun _ _ h => h)); clear hk)
        go_ret
        exact ⟨rfl, HKF.out⟩
      · have h2 : j = n := by omega
        subst h2
        go_wp2_with (go_at_call 16; refine HAW.out.mono ?_; rintro e w' ⟨rfl, hk⟩; have HKF := Lib.hid (HK.out.trans hk (fun _ _ h => h)); clear hk)
        go_ret
        exact ⟨rfl, HKF.out⟩
end Go.Proofs.Ytbockiohaomkmaa
