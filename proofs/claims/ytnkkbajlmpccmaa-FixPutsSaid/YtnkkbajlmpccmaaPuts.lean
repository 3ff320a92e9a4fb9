/-
  The walk of catenarylaw01.FixPuts: whatever is put, the bytes are the chapter's, or the first error is told.
-/
import Derived.Test.YtnkkbajlmpccmaaItems
namespace Go.Proofs.Ytnkkbajlmpccmaa
open Go.RowKit

def PutsRel (w : World) (M : Int) (g n : Nat) (all bad i : Value) (wr : World) : Prop :=
  ∃ (j : Nat) (s : OSt) (F Fa : Nat → Prop) (ls : List Int), j ≤ n ∧ j ≤ 30 ∧ i = .int .i64 j ∧ bad = .int .i64 s.err ∧ OutAt wr F g s ∧ (∀ k, F k → w.heap.size ≤ k ∧ k < wr.heap.size) ∧ s.most = M ∧ s.bs.length ≤ 70 * j ∧
    Own wr Fa all ls ∧ (s.err = 0 → ls = s.bs) ∧ (∀ k, Fa k → w.heap.size ≤ k ∧ k < wr.heap.size ∧ ¬ F k) ∧ Kept NoB w wr

set_option maxRecDepth 100000 in
theorem FixPuts_any (most : Int) (u : Value) (n : Nat) (it : Nat → Itm) (w : World) (hm0 : 0 ≤ most) (hm1 : most ≤ 9223372036854775807) (hz : ItsAt w u n it) :
    Calls Try.prog 3 #[.int .i64 most, u] w fun e w' => e = .returned (.bool true) ∧ Kept NoB w w' := by
  obtain ⟨i0, hi0, hz0, hz1, hz2⟩ := info_parts Try.info5
  obtain ⟨ua, ucap, rfl, hn, hit⟩ := hz
  have hn2 : (n : Int) ≤ 9223372036854775807 := by omega
  go_enter Try.func3, Try.ntmps3
  go_wp2_with fail
  refine (New_any most _ hm1).mono ?_
  rintro e w1 ⟨rfl, hO1, hk1⟩
  obtain ⟨M, hM⟩ : ∃ M, M = max most 0 := ⟨_, rfl⟩
  rw [← hM] at hO1
  have hM2 : M = most := by omega
  have HO1 := Lib.hid hO1
  have HK1 := Lib.hid hk1
  have hz1' := hk1.size
  obtain ⟨g, hg⟩ : ∃ g, g = w.heap.size := ⟨_, rfl⟩
  rw [← hg]
  have HG := Lib.hid hg
  have HM := Lib.hid hM2
  clear hO1 hk1 hM hM2 hg
  go_wp2_with fail
  go_loopw [6, 7, 8] (PutsRel w M g n) (fun _ _ i _ => n - (intOf i).toNat)
  case atStart =>
    refine ⟨0, ⟨[], M, 0⟩, fun k => w.heap.size ≤ k ∧ k < w1.heap.size, NoB, [], Nat.zero_le _, by omega, rfl, rfl, ?_, fun _ h => h, rfl, by simp, Own.nil _ _, fun _ => rfl, fun _ h => h.elim, HK1.out⟩
    have := HO1.out.mono (G := fun k => w.heap.size ≤ k ∧ k < w1.heap.size) (fun k h1 h2 => ⟨h2, h1⟩)
    rw [HG.out]
    exact this
  case round =>
    obtain ⟨j, s, F, Fa, ls, hj, hj30, rfl, rfl, hO, hF, hmost, hlen, hA, has, hFa, hk⟩ := hrel
    have HO := Lib.hid hO
    have HA := Lib.hid hA
    have HK := Lib.hid hk
    have HF := Lib.hid hF
    have HFa := Lib.hid hFa
    have HAS := Lib.hid has
    have HMO := Lib.hid hmost
    obtain ⟨aa, ac, rfl⟩ := own_form hA.2.1
    have hbe := hO.2.2.1
    have HBE := Lib.hid hbe
    have hown := hA.2.1
    clear hO hA hF hFa has hmost hbe
    by_cases hlt : j < n ∧ j < 30
    · obtain ⟨hlt1, hlt2⟩ := hlt
      obtain ⟨b, o, rfl, hb, hcs⟩ := hit (by omega)
      obtain ⟨bv, d0, d1, d2, d3, hbv, hn64⟩ := hcs j hlt1
      have hb4 : b < w.heap.size := hb
      have e0 := hk.cell (p := ⟨b, o + j * 4, none⟩) (fun h => h) d0
      have e1 := hk.cell (p := ⟨b, o + j * 4 + 1, none⟩) (fun h => h) d1
      have e2 := hk.cell (p := ⟨b, o + j * 4 + 2, none⟩) (fun h => h) d2
      have e3 := hk.cell (p := ⟨b, o + j * 4 + 3, none⟩) (fun h => h) d3
      have HX := Lib.hid (show ItmAt wr (fun k => k < w.heap.size) (.agg #[.int .i64 (it j).kind, .int .u64 (it j).n, .int .i64 (it j).width, bv]) (it j) from ⟨bv, rfl, hbv.kept hk (fun _ _ h => h), hn64⟩)
      obtain ⟨ba, bc, rfl, _⟩ := hbv
      generalize hx : it j = x at *
      have HIT := Lib.hid hx
      clear hx d0 d1 d2 d3 hcs hk hit
      go_wp2_with fail
      refine (put_any g s _ x F _ wr HO.out HX.out (fun k hk h => by have := (HF.out k h).1; omega) (fun k h => (HF.out k h).2) (by omega)).mono ?_
      rintro e w3 ⟨uv, rfl, hu, hO3, hk3⟩
      have HU := Lib.hid hu
      have hy70 := x.bytes_len
      have hee := x.err_lt
      generalize x.bytes = y at *
      generalize x.err = ee at *
      obtain ⟨ca, cc, rfl, hcl, _⟩ := hu
      have hz3 := hk3.size
      have HO3 := Lib.hid (hO3.mono (G := fun k => (F k ∨ wr.heap.size ≤ k) ∧ k < w3.heap.size) (fun k h1 h2 => ⟨h2, h1⟩))
      have HA3 := Lib.hid (HA.out.kept hk3 (fun k h => (HFa.out k h).2.2))
      have HK3 := Lib.hid (HK.out.trans hk3 (fun k _ h => by have := (HF.out k h).1; omega))
      have hzr := HK.out.size
      have HF3 := Lib.hid (show ∀ k, ((F k ∨ wr.heap.size ≤ k) ∧ k < w3.heap.size) → w.heap.size ≤ k ∧ k < w3.heap.size from fun k h => ⟨h.1.elim (fun h => (HF.out k h).1) (fun h => by omega), h.2⟩)
      have HFa3 := Lib.hid (show ∀ k, Fa k → w.heap.size ≤ k ∧ k < w3.heap.size ∧ ¬ ((F k ∨ wr.heap.size ≤ k) ∧ k < w3.heap.size) from fun k h => by
        have h1 := HFa.out k h
        exact ⟨h1.1, by omega, fun h2 => h2.1.elim h1.2.2 (fun h => by omega)⟩)
      have hlen3 := emit_len s ee y
      have hown3 := HA3.out.2.1
      clear hO3 hk3 hown e0 e1 e2 e3 hb
      by_cases hs : s.err = 0
      · have hsb : (s.err == 0) = true := by rw [hs]; rfl
        have hls := HAS.out hs
        have HLS := Lib.hid hls
        have hll : ls.length ≤ 70 * j := by rw [hls]; exact hlen
        have HS := Lib.hid hs
        clear hs hls
        by_cases he : ee = 0
        · have heb : (ee == 0) = true := by rw [he]; rfl
          by_cases hfit : (y.length : Int) ≤ M - ls.length
          · have hm4 : (y.length : Int) ≤ most - ls.length := by rw [← HM.out]; exact hfit
            have HEM := Lib.hid (show s.emit ee y = ⟨s.bs ++ y, s.most, 0⟩ by unfold OSt.emit; rw [if_pos HS.out, if_pos he, if_pos (by rw [HMO.out, ← HLS.out]; exact hfit)])
            have HE := Lib.hid he
            clear he hfit
            go_wp2_with (at_builtin; refine wpList_append_bsl _ rfl (.tmp 55) (.tmp 56) _ rfl 5 i0 _ Try.underlying25 hi0 hz0 hz1 hz2 rfl (.slice aa ls.length ac) ls.length ls rfl hown3 _ _ y rfl HU.out (by omega) ?_; intro a' c' w4 hown4 hg4 hat4)
            have R := HA3.out.grow (G := fun k => Fa k ∨ w3.heap.size ≤ k) HU.out.isB (fun k _ h => .inl h) (fun k h => .inr h) hown4 hg4 hat4
            have hz4 := hg4.size
            have hA4 := R.1.mono (G := fun k => (Fa k ∨ w3.heap.size ≤ k) ∧ k < w4.heap.size) (fun k h1 h2 => ⟨h2, h1⟩)
            have hO4 := HO3.out.kept R.2 (fun k h1 h2 => (HFa3.out k h2).2.2 h1)
            refine ⟨⟨j + 1, s.emit ee y, _, _, ls ++ y, by omega, by omega, by go_num, by rw [HEM.out, HE.out], hO4, fun k h => ?_, by rw [HEM.out]; exact HMO.out, by omega, hA4, fun _ => by rw [HEM.out, HLS.out], fun k h => ?_, ?_⟩, by simp [intOf]; omega⟩
            · have := HF3.out k h
              omega
            · rcases h.1 with h1 | h1
              · have h2 := HFa3.out k h1
                exact ⟨h2.1, h.2, h2.2.2⟩
              · exact ⟨by omega, h.2, fun h2 => by have := h2.2; omega⟩
            · exact HK3.out.trans R.2 (fun k hk h => by have := (HFa.out k h).1; omega)
          · have hm4 : most - ls.length < (y.length : Int) := by rw [← HM.out]; omega
            have HEM := Lib.hid (show s.emit ee y = ⟨[], s.most, 6⟩ by unfold OSt.emit; rw [if_pos HS.out, if_pos he, if_neg (by rw [HMO.out, ← HLS.out]; exact hfit)])
            have HE := Lib.hid he
            clear he hfit
            go_wp2
            refine ⟨⟨j + 1, s.emit ee y, _, Fa, ls, by omega, by omega, by go_num, by rw [HEM.out], HO3.out, HF3.out, by rw [HEM.out]; exact HMO.out, by omega, HA3.out, fun h => ?_, HFa3.out, HK3.out⟩, by simp [intOf]; omega⟩
            rw [HEM.out] at h
            cases h
        · have heb : (ee == 0) = false := by simpa using he
          have HEM := Lib.hid (show s.emit ee y = ⟨[], s.most, ee⟩ by unfold OSt.emit; rw [if_pos HS.out, if_neg he])
          have HE := Lib.hid he
          clear he
          go_wp2
          refine ⟨⟨j + 1, s.emit ee y, _, Fa, ls, by omega, by omega, by go_num, by rw [HEM.out], HO3.out, HF3.out, by rw [HEM.out]; exact HMO.out, by omega, HA3.out, fun h => ?_, HFa3.out, HK3.out⟩, by simp [intOf]; omega⟩
          rw [HEM.out] at h
          exact absurd h HE.out
      · have hsb : (s.err == 0) = false := by simpa using hs
        have HEM := Lib.hid (show s.emit ee y = s by unfold OSt.emit; rw [if_neg hs])
        have HS := Lib.hid hs
        clear hs
        go_wp2
        refine ⟨⟨j + 1, s.emit ee y, _, Fa, ls, by omega, by omega, by go_num, by rw [HEM.out], HO3.out, HF3.out, by rw [HEM.out]; exact HMO.out, by omega, HA3.out, fun h => ?_, HFa3.out, HK3.out⟩, by simp [intOf]; omega⟩
        rw [HEM.out] at h
        exact absurd h HS.out
    · have hcase : (¬ j < n) ∨ (j < n ∧ 30 ≤ j) := by omega
      clear hlt hit
      rcases hcase with hj1 | ⟨hj1, hj2⟩
      all_goals
        go_wp2_with fail
        refine (Done_any _ _ _ _ HO.out (by omega)).mono ?_
        rintro e w3 ⟨cv, rfl, hcv, hk3⟩
        have HCV := Lib.hid hcv
        obtain ⟨ca, ccap, rfl, hcl, _⟩ := hcv
        have HK3 := Lib.hid (HK.out.trans hk3 (fun _ _ h => h))
        have HA3 := Lib.hid ((HA.out.kept hk3 (fun _ _ h => h)).bsl)
        clear hk3
        by_cases hs : s.err = 0
        · have hsb : (s.err != 0) = false := by rw [hs]; rfl
          have hsb2 : (s.err == 0) = true := by rw [hs]; rfl
          have HLS := Lib.hid (HAS.out hs)
          clear hs
          go_wp2_with fail
          refine (Same_any _ _ s.bs ls _ _ _ HCV.out HA3.out).mono ?_
          rintro e w4 ⟨rfl, hk4⟩
          have HK4 := Lib.hid (HK3.out.trans hk4 (fun _ _ h => h))
          rw [decide_eq_true HLS.out.symm]
          clear hk4
          go_wp2_with fail
          refine (awake_any _).mono ?_
          rintro e w5 ⟨rfl, hk5⟩
          go_wp2
          go_ret
          exact ⟨rfl, HK4.out.trans hk5 (fun _ _ h => h)⟩
        · have hsb : (s.err != 0) = true := by rw [bne_iff_ne]; exact hs
          have hb0 : ((s.bs.length : Int) == 0) = true := by rw [HBE.out hs]; rfl
          clear hs
          go_wp2_with fail
          refine (awake_any _).mono ?_
          rintro e w5 ⟨rfl, hk5⟩
          go_wp2
          go_ret
          exact ⟨rfl, HK3.out.trans hk5 (fun _ _ h => h)⟩
set_option maxRecDepth 100000 in
theorem FixPuts_neg (most : Int) (u : Value) (n : Nat) (it : Nat → Itm) (w : World) (hm0 : most < 0) (hm1 : most ≤ 9223372036854775807) (hz : ItsAt w u n it) :
    Calls Try.prog 3 #[.int .i64 most, u] w fun e w' => e = .returned (.bool true) ∧ Kept NoB w w' := by
  obtain ⟨i0, hi0, hz0, hz1, hz2⟩ := info_parts Try.info5
  obtain ⟨ua, ucap, rfl, hn, hit⟩ := hz
  have hn2 : (n : Int) ≤ 9223372036854775807 := by omega
  go_enter Try.func3, Try.ntmps3
  go_wp2_with fail
  refine (New_any most _ hm1).mono ?_
  rintro e w1 ⟨rfl, hO1, hk1⟩
  obtain ⟨M, hM⟩ : ∃ M, M = max most 0 := ⟨_, rfl⟩
  rw [← hM] at hO1
  have hM2 : M = 0 := by omega
  have HO1 := Lib.hid hO1
  have HK1 := Lib.hid hk1
  have hz1' := hk1.size
  obtain ⟨g, hg⟩ : ∃ g, g = w.heap.size := ⟨_, rfl⟩
  rw [← hg]
  have HG := Lib.hid hg
  have HM := Lib.hid hM2
  clear hO1 hk1 hM hM2 hg
  go_wp2_with fail
  go_loopw [6, 7, 8] (PutsRel w M g n) (fun _ _ i _ => n - (intOf i).toNat)
  case atStart =>
    refine ⟨0, ⟨[], M, 0⟩, fun k => w.heap.size ≤ k ∧ k < w1.heap.size, NoB, [], Nat.zero_le _, by omega, rfl, rfl, ?_, fun _ h => h, rfl, by simp, Own.nil _ _, fun _ => rfl, fun _ h => h.elim, HK1.out⟩
    have := HO1.out.mono (G := fun k => w.heap.size ≤ k ∧ k < w1.heap.size) (fun k h1 h2 => ⟨h2, h1⟩)
    rw [HG.out]
    exact this
  case round =>
    obtain ⟨j, s, F, Fa, ls, hj, hj30, rfl, rfl, hO, hF, hmost, hlen, hA, has, hFa, hk⟩ := hrel
    have HO := Lib.hid hO
    have HA := Lib.hid hA
    have HK := Lib.hid hk
    have HF := Lib.hid hF
    have HFa := Lib.hid hFa
    have HAS := Lib.hid has
    have HMO := Lib.hid hmost
    obtain ⟨aa, ac, rfl⟩ := own_form hA.2.1
    have hbe := hO.2.2.1
    have HBE := Lib.hid hbe
    have hown := hA.2.1
    clear hO hA hF hFa has hmost hbe
    by_cases hlt : j < n ∧ j < 30
    · obtain ⟨hlt1, hlt2⟩ := hlt
      obtain ⟨b, o, rfl, hb, hcs⟩ := hit (by omega)
      obtain ⟨bv, d0, d1, d2, d3, hbv, hn64⟩ := hcs j hlt1
      have hb4 : b < w.heap.size := hb
      have e0 := hk.cell (p := ⟨b, o + j * 4, none⟩) (fun h => h) d0
      have e1 := hk.cell (p := ⟨b, o + j * 4 + 1, none⟩) (fun h => h) d1
      have e2 := hk.cell (p := ⟨b, o + j * 4 + 2, none⟩) (fun h => h) d2
      have e3 := hk.cell (p := ⟨b, o + j * 4 + 3, none⟩) (fun h => h) d3
      have HX := Lib.hid (show ItmAt wr (fun k => k < w.heap.size) (.agg #[.int .i64 (it j).kind, .int .u64 (it j).n, .int .i64 (it j).width, bv]) (it j) from ⟨bv, rfl, hbv.kept hk (fun _ _ h => h), hn64⟩)
      obtain ⟨ba, bc, rfl, _⟩ := hbv
      generalize hx : it j = x at *
      have HIT := Lib.hid hx
      clear hx d0 d1 d2 d3 hcs hk hit
      go_wp2_with fail
      refine (put_any g s _ x F _ wr HO.out HX.out (fun k hk h => by have := (HF.out k h).1; omega) (fun k h => (HF.out k h).2) (by omega)).mono ?_
      rintro e w3 ⟨uv, rfl, hu, hO3, hk3⟩
      have HU := Lib.hid hu
      have hy70 := x.bytes_len
      have hee := x.err_lt
      generalize x.bytes = y at *
      generalize x.err = ee at *
      obtain ⟨ca, cc, rfl, hcl, _⟩ := hu
      have hz3 := hk3.size
      have HO3 := Lib.hid (hO3.mono (G := fun k => (F k ∨ wr.heap.size ≤ k) ∧ k < w3.heap.size) (fun k h1 h2 => ⟨h2, h1⟩))
      have HA3 := Lib.hid (HA.out.kept hk3 (fun k h => (HFa.out k h).2.2))
      have HK3 := Lib.hid (HK.out.trans hk3 (fun k _ h => by have := (HF.out k h).1; omega))
      have hzr := HK.out.size
      have HF3 := Lib.hid (show ∀ k, ((F k ∨ wr.heap.size ≤ k) ∧ k < w3.heap.size) → w.heap.size ≤ k ∧ k < w3.heap.size from fun k h => ⟨h.1.elim (fun h => (HF.out k h).1) (fun h => by omega), h.2⟩)
      have HFa3 := Lib.hid (show ∀ k, Fa k → w.heap.size ≤ k ∧ k < w3.heap.size ∧ ¬ ((F k ∨ wr.heap.size ≤ k) ∧ k < w3.heap.size) from fun k h => by
        have h1 := HFa.out k h
        exact ⟨h1.1, by omega, fun h2 => h2.1.elim h1.2.2 (fun h => by omega)⟩)
      have hlen3 := emit_len s ee y
      have hown3 := HA3.out.2.1
      clear hO3 hk3 hown e0 e1 e2 e3 hb
      by_cases hs : s.err = 0
      · have hsb : (s.err == 0) = true := by rw [hs]; rfl
        have hls := HAS.out hs
        have HLS := Lib.hid hls
        have hll : ls.length ≤ 70 * j := by rw [hls]; exact hlen
        have HS := Lib.hid hs
        clear hs hls
        by_cases he : ee = 0
        · have heb : (ee == 0) = true := by rw [he]; rfl
          by_cases hfit : (y.length : Int) ≤ M - ls.length
          · have hm4 : (y.length : Int) ≤ (0 : Int) - ls.length := by rw [← HM.out]; exact hfit
            have HEM := Lib.hid (show s.emit ee y = ⟨s.bs ++ y, s.most, 0⟩ by unfold OSt.emit; rw [if_pos HS.out, if_pos he, if_pos (by rw [HMO.out, ← HLS.out]; exact hfit)])
            have HE := Lib.hid he
            clear he hfit
            go_wp2_with (at_builtin; refine wpList_append_bsl _ rfl (.tmp 55) (.tmp 56) _ rfl 5 i0 _ Try.underlying25 hi0 hz0 hz1 hz2 rfl (.slice aa ls.length ac) ls.length ls rfl hown3 _ _ y rfl HU.out (by omega) ?_; intro a' c' w4 hown4 hg4 hat4)
            have R := HA3.out.grow (G := fun k => Fa k ∨ w3.heap.size ≤ k) HU.out.isB (fun k _ h => .inl h) (fun k h => .inr h) hown4 hg4 hat4
            have hz4 := hg4.size
            have hA4 := R.1.mono (G := fun k => (Fa k ∨ w3.heap.size ≤ k) ∧ k < w4.heap.size) (fun k h1 h2 => ⟨h2, h1⟩)
            have hO4 := HO3.out.kept R.2 (fun k h1 h2 => (HFa3.out k h2).2.2 h1)
            refine ⟨⟨j + 1, s.emit ee y, _, _, ls ++ y, by omega, by omega, by go_num, by rw [HEM.out, HE.out], hO4, fun k h => ?_, by rw [HEM.out]; exact HMO.out, by omega, hA4, fun _ => by rw [HEM.out, HLS.out], fun k h => ?_, ?_⟩, by simp [intOf]; omega⟩
            · have := HF3.out k h
              omega
            · rcases h.1 with h1 | h1
              · have h2 := HFa3.out k h1
                exact ⟨h2.1, h.2, h2.2.2⟩
              · exact ⟨by omega, h.2, fun h2 => by have := h2.2; omega⟩
            · exact HK3.out.trans R.2 (fun k hk h => by have := (HFa.out k h).1; omega)
          · have hm4 : (0 : Int) - ls.length < (y.length : Int) := by rw [← HM.out]; omega
            have HEM := Lib.hid (show s.emit ee y = ⟨[], s.most, 6⟩ by unfold OSt.emit; rw [if_pos HS.out, if_pos he, if_neg (by rw [HMO.out, ← HLS.out]; exact hfit)])
            have HE := Lib.hid he
            clear he hfit
            go_wp2
            refine ⟨⟨j + 1, s.emit ee y, _, Fa, ls, by omega, by omega, by go_num, by rw [HEM.out], HO3.out, HF3.out, by rw [HEM.out]; exact HMO.out, by omega, HA3.out, fun h => ?_, HFa3.out, HK3.out⟩, by simp [intOf]; omega⟩
            rw [HEM.out] at h
            cases h
        · have heb : (ee == 0) = false := by simpa using he
          have HEM := Lib.hid (show s.emit ee y = ⟨[], s.most, ee⟩ by unfold OSt.emit; rw [if_pos HS.out, if_neg he])
          have HE := Lib.hid he
          clear he
          go_wp2
          refine ⟨⟨j + 1, s.emit ee y, _, Fa, ls, by omega, by omega, by go_num, by rw [HEM.out], HO3.out, HF3.out, by rw [HEM.out]; exact HMO.out, by omega, HA3.out, fun h => ?_, HFa3.out, HK3.out⟩, by simp [intOf]; omega⟩
          rw [HEM.out] at h
          exact absurd h HE.out
      · have hsb : (s.err == 0) = false := by simpa using hs
        have HEM := Lib.hid (show s.emit ee y = s by unfold OSt.emit; rw [if_neg hs])
        have HS := Lib.hid hs
        clear hs
        go_wp2
        refine ⟨⟨j + 1, s.emit ee y, _, Fa, ls, by omega, by omega, by go_num, by rw [HEM.out], HO3.out, HF3.out, by rw [HEM.out]; exact HMO.out, by omega, HA3.out, fun h => ?_, HFa3.out, HK3.out⟩, by simp [intOf]; omega⟩
        rw [HEM.out] at h
        exact absurd h HS.out
    · have hcase : (¬ j < n) ∨ (j < n ∧ 30 ≤ j) := by omega
      clear hlt hit
      rcases hcase with hj1 | ⟨hj1, hj2⟩
      all_goals
        go_wp2_with fail
        refine (Done_any _ _ _ _ HO.out (by omega)).mono ?_
        rintro e w3 ⟨cv, rfl, hcv, hk3⟩
        have HCV := Lib.hid hcv
        obtain ⟨ca, ccap, rfl, hcl, _⟩ := hcv
        have HK3 := Lib.hid (HK.out.trans hk3 (fun _ _ h => h))
        have HA3 := Lib.hid ((HA.out.kept hk3 (fun _ _ h => h)).bsl)
        clear hk3
        by_cases hs : s.err = 0
        · have hsb : (s.err != 0) = false := by rw [hs]; rfl
          have hsb2 : (s.err == 0) = true := by rw [hs]; rfl
          have HLS := Lib.hid (HAS.out hs)
          clear hs
          go_wp2_with fail
          refine (Same_any _ _ s.bs ls _ _ _ HCV.out HA3.out).mono ?_
          rintro e w4 ⟨rfl, hk4⟩
          have HK4 := Lib.hid (HK3.out.trans hk4 (fun _ _ h => h))
          rw [decide_eq_true HLS.out.symm]
          clear hk4
          go_wp2_with fail
          refine (awake_any _).mono ?_
          rintro e w5 ⟨rfl, hk5⟩
          go_wp2
          go_ret
          exact ⟨rfl, HK4.out.trans hk5 (fun _ _ h => h)⟩
        · have hsb : (s.err != 0) = true := by rw [bne_iff_ne]; exact hs
          have hb0 : ((s.bs.length : Int) == 0) = true := by rw [HBE.out hs]; rfl
          clear hs
          go_wp2_with fail
          refine (awake_any _).mono ?_
          rintro e w5 ⟨rfl, hk5⟩
          go_wp2
          go_ret
          exact ⟨rfl, HK3.out.trans hk5 (fun _ _ h => h)⟩

theorem FixPuts_all (most : Int) (u : Value) (n : Nat) (it : Nat → Itm) (w : World) (hm1 : most ≤ 9223372036854775807) (hz : ItsAt w u n it) :
    Calls Try.prog 3 #[.int .i64 most, u] w fun e w' => e = .returned (.bool true) ∧ Kept NoB w w' := by
  rcases Int.lt_or_le most 0 with h | h
  · exact FixPuts_neg most u n it w h hm1 hz
  · exact FixPuts_any most u n it w h hm1 hz
end Go.Proofs.Ytnkkbajlmpccmaa
