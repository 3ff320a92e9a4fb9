/-
  ConfBytes: for every configuration and every slice of bytes the Go function catenarylaw09.ConfBytes returns true and leaves its arguments as they were: a configuration's bytes are the chapter's, and are read as it; so is any bytes' configuration.
  No condition but the row's own: the listed variables hold what the program's text lays (the card ties them to it).
-/
import Derived.Test.YtbdenjmnohhhiaaDoorCnfBE
import Derived.Test.YtbdenjmnohhhiaaDoorCnfBC
import Derived.Test.YtbdenjmnohhhiaaDoorCnfBB
import Derived.Test.YtbdenjmnohhhiaaDoorCnfAJ
import Derived.Test.YtbdenjmnohhhiaaDoorCnfAL
import Derived.Test.YtbdenjmnohhhiaaDoorCnfS
import Derived.Test.YtbdenjmnohhhiaaDoorCnfBO
import Derived.Test.YtbdenjmnohhhiaaDoorCards
import Derived.Test.YtbdenjmnohhhiaaDoorTie
import Derived.PinnedBridge
import Derived.LaidOnce
import Derived.SevenTiedAt
namespace Go.Proofs.YtbdenjmnohhhiaaDoor
open Go.RowKit
set_option linter.unusedVariables false
set_option linter.unusedSimpArgs false

theorem BSame9 (v u : Value) (l m : List Int) (F G : Nat → Prop) (w : World) (h : BSl w F v l) (k : BSl w G u m) :
    Calls Tryd.prog 12 #[v, u] w fun e w' => e = .returned (.bool (decide (l = m))) ∧ Kept NoB w w' := by
  obtain ⟨a, cap, rfl, hc, hm, hnn, hr⟩ := h
  obtain ⟨b, cap2, rfl, hc2, hm2, hnn2, hr2⟩ := k
  clear hnn hnn2
  unfold maxLen at hm hm2
  by_cases hlen : l.length = m.length
  · have hne : ((l.length : Int) != (m.length : Int)) = false := by simp [hlen]
    have HL := Lib.hid hlen
    have hle : l.length ≤ m.length := by omega
    clear hlen
    go_enter Tryd.func12, Tryd.ntmps12
    go_wp2
    go_loopw [5] (fun i wr => ∃ j : Nat, j ≤ l.length ∧ i = .int .i64 j ∧ l.take j = m.take j ∧ Kept NoB w wr) (fun i _ => l.length - (intOf i).toNat)
    case atStart => exact ⟨0, Nat.zero_le _, rfl, by simp, Kept.refl _ _⟩
    case round =>
      obtain ⟨j, hj, rfl, heq, hk⟩ := hrel
      have HE := Lib.hid heq
      clear heq
      by_cases hlt : j < l.length
      · obtain ⟨b1, o1, rfl, _, _, hcell1⟩ := hr.at_ hlt
        obtain ⟨b2, o2, rfl, _, _, hcell2⟩ := hr2.at_ (show j < m.length by omega)
        have d1 := hk.cell (p := ⟨b1, o1 + j, none⟩) (fun h => h) hcell1
        have d2 := hk.cell (p := ⟨b2, o2 + j, none⟩) (fun h => h) hcell2
        have hlt2 : (j : Int) < (l.length : Int) := by omega
        have hlt3 : (j : Int) < (m.length : Int) := by omega
        have h0 : (0 : Int) ≤ (j : Int) := by omega
        obtain ⟨x, hx⟩ : ∃ x, x = l.getD j 0 := ⟨_, rfl⟩
        obtain ⟨y, hy⟩ : ∃ y, y = m.getD j 0 := ⟨_, rfl⟩
        rw [← hx] at d1
        rw [← hy] at d2
        have HX := Lib.hid hx
        have HY := Lib.hid hy
        clear hx hy hcell1 hcell2
        by_cases hxy : x = y
        · have hxb : (x != y) = false := by rw [hxy]; simp
          have HXY := Lib.hid hxy
          clear hxy
          go_wp2_with fail
          go_quiet (fail)
          go_wp2
          refine ⟨⟨j + 1, by omega, by go_num, ?_, hk.drewN _⟩, by simp [intOf]; omega⟩
          rw [take_snoc hlt, take_snoc (show j < m.length by omega), HE.out, ← HX.out, ← HY.out, HXY.out]
        · have hxb : (x != y) = true := by simp [hxy]
          go_wp2_with fail
          go_quiet (fail)
          go_wp2
          go_ret
          refine ⟨ret_bool (decide_eq_false (fun h => hxy ?_)).symm, hk.drewN _⟩
          rw [HX.out, HY.out, h]
      · go_wp2
        go_ret
        have e1 : l.take j = l := List.take_of_length_le (by omega)
        have e2 : m.take j = m := List.take_of_length_le (by have := HL.out; omega)
        refine ⟨ret_bool (decide_eq_true ?_).symm, hk⟩
        rw [← e1, HE.out, e2]
  · have hne : ((l.length : Int) != (m.length : Int)) = true := by simp; omega
    go_enter Tryd.func12, Tryd.ntmps12
    go_wp2
    go_ret
    exact ⟨ret_bool (decide_eq_false (fun h => hlen (by rw [h]))).symm, Kept.refl _ _⟩

theorem NGet9 (n : Int) (w : World) : Calls Tryd.prog 27 #[.pointer none, .int .i64 n] w fun r w' => r = .returned (.int .u64 0) ∧ w = w' := by
  go_enter Tryd.func27, Tryd.ntmps27
  go_wp2
  go_ret
  exact ⟨rfl, rfl⟩
theorem NUpto9 (n most : Int) (h : 0 ≤ most) (w : World) : Calls Tryd.prog 49 #[.pointer none, .int .i64 n, .int .u64 most] w fun r w' => r = .returned (.int .u64 0) ∧ w = w' := by
  go_enter Tryd.func49, Tryd.ntmps49
  go_wp2_with fail
  refine (NGet9 _ _).mono ?_
  rintro e w1 ⟨rfl, rfl⟩
  go_wp2
  go_ret
  exact ⟨rfl, rfl⟩
theorem NBool9 (w : World) : Calls Tryd.prog 28 #[.pointer none] w fun r w' => r = .returned (.bool false) ∧ w = w' := by
  go_enter Tryd.func28, Tryd.ntmps28
  go_wp2_with fail
  refine (NUpto9 1 1 (by decide) _).mono ?_
  rintro e w1 ⟨rfl, rfl⟩
  go_wp2
  go_ret
  exact ⟨rfl, rfl⟩
theorem NErr9 (w : World) : Calls Tryd.prog 29 #[.pointer none] w fun r w' => r = .returned (.int .i64 2) ∧ w = w' := by
  go_enter Tryd.func29, Tryd.ntmps29
  go_wp2
  go_ret
  exact ⟨rfl, rfl⟩
def NcRel (w : World) (iv : Value) (wr : World) : Prop := iv = .int .u64 0 ∧ Kept NoB w wr ∧ wr.heap[w.heap.size]? = some (.cells #[.int .i64 0, .int .u64 0, .slice none 0 0, .bool false, .int .i64 0] 25 (0, 0))
set_option maxRecDepth 100000 in
theorem CGet_nil (w : World) : Calls Tryd.prog 10 #[.pointer none] w fun e w' => e = .returned (.tuple #[.agg #[.int .i64 0, .int .u64 0, .slice none 0 0, .bool false, .int .i64 0], .int .i64 2]) ∧ Kept NoB w w' := by
  have HZ := Lib.hid (heap_alloc_new w (.cells #[.int .i64 0, .int .u64 0, .slice none 0 0, .bool false, .int .i64 0] 25))
  have HK := Lib.hid ((Kept.refl NoB w).alloc (.cells #[.int .i64 0, .int .u64 0, .slice none 0 0, .bool false, .int .i64 0] 25))
  go_enter Tryd.func10, Tryd.ntmps10
  go_wp2_with (first
    | (go_at_call 27; refine (NGet9 _ _).mono ?_; rintro e w1 ⟨rfl, rfl⟩)
    | (go_at_call 28; refine (NBool9 _).mono ?_; rintro e w1 ⟨rfl, rfl⟩))
  go_loopw [19] (NcRel w) (fun _ _ => 0)
  case atStart => exact ⟨rfl, HK.out.alloc _, balloc9 HZ.out _⟩
  case round =>
    obtain ⟨rfl, hk, hz⟩ := hrel
    have HKr := Lib.hid hk
    have HZr := Lib.hid hz
    obtain ⟨z0, z1, z2, z3, z4⟩ := cells5 hz
    have zf := frz9 hz
    clear hk hz
    go_wp2_with fail
    refine (NErr9 wr).mono ?_
    rintro e w3 ⟨rfl, rfl⟩
    go_wp2_with fail
    have hfin := cf9_set HZr.out (.int .i64 0) (.int .u64 0) (.slice none 0 0) (.bool false) (.int .i64 0)
    have hS := cf9_kept wr w.heap.size (.int .i64 0) (.int .u64 0) (.slice none 0 0) (.bool false) (.int .i64 0)
    have hkk := HKr.out.trans hS (fun i hi h => by omega)
    clear z0 z1 z2 z3 z4
    obtain ⟨z0, z1, z2, z3, z4⟩ := cells5 hfin
    generalize hW3 : World.setCell _ _ _ = W3 at z0 z1 z2 z3 z4 hkk ⊢
    exact bodyPost_ret (v := .tuple #[.agg #[.int .i64 0, .int .u64 0, .slice none 0 0, .bool false, .int .i64 0], .int .i64 2]) (by simp [results, Tryd.results10, go_sem, z0, z1, z2, z3, z4]) rfl ⟨rfl, hkk⟩
abbrev AnyB : Nat → Prop := fun _ => True
theorem cfs_one9 {w : World} {b : Nat} {t : TypeId} {u : Value} {c : Cf} (hb : w.heap[b]? = some (.cells #[.int .i64 c.ch, .int .u64 c.ep, u, .bool c.fr, .int .i64 c.jn] t (0, 0))) (hu : NSl w AnyB u c.ns) (h0 : 0 ≤ c.ep) (h1 : c.ep ≤ topE) : CfsR w AnyB (.slice (some ⟨b, 0, none⟩) 1 1) [c] := by
  refine ⟨some ⟨b, 0, none⟩, 1, rfl, Nat.le_refl _, by decide, (fun h => by cases h), fun _ => ⟨b, 0, rfl, trivial, heap_lt hb, fun j hj => ?_⟩⟩
  obtain rfl : j = 0 := by simpa using hj
  exact ⟨u, cell_of_row _ _ 0 _ _ _ hb, cell_of_row _ _ 1 _ _ _ hb, cell_of_row _ _ 2 _ _ _ hb, cell_of_row _ _ 3 _ _ _ hb, cell_of_row _ _ 4 _ _ _ hb, hu, h0, h1⟩
theorem sameC_self9 (c : Cf) : sameC c c = true := by unfold sameC; simp
theorem RIn.len {w : World} {F : Nat → Prop} {a : Option Addr} {n c : Nat} {s : ISt} (h : RIn w F a n c s) : n = s.l.length := by
  obtain ⟨_, b, hv, hb⟩ := h
  obtain ⟨a', c', rfl, _⟩ := hb
  simp at hv
  exact hv.2.1
theorem CfV.form9 {w : World} {F : Nat → Prop} {v : Value} {c : Cf} (h : CfV w F v c) : ∃ a k, v = .agg #[.int .i64 c.ch, .int .u64 c.ep, .slice a c.ns.length k, .bool c.fr, .int .i64 c.jn] := by
  obtain ⟨u, rfl, ⟨a, k, rfl, _⟩, _⟩ := h
  exact ⟨a, k, rfl⟩
set_option maxRecDepth 100000 in
set_option maxHeartbeats 8000000 in
theorem ConfBytes_any (v u : Value) (c : Cf) (l : List Int) (w : World) (hc : CfR w AnyB v c) (hu : BSl w (fun k => k < w.heap.size) u l) (ht : Tab9 w) : Calls Tryd.prog 3 #[v, u] w (BoolE true w) := by
  obtain ⟨us, rfl, hn, h0, h1⟩ := id hc
  obtain ⟨ua, uc, rfl, _⟩ := id hn
  have HU := Lib.hid hu
  obtain ⟨ba, bc, rfl, _⟩ := id hu
  have HA := Lib.hid (fun w' (hk : Kept NoB w w') => awake9 w' (ht.kept hk))
  have HO := Lib.hid (fun w' (hk : Kept NoB w w') b t hb => few_any _ [c] AnyB w' (cfs_one9 (t := t) (b := b) hb (hn.kept hk (fun _ _ _ h => h)) h0 h1))
  have HB := Lib.hid (heap_alloc_new w (.cells #[.int .i64 c.ch, .int .u64 c.ep, .slice ua c.ns.length uc, .bool c.fr, .int .i64 c.jn] 25))
  have HK := Lib.hid ((Kept.refl NoB w).alloc (.cells #[.int .i64 c.ch, .int .u64 c.ep, .slice ua c.ns.length uc, .bool c.fr, .int .i64 c.jn] 25))
  obtain ⟨W, hW⟩ : ∃ W, W = w.alloc (.cells #[.int .i64 c.ch, .int .u64 c.ep, .slice ua c.ns.length uc, .bool c.fr, .int .i64 c.jn] 25) := ⟨_, rfl⟩
  rw [← hW] at HB HK
  have HWW := Lib.hid hW
  have HB2 := Lib.hid (heap_alloc_new W (.cells #[.int .i64 c.ch, .int .u64 c.ep, .slice ua c.ns.length uc, .bool c.fr, .int .i64 c.jn] 25))
  have HK2 := Lib.hid (HK.out.alloc (.cells #[.int .i64 c.ch, .int .u64 c.ep, .slice ua c.ns.length uc, .bool c.fr, .int .i64 c.jn] 25))
  have HBB := Lib.hid (balloc9 HB.out (.cells #[.int .i64 c.ch, .int .u64 c.ep, .slice ua c.ns.length uc, .bool c.fr, .int .i64 c.jn] 25))
  obtain ⟨V, hV⟩ : ∃ V, V = W.alloc (.cells #[.int .i64 c.ch, .int .u64 c.ep, .slice ua c.ns.length uc, .bool c.fr, .int .i64 c.jn] 25) := ⟨_, rfl⟩
  rw [← hV] at HB2 HK2 HBB
  have HVV := Lib.hid hV
  have HSZ : Hid (w.heap.size < W.heap.size) := Lib.hid (heap_lt HB.out)
  have HSV : Hid (w.heap.size + 1 < V.heap.size) := Lib.hid (by have := heap_lt HB2.out; have := HSZ.out; omega)
  obtain ⟨d0, d1, d2, d3, d4⟩ := cells5 HB.out
  by_cases hg : Few [c]
  · have hcn : c.ns.length ≤ 30 := hg.2 0 (by simp)
    have hcv0 := hc.cfV hcn
    have HCV := Lib.hid (fun w' (hk : Kept NoB w w') => (hcv0.mono (G := fun k => k < w.heap.size) (fun k h _ => h)).kept hk (fun _ _ _ h => h))
    rw [decide_eq_true hg] at HO
    have HFL := Lib.hid hg
    clear hc hn hu ht hg hcv0 hW hV h0 h1
    go_enter Tryd.func3, Tryd.ntmps3
    go_upto_region 1 with fail
    rw [← HWW.out]
    go_wp2_with fail
    rw [← HVV.out]
    refine (HO.out V HK2.out W.heap.size _ HB2.out).mono ?_
    rintro e w1 ⟨rfl, rfl⟩
    clear d0 d1 d2 d3 d4
    obtain ⟨d0, d1, d2, d3, d4⟩ := cells5 HBB.out
    go_wp2_with fail
    refine (New_any 100 V (by decide)).mono ?_
    rintro e w2 ⟨rfl, ho2, hk2⟩
    have HO2 : Hid (OutAt w2 (fun k => V.heap.size ≤ k ∧ k < w2.heap.size) V.heap.size ⟨[], 100, 0⟩) := Lib.hid (ho2.mono (fun k hk h => ⟨h, hk⟩))
    have HKB := Lib.hid (HK2.out.trans hk2 (fun _ _ h => h))
    have HX2 := Lib.hid (hk2.heap (fun h => h) HBB.out)
    clear ho2 hk2 d0 d1 d2 d3 d4
    obtain ⟨d0, d1, d2, d3, d4⟩ := cells5 HX2.out
    cases hr : rgtB c
    · have HPU : Hid (Calls Tryd.prog 7 #[.pointer (some ⟨V.heap.size, 0, none⟩), .agg #[.int .i64 c.ch, .int .u64 c.ep, .slice ua c.ns.length uc, .bool c.fr, .int .i64 c.jn]] w2 fun e w' => e = .returned (.int .i64 4) ∧ (∃ Fo, OutAt w' Fo V.heap.size ⟨[], 100, 0⟩) ∧ Kept (fun k => V.heap.size ≤ k ∧ k < w2.heap.size) w2 w') := Lib.hid ((CPut_bad w2 V.heap.size _ c _ _ (HCV.out w2 HKB.out) HO2.out hr).mono (fun e w' ⟨h1, ⟨Fo, h2, _⟩, h3⟩ => by
        rw [hr] at h1 h2
        exact ⟨h1, ⟨Fo, h2⟩, h3⟩))
      have HRR := Lib.hid (fun w' (hk : Kept NoB w w') => hr ▸ RRight_any _ c _ w' (HCV.out w' hk))
      clear hr
      go_wp2_with fail
      refine HPU.out.mono ?_
      rintro e w3 ⟨rfl, ⟨Fo, ho3⟩, hk3⟩
      have HO3 := Lib.hid ho3
      have HK3 := Lib.hid (HKB.out.trans hk3 (fun i hi h => by have := HSV.out; have := h.1; omega))
      have HX3 := Lib.hid (hk3.heap (fun h => by have := HSV.out; have := h.1; omega) HX2.out)
      clear ho3 hk3 d0 d1 d2 d3 d4
      obtain ⟨d0, d1, d2, d3, d4⟩ := cells5 HX3.out
      go_wp2_with fail
      refine (Done_any V.heap.size _ Fo w3 HO3.out (by decide)).mono ?_
      rintro e w4 ⟨xv, rfl, hx4, hk4⟩
      obtain ⟨xa, xc, rfl, _⟩ := hx4
      have HK4 := Lib.hid (HK3.out.trans hk4 (fun _ _ h => h))
      have HX4 := Lib.hid (hk4.heap (fun h => h) HX3.out)
      clear hk4 d0 d1 d2 d3 d4
      obtain ⟨d0, d1, d2, d3, d4⟩ := cells5 HX4.out
      go_wp2_with fail
      refine (HRR.out w4 HK4.out).mono ?_
      rintro e w5 ⟨rfl, hk5⟩
      have HK5 := Lib.hid (HK4.out.trans hk5 (fun _ _ h => h))
      clear hk5 d0 d1 d2 d3 d4
      obtain ⟨wc, hwc⟩ : ∃ x, x = w5 := ⟨_, rfl⟩
      have HKc : Hid (Kept NoB w wc) := Lib.hid (by rw [hwc]; exact HK5.out)
      go_upto_region 12 with fail
      rw [← hwc]
      clear hwc
      go_wp2_with fail
      refine (Cut_any _ l 60 _ wc (HU.out.kept HKc.out (fun _ _ h => h)) (by decide)).mono ?_
      rintro e wd ⟨cv, rfl, hc, rfl⟩
      obtain ⟨l3, hl3⟩ : ∃ m, m = l.take 60 := ⟨_, rfl⟩
      have HL3 : Hid (l3.length ≤ 60) := Lib.hid (by rw [hl3, List.length_take]; omega)
      rw [← hl3] at hc
      have HC := Lib.hid hc
      obtain ⟨ca, cc, rfl, _⟩ := hc
      clear hl3
      go_wp2_with fail
      refine (Of_any _ l3 _ wc HC.out (by have := HL3.out; omega)).mono ?_
      rintro e v2 ⟨gj, rfl, hg2, hg2', hi2, hk2⟩
      have HI2 := Lib.hid hi2
      have HKv := Lib.hid (HKc.out.trans hk2 (fun _ _ h => h))
      have HC2 := Lib.hid (HC.out.kept hk2 (fun _ _ h => h))
      have HG2 := Lib.hid hg2'
      have HG2a := Lib.hid (show w.heap.size ≤ gj by have := HKc.out.size; omega)
      clear hi2 hk2 hg2 hg2'
      go_wp2_with fail
      refine (CGet_any v2 gj _ ⟨l3, 0⟩ HI2.out (fun i hi => by have := HG2.out; have := hi.2; omega)).mono ?_
      obtain ⟨⟨sl, se⟩, M, er, hrs⟩ : ∃ (s' : ISt) (M : Cf) (er : Int), readC ⟨l3, 0⟩ = (s', M, er) := ⟨_, _, _, rfl⟩
      rintro e v3 ⟨yv, rfl, hi3, hy3, hk3⟩
      rw [hrs] at hi3 hy3 ⊢
      simp only at hi3 hy3 ⊢
      have HRC := Lib.hid hrs
      obtain ⟨ma, mc, rfl⟩ := hy3.form9
      have HI3 := Lib.hid hi3
      have HM3 := Lib.hid hy3
      have HKx := Lib.hid (HKv.out.trans hk3 (fun i hi h => by have h' : i = gj := h; have := HG2a.out; omega))
      have HC3 := Lib.hid (HC2.out.kept hk3 (fun i hi h => by have h' : i = gj := h; have hi' : i < w.heap.size := hi; have := HG2a.out; omega))
      have HYA3 := Lib.hid (heap_alloc_new v3 (.cells #[.int .i64 M.ch, .int .u64 M.ep, .slice ma M.ns.length mc, .bool M.fr, .int .i64 M.jn] 25))
      obtain ⟨v4, hv4⟩ : ∃ x, x = v3.alloc (.cells #[.int .i64 M.ch, .int .u64 M.ep, .slice ma M.ns.length mc, .bool M.fr, .int .i64 M.jn] 25) := ⟨_, rfl⟩
      have HK34 : Hid (Kept NoB v3 v4) := Lib.hid (by rw [hv4]; exact (Kept.refl _ _).alloc _)
      have HV4 := Lib.hid hv4
      obtain ⟨ma2, hma2⟩ : ∃ y, y = v3.heap.size := ⟨_, rfl⟩
      have HMB := Lib.hid hma2
      rw [← hv4, ← hma2] at HYA3
      have HI4 := Lib.hid (HI3.out.kept HK34.out (fun _ _ h => h) (fun h => h))
      have HC4 := Lib.hid (HC3.out.kept HK34.out (fun _ _ h => h))
      have HKy := Lib.hid (HKx.out.trans HK34.out (fun _ _ h => h))
      have HM4 := Lib.hid (HM3.out.kept HK34.out (fun _ _ _ h => h))
      clear hi3 hy3 hk3 hrs hv4 hma2
      go_upto_region 15 with fail
      rw [← HV4.out, ← HMB.out]
      go_wp2_with fail
      refine (RGet9_any v4 _ (fun k => k < w.heap.size) ⟨l3, 0⟩ ⟨⟨fun h => absurd rfl h, Int.le_refl _, by show (0 : Int) < 100; omega⟩, _, rfl, HC4.out⟩ (fun i hi => by have := HKy.out.size; omega)).mono ?_
      rintro e v5 ⟨ra2, rn2, rc2, zv, rfl, hi5, hz5, hk5⟩
      rw [HRC.out] at hi5 hz5 ⊢
      simp only at hi5 hz5 ⊢
      have hrn := hi5.len
      simp only at hrn
      subst hrn
      obtain ⟨za, zc, rfl⟩ := hz5.form9
      have HZ5 := Lib.hid hz5
      have HYA5 := Lib.hid (hk5.heap (fun h => h) HYA3.out)
      have HI5 := Lib.hid (HI4.out.kept hk5 (fun _ _ h => h) (fun h => h))
      have HKz := Lib.hid (HKy.out.trans hk5 (fun _ _ h => h))
      have HM5 := Lib.hid (HM4.out.kept hk5 (fun _ _ _ h => h))
      have hj1 := balloc9 (heap_alloc_new v5 (.cells #[.slice ra2 sl.length rc2, .int .i64 se] 46)) (.cells #[.int .i64 M.ch, .int .u64 M.ep, .slice za M.ns.length zc, .bool M.fr, .int .i64 M.jn] 25)
      have hj2 := heap_alloc_new (v5.alloc (.cells #[.slice ra2 sl.length rc2, .int .i64 se] 46)) (.cells #[.int .i64 M.ch, .int .u64 M.ep, .slice za M.ns.length zc, .bool M.fr, .int .i64 M.jn] 25)
      rw [show (v5.alloc (.cells #[.slice ra2 sl.length rc2, .int .i64 se] 46)).heap.size = v5.heap.size + 1 by simp] at hj2
      obtain ⟨v6, hv6⟩ : ∃ x, x = (v5.alloc (.cells #[.slice ra2 sl.length rc2, .int .i64 se] 46)).alloc (.cells #[.int .i64 M.ch, .int .u64 M.ep, .slice za M.ns.length zc, .bool M.fr, .int .i64 M.jn] 25) := ⟨_, rfl⟩
      have HV6 := Lib.hid hv6
      rw [← hv6] at hj1 hj2
      have HJ1 := Lib.hid hj1
      have HJ2 := Lib.hid hj2
      have HK56 : Hid (Kept NoB v5 v6) := Lib.hid (by rw [hv6]; exact ((Kept.refl _ _).alloc _).alloc _)
      clear hi5 hz5 hk5 hj1 hj2 hv6
      go_upto_region 16 with fail
      rw [← HV6.out]
      go_wp2_with fail
      refine (CGet_nil v6).mono ?_
      rintro e v7 ⟨rfl, hk7⟩
      have HK67 := Lib.hid hk7
      clear hk7
      have HK78 := Lib.hid ((Kept.refl NoB v7).alloc (.cells #[.int .i64 0, .int .u64 0, .slice none 0 0, .bool false, .int .i64 0] 25))
      obtain ⟨v8, hv8⟩ : ∃ x, x = v7.alloc (.cells #[.int .i64 0, .int .u64 0, .slice none 0 0, .bool false, .int .i64 0] 25) := ⟨_, rfl⟩
      have HV8 := Lib.hid hv8
      rw [← hv8] at HK78
      clear hv8
      go_upto_region 17 with fail
      rw [← HV8.out]
      have HK58 := Lib.hid ((HK56.out.trans HK67.out (fun _ _ h => h)).trans HK78.out (fun _ _ h => h))
      have HKw8 := Lib.hid (HKz.out.trans HK58.out (fun _ _ h => h))
      have HK68 := Lib.hid (HK67.out.trans HK78.out (fun _ _ h => h))
      have HSAM := Lib.hid (fun w' (hk : Kept NoB v8 w') => (sameC_self9 M) ▸ RSame_any _ _ M M _ _ w' (HM5.out.kept (HK58.out.trans hk (fun _ _ h => h)) (fun _ _ _ h => h)) (HZ5.out.kept (HK58.out.trans hk (fun _ _ h => h)) (fun _ _ _ h => h)))
      have HLEF := Lib.hid (fun w' (hk : Kept NoB v8 w') => (Left_any gj ⟨sl, se⟩ _ w' (HI5.out.kept (HK58.out.trans hk (fun _ _ h => h)) (fun _ _ h => h) (fun h => h))).mono fun e w'' h => show e = .returned (.int .i64 sl.length) ∧ Kept NoB w' w'' from ⟨h.1, by rw [← h.2]; exact Kept.refl _ _⟩)
      have HAW := Lib.hid (fun w' (hk : Kept NoB v8 w') => HA.out w' (HKw8.out.trans hk (fun _ _ h => h)))
      have HTEN : Hid (∀ w', Kept NoB v8 w' → ((w'.cell? ⟨ma2, 0, none⟩ = some (.int .i64 M.ch) ∧ w'.cell? ⟨ma2, 1, none⟩ = some (.int .u64 M.ep) ∧ w'.cell? ⟨ma2, 2, none⟩ = some (.slice ma M.ns.length mc) ∧ w'.cell? ⟨ma2, 3, none⟩ = some (.bool M.fr) ∧ w'.cell? ⟨ma2, 4, none⟩ = some (.int .i64 M.jn)) ∧ (w'.cell? ⟨v5.heap.size + 1, 0, none⟩ = some (.int .i64 M.ch) ∧ w'.cell? ⟨v5.heap.size + 1, 1, none⟩ = some (.int .u64 M.ep) ∧ w'.cell? ⟨v5.heap.size + 1, 2, none⟩ = some (.slice za M.ns.length zc) ∧ w'.cell? ⟨v5.heap.size + 1, 3, none⟩ = some (.bool M.fr) ∧ w'.cell? ⟨v5.heap.size + 1, 4, none⟩ = some (.int .i64 M.jn)) ∧ w'.cell? ⟨v5.heap.size, 0, none⟩ = some (.slice ra2 sl.length rc2))) := Lib.hid (fun w' hk =>
        ⟨cells5 ((HK58.out.trans hk (fun _ _ h => h)).heap (fun h => h) HYA5.out), cells5 ((HK68.out.trans hk (fun _ _ h => h)).heap (fun h => h) HJ2.out), (cells2i ((HK68.out.trans hk (fun _ _ h => h)).heap (fun h => h) HJ1.out)).1⟩)
      have hee : (er == er) = true := by simp
      have hll : ((sl.length : Int) == (sl.length : Int)) = true := by simp
      have HKe := Lib.hid (Kept.refl NoB v8).drew
      have HT := Lib.hid (HTEN.out _ HKe.out)
      go_region_held3 (fun w' => ((w'.cell? ⟨ma2, 0, none⟩ = some (.int .i64 M.ch) ∧ w'.cell? ⟨ma2, 1, none⟩ = some (.int .u64 M.ep) ∧ w'.cell? ⟨ma2, 2, none⟩ = some (.slice ma M.ns.length mc) ∧ w'.cell? ⟨ma2, 3, none⟩ = some (.bool M.fr) ∧ w'.cell? ⟨ma2, 4, none⟩ = some (.int .i64 M.jn)) ∧ (w'.cell? ⟨v5.heap.size + 1, 0, none⟩ = some (.int .i64 M.ch) ∧ w'.cell? ⟨v5.heap.size + 1, 1, none⟩ = some (.int .u64 M.ep) ∧ w'.cell? ⟨v5.heap.size + 1, 2, none⟩ = some (.slice za M.ns.length zc) ∧ w'.cell? ⟨v5.heap.size + 1, 3, none⟩ = some (.bool M.fr) ∧ w'.cell? ⟨v5.heap.size + 1, 4, none⟩ = some (.int .i64 M.jn)) ∧ w'.cell? ⟨v5.heap.size, 0, none⟩ = some (.slice ra2 sl.length rc2)))
        (with_reducible exact HT.out)
        (first
          | (go_at_call 14; (with_reducible refine (HSAM.out _ HKe.out).mono ?_); rintro e z ⟨rfl, hkz⟩; replace HKe := Lib.hid (HKe.out.trans hkz (fun _ _ h => h)); replace HT := Lib.hid (HTEN.out _ HKe.out); clear hkz)
          | (go_at_call 17; (with_reducible refine (HLEF.out _ HKe.out).mono ?_); rintro e z ⟨rfl, hkz⟩; replace HKe := Lib.hid (HKe.out.trans hkz (fun _ _ h => h)); replace HT := Lib.hid (HTEN.out _ HKe.out); clear hkz)
          | (go_at_call 5; (with_reducible refine (HAW.out _ HKe.out).mono ?_); rintro e z ⟨rfl, hkz⟩; replace HKe := Lib.hid (HKe.out.trans hkz (fun _ _ h => h)); replace HT := Lib.hid (HTEN.out _ HKe.out); clear hkz)
          | fail)
      go_wp2_with fail
      go_ret
      exact ⟨rfl, HKw8.out.trans HKe.out (fun _ _ h => h)⟩
    · have hRg : Rgt c := of_decide_eq_true (show decide (Rgt c) = true from hr)
      have hnum := hRg.nums
      have HPU : Hid (Calls Tryd.prog 7 #[.pointer (some ⟨V.heap.size, 0, none⟩), .agg #[.int .i64 c.ch, .int .u64 c.ep, .slice ua c.ns.length uc, .bool c.fr, .int .i64 c.jn]] w2 fun e w' => e = .returned (.int .i64 0) ∧ (∃ Fo, OutAt w' Fo V.heap.size ⟨bytesC c, 100, 0⟩) ∧ Kept (fun k => V.heap.size ≤ k ∧ k < w2.heap.size) w2 w') := Lib.hid ((CPut_good w2 V.heap.size _ c _ _ (HCV.out w2 HKB.out) HO2.out (fun i hi => hi.2) (fun i hi h => by have := HSV.out; have := h.1; omega) hr).mono (fun e w' ⟨h1, ⟨Fo, h2, _⟩, h3⟩ => by
        rw [hr] at h1 h2
        exact ⟨h1, ⟨Fo, h2⟩, h3⟩))
      have HRR := Lib.hid (fun w' (hk : Kept NoB w w') => hr ▸ RRight_any _ c _ w' (HCV.out w' hk))
      have HRY := Lib.hid (fun w' (hk : Kept NoB w w') => RBytes9 w' _ c _ (HCV.out w' hk) hRg)
      have HRS := Lib.hid (fun w' y (hk : Kept NoB w w') (hy : CfV w' AnyB y c) => (sameC_self9 c) ▸ RSame_any y _ c c AnyB _ w' hy (HCV.out w' hk))
      have HEP : Hid (c.ep ≤ 18446744073709551615) := Lib.hid (by obtain ⟨_, _, _, _, h, _⟩ := HCV.out w2 HKB.out; exact h)
      have HBK := Lib.hid (readC_back hRg HEP.out)
      have HBL : Hid ((bytesC c).length ≤ 17) := Lib.hid (by rw [bytesC_len]; omega)
      obtain ⟨bs, hbs⟩ : ∃ b, b = bytesC c := ⟨_, rfl⟩
      rw [← hbs] at HPU HRY HBK HBL
      clear hr hRg hnum hbs
      go_wp2_with fail
      refine HPU.out.mono ?_
      rintro e w3 ⟨rfl, ⟨Fo, ho3⟩, hk3⟩
      have HO3 := Lib.hid ho3
      have HK3 := Lib.hid (HKB.out.trans hk3 (fun i hi h => by have := HSV.out; have := h.1; omega))
      have HX3 := Lib.hid (hk3.heap (fun h => by have := HSV.out; have := h.1; omega) HX2.out)
      clear ho3 hk3 d0 d1 d2 d3 d4
      obtain ⟨d0, d1, d2, d3, d4⟩ := cells5 HX3.out
      go_wp2_with fail
      refine (Done_any V.heap.size _ Fo w3 HO3.out (by show bs.length ≤ 1000000; have := HBL.out; omega)).mono ?_
      rintro e w4 ⟨xv, rfl, hx4, hk4⟩
      have HX4b := Lib.hid (hx4.mono (G := fun k => k < w4.heap.size) (fun k h _ => h))
      obtain ⟨xa, xc, rfl, _⟩ := hx4
      have HK4 := Lib.hid (HK3.out.trans hk4 (fun _ _ h => h))
      have HX4 := Lib.hid (hk4.heap (fun h => h) HX3.out)
      clear hk4 d0 d1 d2 d3 d4
      obtain ⟨d0, d1, d2, d3, d4⟩ := cells5 HX4.out
      go_wp2_with fail
      refine (HRR.out w4 HK4.out).mono ?_
      rintro e w5 ⟨rfl, hk5⟩
      have HK5 := Lib.hid (HK4.out.trans hk5 (fun _ _ h => h))
      have HX5 := Lib.hid (hk5.heap (fun h => h) HX4.out)
      have HX5b := Lib.hid (HX4b.out.kept hk5 (fun _ _ h => h))
      have HS45 := Lib.hid (show w4.heap.size ≤ w5.heap.size from hk5.size)
      clear hk5 d0 d1 d2 d3 d4
      obtain ⟨d0, d1, d2, d3, d4⟩ := cells5 HX5.out
      go_wp2_with fail
      refine (Of_any _ bs _ w5 HX5b.out (by have := HBL.out; omega)).mono ?_
      rintro e w7 ⟨gi, rfl, hg7, hg7', hi7, hk7⟩
      have HI7 := Lib.hid hi7
      have HK7 := Lib.hid (HK5.out.trans hk7 (fun _ _ h => h))
      have HX7 := Lib.hid (hk7.heap (fun h => h) HX5.out)
      have HX7b := Lib.hid (HX5b.out.kept hk7 (fun _ _ h => h))
      have HG7 := Lib.hid hg7'
      have HG7a := Lib.hid hg7
      have HS5 := Lib.hid (show w.heap.size < w5.heap.size from heap_lt HX5.out)
      clear hi7 hk7 hg7 hg7' d0 d1 d2 d3 d4
      go_wp2_with fail
      refine (CGet_any w7 gi _ ⟨bs, 0⟩ HI7.out (fun i hi => by have := HG7.out; have := hi.2; omega)).mono ?_
      rintro e w8 ⟨yv, rfl, hi8, hy8, hk8⟩
      rw [HBK.out] at hy8 ⊢
      simp only at hy8
      obtain ⟨ya, yc, rfl⟩ := hy8.form9
      have HX8 := Lib.hid (hk8.heap (fun h : w.heap.size = gi => by have := HS5.out; have := HG7a.out; omega) HX7.out)
      have HK8 := Lib.hid (HK7.out.trans hk8 (fun i hi h => by have h' : i = gi := h; have := HS5.out; have := HG7a.out; omega))
      have HX8b := Lib.hid (HX7b.out.kept hk8 (fun i hi h => by have h' : i = gi := h; have hi : i < w4.heap.size := hi; have := HS45.out; have := HG7a.out; omega))
      have HYA := Lib.hid ((heap_alloc_new w8 (.cells #[.int .i64 c.ch, .int .u64 c.ep, .slice ya c.ns.length yc, .bool c.fr, .int .i64 c.jn] 25)))
      have HY8 := Lib.hid hy8
      obtain ⟨w9, hw9⟩ : ∃ x, x = w8.alloc (.cells #[.int .i64 c.ch, .int .u64 c.ep, .slice ya c.ns.length yc, .bool c.fr, .int .i64 c.jn] 25) := ⟨_, rfl⟩
      have HK89 : Hid (Kept NoB w8 w9) := Lib.hid (by rw [hw9]; exact (Kept.refl _ _).alloc _)
      have HW9 := Lib.hid hw9
      rw [← hw9] at HYA
      obtain ⟨yb, hyb⟩ : ∃ y, y = w8.heap.size := ⟨_, rfl⟩
      have HYB := Lib.hid hyb
      rw [← hyb] at HYA
      have HX9 := Lib.hid (HK89.out.heap (fun h => h) HX8.out)
      have HX9b := Lib.hid (HX8b.out.kept HK89.out (fun _ _ h => h))
      have HK9 := Lib.hid (HK8.out.trans HK89.out (fun _ _ h => h))
      have HY9 := Lib.hid ((HY8.out.kept HK89.out (fun _ _ _ h => h)).mono (G := AnyB) (fun _ _ _ => trivial))
      clear hi8 hy8 hk8 hw9 hyb
      go_upto_region 10 with fail
      rw [← HW9.out, ← HYB.out]
      obtain ⟨d0, d1, d2, d3, d4⟩ := cells5 HX9.out
      obtain ⟨f0, f1, f2, f3, f4⟩ := cells5 HYA.out
      go_wp2_with fail
      refine (HRY.out w9 HK9.out).mono ?_
      rintro e w10 ⟨zv, rfl, hz10, hk10⟩
      obtain ⟨za, zc, rfl⟩ := own_form hz10.2.1
      have HZ10 := Lib.hid hz10
      have HX10 := Lib.hid (hk10.heap (fun h => h) HX9.out)
      have HX10b := Lib.hid (HX9b.out.kept hk10 (fun _ _ h => h))
      have HYA10 := Lib.hid (hk10.heap (fun h => h) HYA.out)
      have HK10 := Lib.hid (HK9.out.trans hk10 (fun _ _ h => h))
      have HY10 := Lib.hid (HY9.out.kept hk10 (fun _ _ _ h => h))
      clear hz10 hk10 d0 d1 d2 d3 d4 f0 f1 f2 f3 f4
      go_wp2_with fail
      refine (BSame9 _ _ bs bs _ _ w10 HX10b.out HZ10.out.bsl).mono ?_
      rintro e w11 ⟨rfl, hk11⟩
      rw [decide_eq_true rfl]
      have HX11 := Lib.hid (hk11.heap (fun h => h) HX10.out)
      have HYA11 := Lib.hid (hk11.heap (fun h => h) HYA10.out)
      have HK11 := Lib.hid (HK10.out.trans hk11 (fun _ _ h => h))
      have HY11 := Lib.hid (HY10.out.kept hk11 (fun _ _ _ h => h))
      clear hk11
      obtain ⟨d0, d1, d2, d3, d4⟩ := cells5 HX11.out
      obtain ⟨f0, f1, f2, f3, f4⟩ := cells5 HYA11.out
      go_wp2_with fail
      refine (HRS.out w11 _ HK11.out HY11.out).mono ?_
      rintro e w12 ⟨rfl, hk12⟩
      have HK12 := Lib.hid (HK11.out.trans hk12 (fun _ _ h => h))
      clear hk12 d0 d1 d2 d3 d4 f0 f1 f2 f3 f4
      obtain ⟨wc, hwc⟩ : ∃ x, x = w12 := ⟨_, rfl⟩
      have HKc : Hid (Kept NoB w wc) := Lib.hid (by rw [hwc]; exact HK12.out)
      go_upto_region 12 with fail
      rw [← hwc]
      clear hwc
      go_wp2_with fail
      refine (Cut_any _ l 60 _ wc (HU.out.kept HKc.out (fun _ _ h => h)) (by decide)).mono ?_
      rintro e wd ⟨cv, rfl, hc, rfl⟩
      obtain ⟨l3, hl3⟩ : ∃ m, m = l.take 60 := ⟨_, rfl⟩
      have HL3 : Hid (l3.length ≤ 60) := Lib.hid (by rw [hl3, List.length_take]; omega)
      rw [← hl3] at hc
      have HC := Lib.hid hc
      obtain ⟨ca, cc, rfl, _⟩ := hc
      clear hl3
      go_wp2_with fail
      refine (Of_any _ l3 _ wc HC.out (by have := HL3.out; omega)).mono ?_
      rintro e v2 ⟨gj, rfl, hg2, hg2', hi2, hk2⟩
      have HI2 := Lib.hid hi2
      have HKv := Lib.hid (HKc.out.trans hk2 (fun _ _ h => h))
      have HC2 := Lib.hid (HC.out.kept hk2 (fun _ _ h => h))
      have HG2 := Lib.hid hg2'
      have HG2a := Lib.hid (show w.heap.size ≤ gj by have := HKc.out.size; omega)
      clear hi2 hk2 hg2 hg2'
      go_wp2_with fail
      refine (CGet_any v2 gj _ ⟨l3, 0⟩ HI2.out (fun i hi => by have := HG2.out; have := hi.2; omega)).mono ?_
      obtain ⟨⟨sl, se⟩, M, er, hrs⟩ : ∃ (s' : ISt) (M : Cf) (er : Int), readC ⟨l3, 0⟩ = (s', M, er) := ⟨_, _, _, rfl⟩
      rintro e v3 ⟨yv, rfl, hi3, hy3, hk3⟩
      rw [hrs] at hi3 hy3 ⊢
      simp only at hi3 hy3 ⊢
      have HRC := Lib.hid hrs
      obtain ⟨ma, mc, rfl⟩ := hy3.form9
      have HI3 := Lib.hid hi3
      have HM3 := Lib.hid hy3
      have HKx := Lib.hid (HKv.out.trans hk3 (fun i hi h => by have h' : i = gj := h; have := HG2a.out; omega))
      have HC3 := Lib.hid (HC2.out.kept hk3 (fun i hi h => by have h' : i = gj := h; have hi' : i < w.heap.size := hi; have := HG2a.out; omega))
      have HYA3 := Lib.hid (heap_alloc_new v3 (.cells #[.int .i64 M.ch, .int .u64 M.ep, .slice ma M.ns.length mc, .bool M.fr, .int .i64 M.jn] 25))
      obtain ⟨v4, hv4⟩ : ∃ x, x = v3.alloc (.cells #[.int .i64 M.ch, .int .u64 M.ep, .slice ma M.ns.length mc, .bool M.fr, .int .i64 M.jn] 25) := ⟨_, rfl⟩
      have HK34 : Hid (Kept NoB v3 v4) := Lib.hid (by rw [hv4]; exact (Kept.refl _ _).alloc _)
      have HV4 := Lib.hid hv4
      obtain ⟨ma2, hma2⟩ : ∃ y, y = v3.heap.size := ⟨_, rfl⟩
      have HMB := Lib.hid hma2
      rw [← hv4, ← hma2] at HYA3
      have HI4 := Lib.hid (HI3.out.kept HK34.out (fun _ _ h => h) (fun h => h))
      have HC4 := Lib.hid (HC3.out.kept HK34.out (fun _ _ h => h))
      have HKy := Lib.hid (HKx.out.trans HK34.out (fun _ _ h => h))
      have HM4 := Lib.hid (HM3.out.kept HK34.out (fun _ _ _ h => h))
      clear hi3 hy3 hk3 hrs hv4 hma2
      go_upto_region 15 with fail
      rw [← HV4.out, ← HMB.out]
      go_wp2_with fail
      refine (RGet9_any v4 _ (fun k => k < w.heap.size) ⟨l3, 0⟩ ⟨⟨fun h => absurd rfl h, Int.le_refl _, by show (0 : Int) < 100; omega⟩, _, rfl, HC4.out⟩ (fun i hi => by have := HKy.out.size; omega)).mono ?_
      rintro e v5 ⟨ra2, rn2, rc2, zv, rfl, hi5, hz5, hk5⟩
      rw [HRC.out] at hi5 hz5 ⊢
      simp only at hi5 hz5 ⊢
      have hrn := hi5.len
      simp only at hrn
      subst hrn
      obtain ⟨za, zc, rfl⟩ := hz5.form9
      have HZ5 := Lib.hid hz5
      have HYA5 := Lib.hid (hk5.heap (fun h => h) HYA3.out)
      have HI5 := Lib.hid (HI4.out.kept hk5 (fun _ _ h => h) (fun h => h))
      have HKz := Lib.hid (HKy.out.trans hk5 (fun _ _ h => h))
      have HM5 := Lib.hid (HM4.out.kept hk5 (fun _ _ _ h => h))
      have hj1 := balloc9 (heap_alloc_new v5 (.cells #[.slice ra2 sl.length rc2, .int .i64 se] 46)) (.cells #[.int .i64 M.ch, .int .u64 M.ep, .slice za M.ns.length zc, .bool M.fr, .int .i64 M.jn] 25)
      have hj2 := heap_alloc_new (v5.alloc (.cells #[.slice ra2 sl.length rc2, .int .i64 se] 46)) (.cells #[.int .i64 M.ch, .int .u64 M.ep, .slice za M.ns.length zc, .bool M.fr, .int .i64 M.jn] 25)
      rw [show (v5.alloc (.cells #[.slice ra2 sl.length rc2, .int .i64 se] 46)).heap.size = v5.heap.size + 1 by simp] at hj2
      obtain ⟨v6, hv6⟩ : ∃ x, x = (v5.alloc (.cells #[.slice ra2 sl.length rc2, .int .i64 se] 46)).alloc (.cells #[.int .i64 M.ch, .int .u64 M.ep, .slice za M.ns.length zc, .bool M.fr, .int .i64 M.jn] 25) := ⟨_, rfl⟩
      have HV6 := Lib.hid hv6
      rw [← hv6] at hj1 hj2
      have HJ1 := Lib.hid hj1
      have HJ2 := Lib.hid hj2
      have HK56 : Hid (Kept NoB v5 v6) := Lib.hid (by rw [hv6]; exact ((Kept.refl _ _).alloc _).alloc _)
      clear hi5 hz5 hk5 hj1 hj2 hv6
      go_upto_region 16 with fail
      rw [← HV6.out]
      go_wp2_with fail
      refine (CGet_nil v6).mono ?_
      rintro e v7 ⟨rfl, hk7⟩
      have HK67 := Lib.hid hk7
      clear hk7
      have HK78 := Lib.hid ((Kept.refl NoB v7).alloc (.cells #[.int .i64 0, .int .u64 0, .slice none 0 0, .bool false, .int .i64 0] 25))
      obtain ⟨v8, hv8⟩ : ∃ x, x = v7.alloc (.cells #[.int .i64 0, .int .u64 0, .slice none 0 0, .bool false, .int .i64 0] 25) := ⟨_, rfl⟩
      have HV8 := Lib.hid hv8
      rw [← hv8] at HK78
      clear hv8
      go_upto_region 17 with fail
      rw [← HV8.out]
      have HK58 := Lib.hid ((HK56.out.trans HK67.out (fun _ _ h => h)).trans HK78.out (fun _ _ h => h))
      have HKw8 := Lib.hid (HKz.out.trans HK58.out (fun _ _ h => h))
      have HK68 := Lib.hid (HK67.out.trans HK78.out (fun _ _ h => h))
      have HSAM := Lib.hid (fun w' (hk : Kept NoB v8 w') => (sameC_self9 M) ▸ RSame_any _ _ M M _ _ w' (HM5.out.kept (HK58.out.trans hk (fun _ _ h => h)) (fun _ _ _ h => h)) (HZ5.out.kept (HK58.out.trans hk (fun _ _ h => h)) (fun _ _ _ h => h)))
      have HLEF := Lib.hid (fun w' (hk : Kept NoB v8 w') => (Left_any gj ⟨sl, se⟩ _ w' (HI5.out.kept (HK58.out.trans hk (fun _ _ h => h)) (fun _ _ h => h) (fun h => h))).mono fun e w'' h => show e = .returned (.int .i64 sl.length) ∧ Kept NoB w' w'' from ⟨h.1, by rw [← h.2]; exact Kept.refl _ _⟩)
      have HAW := Lib.hid (fun w' (hk : Kept NoB v8 w') => HA.out w' (HKw8.out.trans hk (fun _ _ h => h)))
      have HTEN : Hid (∀ w', Kept NoB v8 w' → ((w'.cell? ⟨ma2, 0, none⟩ = some (.int .i64 M.ch) ∧ w'.cell? ⟨ma2, 1, none⟩ = some (.int .u64 M.ep) ∧ w'.cell? ⟨ma2, 2, none⟩ = some (.slice ma M.ns.length mc) ∧ w'.cell? ⟨ma2, 3, none⟩ = some (.bool M.fr) ∧ w'.cell? ⟨ma2, 4, none⟩ = some (.int .i64 M.jn)) ∧ (w'.cell? ⟨v5.heap.size + 1, 0, none⟩ = some (.int .i64 M.ch) ∧ w'.cell? ⟨v5.heap.size + 1, 1, none⟩ = some (.int .u64 M.ep) ∧ w'.cell? ⟨v5.heap.size + 1, 2, none⟩ = some (.slice za M.ns.length zc) ∧ w'.cell? ⟨v5.heap.size + 1, 3, none⟩ = some (.bool M.fr) ∧ w'.cell? ⟨v5.heap.size + 1, 4, none⟩ = some (.int .i64 M.jn)) ∧ w'.cell? ⟨v5.heap.size, 0, none⟩ = some (.slice ra2 sl.length rc2))) := Lib.hid (fun w' hk =>
        ⟨cells5 ((HK58.out.trans hk (fun _ _ h => h)).heap (fun h => h) HYA5.out), cells5 ((HK68.out.trans hk (fun _ _ h => h)).heap (fun h => h) HJ2.out), (cells2i ((HK68.out.trans hk (fun _ _ h => h)).heap (fun h => h) HJ1.out)).1⟩)
      have hee : (er == er) = true := by simp
      have hll : ((sl.length : Int) == (sl.length : Int)) = true := by simp
      have HKe := Lib.hid (Kept.refl NoB v8).drew
      have HT := Lib.hid (HTEN.out _ HKe.out)
      go_region_held3 (fun w' => ((w'.cell? ⟨ma2, 0, none⟩ = some (.int .i64 M.ch) ∧ w'.cell? ⟨ma2, 1, none⟩ = some (.int .u64 M.ep) ∧ w'.cell? ⟨ma2, 2, none⟩ = some (.slice ma M.ns.length mc) ∧ w'.cell? ⟨ma2, 3, none⟩ = some (.bool M.fr) ∧ w'.cell? ⟨ma2, 4, none⟩ = some (.int .i64 M.jn)) ∧ (w'.cell? ⟨v5.heap.size + 1, 0, none⟩ = some (.int .i64 M.ch) ∧ w'.cell? ⟨v5.heap.size + 1, 1, none⟩ = some (.int .u64 M.ep) ∧ w'.cell? ⟨v5.heap.size + 1, 2, none⟩ = some (.slice za M.ns.length zc) ∧ w'.cell? ⟨v5.heap.size + 1, 3, none⟩ = some (.bool M.fr) ∧ w'.cell? ⟨v5.heap.size + 1, 4, none⟩ = some (.int .i64 M.jn)) ∧ w'.cell? ⟨v5.heap.size, 0, none⟩ = some (.slice ra2 sl.length rc2)))
        (with_reducible exact HT.out)
        (first
          | (go_at_call 14; (with_reducible refine (HSAM.out _ HKe.out).mono ?_); rintro e z ⟨rfl, hkz⟩; replace HKe := Lib.hid (HKe.out.trans hkz (fun _ _ h => h)); replace HT := Lib.hid (HTEN.out _ HKe.out); clear hkz)
          | (go_at_call 17; (with_reducible refine (HLEF.out _ HKe.out).mono ?_); rintro e z ⟨rfl, hkz⟩; replace HKe := Lib.hid (HKe.out.trans hkz (fun _ _ h => h)); replace HT := Lib.hid (HTEN.out _ HKe.out); clear hkz)
          | (go_at_call 5; (with_reducible refine (HAW.out _ HKe.out).mono ?_); rintro e z ⟨rfl, hkz⟩; replace HKe := Lib.hid (HKe.out.trans hkz (fun _ _ h => h)); replace HT := Lib.hid (HTEN.out _ HKe.out); clear hkz)
          | fail)
      go_wp2_with fail
      go_ret
      exact ⟨rfl, HKw8.out.trans HKe.out (fun _ _ h => h)⟩
  · rw [decide_eq_false hg] at HO
    clear hc hn hu ht hg hW hV h0 h1
    go_enter Tryd.func3, Tryd.ntmps3
    go_upto_region 1 with fail
    rw [← HWW.out]
    go_wp2_with fail
    rw [← HVV.out]
    refine (HO.out V HK2.out W.heap.size _ HB2.out).mono ?_
    rintro e w1 ⟨rfl, rfl⟩
    go_wp2_with fail
    refine (HA.out V HK2.out).mono ?_
    rintro e w2 ⟨rfl, hk⟩
    have HKE := Lib.hid (HK2.out.trans hk (fun _ _ h => h))
    clear hk
    go_wp2_with fail
    go_ret
    exact ⟨rfl, HKE.out⟩
end Go.Proofs.YtbdenjmnohhhiaaDoor
namespace Go.Proofs.YtbdenjmnohhhiaaDoor
open Go.ChangeShapes Go.WideShapes Go.ChangeAt Go.RowKit Go.Deep
open Go.ChangeMaps (open_string shut_string)
set_option linter.unusedVariables false

set_option maxRecDepth 100000 in
theorem confBytes_lifted (os : Os) (started : os.Started) (H : Type) (enc : TypeId × Value → H) :
    ReturnsInHanded {} Tryd.checked os 3 .any (fun w args => (Rows.confBytesSpec.pre enc Tryd.prog Tryd.f3 [] false w args ∧ laidMetH Tryd.prog Rows.confBytesRow.laid w) ∧ sizedMet enc Tryd.prog Tryd.f3 (OpenSpec.ofChange Rows.confBytesSpec) false w args)
      (Rows.confBytesSpec.post enc Tryd.prog Tryd.f3 false true false false) := by
  refine returns_and_shaped (C := Tryd.checked) (X := fun w _ => laidMetH Tryd.prog Rows.confBytesRow.laid w) (fun _ _ _ hh h => h.of_heap hh) own_knob started (by kernel_rfl) Tryd.func3
    (ChangeSpec.witness_shaped (enc := enc) (C := Tryd.checked) (os := os) (X := fun w _ => laidMetH Tryd.prog Rows.confBytesRow.laid w) false (World.laidAll Tryd.prog os Rows.confBytesRow.laid) #[.agg #[.int .i64 0, .int .u64 0, .slice none 0 0, .bool false, .int .i64 0], .slice none 0 0] 8 (World.laidAll_os _ _ _)
      (World.shaped_of_ZipB (by kernel_rfl) (by kernel_rfl)) (by kernel_rfl) (by kernel_rfl) (by kernel_rfl)
      (by rw [MakeChecks.laidMetH_plain _ _ _ (by kernel_rfl)]; exact laidMet_laidAll _ (by kernel_rfl) (by kernel_rfl))) ?_
  intro W base args ds gs before hval0 hW hL0 hsh
  have hL : laidMet Tryd.prog Rows.confBytesRow.laid W := by rw [MakeChecks.laidMetH_plain _ _ _ (by kernel_rfl)] at hL0; exact hL0
  have hval : ∀ (j : Nat) t v, Tryd.f3.params[j]? = some t → args[j]? = some v → Value.okWide Tryd.prog W .any base t v := hval0
  have hW' := hW
  obtain ⟨p, q, hA0, hV, rfl, _, _⟩ := hW
  have hA : DataW.TrodAll enc Tryd.prog W 0 (fun _ => true) true Tryd.f3.params.toList args.toList ds p := hA0
  rw [Tryd.params3] at hA hval
  obtain ⟨v0, vs0, d0, ds0, p0, q0, hargs, rfl, rfl, h0, r0⟩ := trodAll_cons hA
  obtain ⟨v1, vs1, d1, ds1, p1, q1, rfl, rfl, rfl, h1, r1⟩ := trodAll_cons r0
  obtain ⟨rfl, rfl, rfl⟩ := trodAll_nil r1
  obtain rfl : args = #[v0, v1] := by cases args; simp_all
  obtain ⟨rfl, rfl⟩ := trodVars_none hV
  have k0 := h0
  have lt0 : ∀ x ∈ p0, x.block < W.heap.size := by obtain ⟨m, hm⟩ := k0; exact DataW.trod_lt m _ _ _ hm
  obtain ⟨l0, b0⟩ := cf_open (hval 0 25 v0 rfl rfl) h0
  have k1 := h1
  have lt1 : ∀ x ∈ p1, x.block < W.heap.size := by obtain ⟨m, hm⟩ := k1; exact DataW.trod_lt m _ _ _ hm
  obtain ⟨a1, len1, cap1, rfl⟩ := okWide_slice Tryd.underlying26 (hval 1 26 v1 rfl rfl)
  obtain ⟨l1, b1⟩ := bsl_open9 h1
  clear hA0 hval0
  refine (ConfBytes_any _ _ l0 l1 W b0 b1 (tab9_of hL)).mono fun e W' ⟨he, hk⟩ => ?_
  have bel : Below W.heap.size W W' := hk.below (Nat.le_refl _) (fun _ _ h => h)
  subst he
  exact ⟨_, rfl, _, _, _, [], _, [], hW', trodAll_mk1 (shut_bool Tryd.underlying4 _), (trodAll_cons_mk (Below.trod laid_out (by kernel_rfl) (of_decide_eq_true (by kernel_rfl)) k0 bel lt0) (trodAll_cons_mk (Below.trod laid_out (by kernel_rfl) (of_decide_eq_true (by kernel_rfl)) k1 bel lt1) trodAll_mk0)), rfl, bel.frame _, fun h => by cases h⟩

theorem confBytes_row : Rows.ConfBytesSaid :=
  OpenClaim.holds_of_wide 3 Tryd.f3 rfl rfl rfl rfl rfl rfl rfl ⟨rfl, rfl, rfl, rfl, rfl⟩ rfl rfl rfl rfl rfl (by kernel_rfl) Tryd.func3 (by kernel_rfl)
    (of_decide_eq_true (by kernel_rfl)) (by unfold Func.isWrapper; first | (rw [if_pos (by decide +kernel)]; kernel_rfl) | (rw [if_neg (by decide +kernel)]; exact ⟨rfl, rfl⟩))
    (fun os started H enc _ => confBytes_lifted os started H enc)
theorem confBytes_holds : Rows.ConfBytesCardSaid :=
  Claim7.holds_tied_plain_at .later [] [.data, .data, .data] true Rows.confBytesCard.stood.harness false
    confBytes_row (fun _ h => by cases h) (by kernel_rfl) (fun _ h => by cases h) confBytes_row_tie rfl ⟨rfl, rfl⟩ (by kernel_rfl) rfl
    (fun f fn hf hfn => by
      obtain rfl : f = 3 := Option.some.inj ((show Tryd.prog.funcNamed "catenary/catenarylaw09.ConfBytes" = some 3 by kernel_rfl).symm.trans hf) |>.symm
      obtain rfl : fn = Tryd.f3 := (Option.some.inj (Tryd.func3.symm.trans hfn)).symm
      exact ⟨by kernel_rfl, fun j t ht => by
        rw [Tryd.params3] at ht
        have hm : t ∈ [25, 26] := by simpa using Array.mem_of_getElem? ht
        have hall : ([25, 26].all fun u => !Tryd.prog.wantsStandIn u) = true := by kernel_rfl
        exact (show Tryd.prog.wantsStandIn t = false by simpa using List.all_eq_true.1 hall t hm)⟩)
    (by kernel_rfl)
#print axioms confBytes_holds
end Go.Proofs.YtbdenjmnohhhiaaDoor
