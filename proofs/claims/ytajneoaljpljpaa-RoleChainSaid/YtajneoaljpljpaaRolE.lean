/-
  The chapter's Of; Of of the program.
-/
import Derived.Test.YtajneoaljpljpaaRolD
namespace Go.Proofs.Ytajneoaljpljpaa
open Go.RowKit
set_option linter.unusedVariables false
set_option linter.unusedSimpArgs false

set_option maxRecDepth 100000 in
set_option maxHeartbeats 1000000 in
theorem Of19 (v : Value) (c : Cf) (n : Int) (F : Nat → Prop) (w : World) (h : CfR w F v c) : Calls Try.prog 7 #[v, .int .i64 n] w (RlE (rlOf c n) w) := by
  have HD : Hid (rlOf c n = if rgtB c = true then (if n ∈ c.ns then insR c (plc c.ns n) else if n ≠ 0 ∧ n = c.jn then joinR c else rl0) else rl0) := Lib.hid rfl
  have HL : Hid (rgtB c = true → c.ns.length ≤ 1000) := Lib.hid (fun h => by have := (rgt_of h).2.2.2.2.1; omega)
  have HR := Lib.hid (fun w' (hk : Kept NoB w w') => Right19 _ c F w' (h.no hk))
  have HT := Lib.hid (fun w' (hk : Kept NoB w w') => Tail19 _ c F w' (h.no hk))
  have HIN := Lib.hid (fun w' (hk : Kept NoB w w') hl k hk2 => inside_any _ c k F w' (h.no hk) hl hk2)
  obtain ⟨u, rfl, hn, h0, htop⟩ := id h
  obtain ⟨a, cap, rfl, hn1, hn2, _⟩ := id hn
  unfold maxLen at hn2
  have HI := Lib.hid (fun w' (hk : Kept NoB w w') => IndexP_any _ c.ns n F w' (hn.kept hk (fun _ _ _ h => h)))
  obtain ⟨W, hW⟩ : ∃ W, W = (w.alloc (.cells #[.int .i64 c.ch, .int .u64 c.ep, .slice a c.ns.length cap, .bool c.fr, .int .i64 c.jn] 25)).alloc (.cells #[.bool false, .bool false, .bool false, .bool false, .bool false, .int .i64 0, .int .i64 0, .int .i64 0] 29) := ⟨_, rfl⟩
  have HB : Hid (W.heap[w.heap.size]? = some (.cells #[.int .i64 c.ch, .int .u64 c.ep, .slice a c.ns.length cap, .bool c.fr, .int .i64 c.jn] 25 (0, 0))) := Lib.hid (by rw [hW]; exact ((Kept.refl NoB _).alloc _).heap (fun h => h) (heap_alloc_new w _))
  have HO : Hid (W.heap[w.heap.size + 1]? = some (.cells #[.bool false, .bool false, .bool false, .bool false, .bool false, .int .i64 0, .int .i64 0, .int .i64 0] 29 (0, 0))) := Lib.hid (by
    have := heap_alloc_new (w.alloc (.cells #[.int .i64 c.ch, .int .u64 c.ep, .slice a c.ns.length cap, .bool c.fr, .int .i64 c.jn] 25)) (.cells #[.bool false, .bool false, .bool false, .bool false, .bool false, .int .i64 0, .int .i64 0, .int .i64 0] 29)
    rw [show (w.alloc (.cells #[.int .i64 c.ch, .int .u64 c.ep, .slice a c.ns.length cap, .bool c.fr, .int .i64 c.jn] 25)).heap.size = w.heap.size + 1 by simp] at this
    rw [hW]; exact this)
  have HK : Hid (Kept NoB w W) := Lib.hid (by rw [hW]; exact ((Kept.refl _ _).alloc _).alloc _)
  have HW := Lib.hid hW
  have HTN : Hid (rgtB c = true → tailN c = lastN c) := Lib.hid (fun h => by unfold tailN; rw [if_pos h])
  have HJ : Hid (joinR c = ⟨false, true, false, false, true, 0, lastN c, 0⟩) := Lib.hid rfl
  have HM : Hid (n ∈ c.ns → plc c.ns n < c.ns.length) := Lib.hid (fun h => plc_lt h)
  have HZ : Hid (rgtB c = true → n = 0 → n ∉ c.ns) := Lib.hid (fun h e => by subst e; exact zero_not h)
  obtain ⟨r, hr⟩ : ∃ r, r = rgtB c := ⟨_, rfl⟩
  rw [← hr] at HR HD HL HTN HZ
  obtain ⟨R, hR⟩ : ∃ R, R = rlOf c n := ⟨_, rfl⟩
  rw [← hR] at HD ⊢
  clear h hn hr hR hW h0 htop
  go_enter Try.func7, Try.ntmps7
  go_wp2_with fail
  rw [← HW.out]
  refine (HR.out _ HK.out).mono ?_
  rintro e w1 ⟨rfl, hk⟩
  have HK1 := Lib.hid (HK.out.trans hk (fun _ _ h => h))
  have HB1 := Lib.hid (hk.heap (fun h => h) HB.out)
  have HO1 := Lib.hid (hk.heap (fun h => h) HO.out)
  obtain ⟨c0, c1, c2, c3, c4⟩ := cells5 HB1.out
  obtain ⟨r0, r1, r2, r3, r4, r5, r6, r7⟩ := cells8 HO1.out
  have z1 := frz HO1.out
  clear hk
  cases r with
  | false =>
    have HE : Hid (R = rl0) := Lib.hid (by rw [HD.out]; rfl)
    go_wp2
    have hfin := rl_cells rl0 HO1.out
    have hkf := rl_kept rl0 HK1.out (b := w.heap.size + 1) (by omega)
    unfold rl0 at hfin hkf
    simp only at hfin hkf
    clear r0 r1 r2 r3 r4 r5 r6 r7 z1 c0 c1 c2 c3 c4
    generalize hW : World.setCell _ _ _ = W3 at hfin hkf ⊢
    obtain ⟨r0, r1, r2, r3, r4, r5, r6, r7⟩ := cells8 hfin
    exact bodyPost_ret (v := rlV rl0) (by simp [results, Try.results7, go_sem, r0, r1, r2, r3, r4, r5, r6, r7, rlV, rl0]) rfl ⟨by rw [HE.out], hkf⟩
  | true =>
    go_wp2_with fail
    refine (HI.out _ HK1.out).mono ?_
    rintro e w2 ⟨rfl, rfl⟩
    by_cases hm : n ∈ c.ns
    · have hpl := HM.out hm
      have HE : Hid (R = insR c (plc c.ns n)) := Lib.hid (by rw [HD.out, if_pos (by trivial), if_pos hm])
      rw [if_pos hm]
      obtain ⟨k, hk⟩ : ∃ k, k = plc c.ns n := ⟨_, rfl⟩
      rw [← hk] at hpl HE ⊢
      have hk0 : (0 : Int) ≤ (k : Int) := by omega
      clear hk hm
      go_wp2_with fail
      refine (HIN.out _ HK1.out (HL.out (by trivial)) k hpl).mono ?_
      rintro e w2 ⟨rfl, hk2⟩
      have HK2 := Lib.hid (HK1.out.trans hk2 (fun _ _ h => h))
      have HO2 := Lib.hid (hk2.heap (fun h => h) HO1.out)
      clear r0 r1 r2 r3 r4 r5 r6 r7 z1 c0 c1 c2 c3 c4 hk2
      obtain ⟨r0, r1, r2, r3, r4, r5, r6, r7⟩ := cells8 HO2.out
      have z1 := frz HO2.out
      obtain ⟨y, hy⟩ : ∃ y, y = insR c k := ⟨_, rfl⟩
      rw [← hy] at HE ⊢
      clear hy
      obtain ⟨y0, y1, y2, y3, y4, y5, y6, y7⟩ := y
      unfold rlV
      simp only
      go_wp2
      have hfin := rl_cells ⟨y0, y1, y2, y3, y4, y5, y6, y7⟩ HO2.out
      have hkf := rl_kept ⟨y0, y1, y2, y3, y4, y5, y6, y7⟩ HK2.out (b := w.heap.size + 1) (by omega)
      simp only at hfin hkf
      clear r0 r1 r2 r3 r4 r5 r6 r7 z1
      generalize hW : World.setCell _ _ _ = W3 at hfin hkf ⊢
      obtain ⟨r0, r1, r2, r3, r4, r5, r6, r7⟩ := cells8 hfin
      exact bodyPost_ret (v := rlV ⟨y0, y1, y2, y3, y4, y5, y6, y7⟩) (by simp [results, Try.results7, go_sem, r0, r1, r2, r3, r4, r5, r6, r7, rlV]) rfl ⟨by rw [HE.out], hkf⟩
    · rw [if_neg hm]
      by_cases hz : n = 0
      · have HE : Hid (R = rl0) := Lib.hid (by rw [HD.out, if_pos (by trivial), if_neg hm, if_neg (by intro h; exact h.1 hz)])
        subst hz
        clear hm
        go_wp2
        have hfin := rl_cells rl0 HO1.out
        have hkf := rl_kept rl0 HK1.out (b := w.heap.size + 1) (by omega)
        unfold rl0 at hfin hkf
        simp only at hfin hkf
        clear r0 r1 r2 r3 r4 r5 r6 r7 z1 c0 c1 c2 c3 c4
        generalize hW : World.setCell _ _ _ = W3 at hfin hkf ⊢
        obtain ⟨r0, r1, r2, r3, r4, r5, r6, r7⟩ := cells8 hfin
        exact bodyPost_ret (v := rlV rl0) (by simp [results, Try.results7, go_sem, r0, r1, r2, r3, r4, r5, r6, r7, rlV, rl0]) rfl ⟨by rw [HE.out], hkf⟩
      · have hz1 : (n == 0) = false := beq_eq_false_iff_ne.2 hz
        have hz2 : (n != 0) = true := by simpa using hz
        by_cases hj : n = c.jn
        · have HE : Hid (R = ⟨false, true, false, false, true, 0, lastN c, 0⟩) := Lib.hid (by rw [HD.out, if_pos (by trivial), if_neg hm, if_pos ⟨hz, hj⟩, HJ.out])
          have hj1 : (n == c.jn) = true := by simpa using hj
          have HTN1 := Lib.hid (HTN.out (by trivial))
          have HTA := Lib.hid (HT.out w1 HK1.out)
          rw [HTN1.out] at HTA
          obtain ⟨q, hq⟩ : ∃ q, q = lastN c := ⟨_, rfl⟩
          rw [← hq] at HTA HE
          clear hm hz hj hq HTN1
          go_wp2_with fail
          refine HTA.out.mono ?_
          rintro e w2 ⟨rfl, hk2⟩
          have HK2 := Lib.hid (HK1.out.trans hk2 (fun _ _ h => h))
          have HO2 := Lib.hid (hk2.heap (fun h => h) HO1.out)
          clear r0 r1 r2 r3 r4 r5 r6 r7 z1 c0 c1 c2 c3 c4 hk2
          obtain ⟨r0, r1, r2, r3, r4, r5, r6, r7⟩ := cells8 HO2.out
          have z1 := frz HO2.out
          go_wp2
          have hfin := rl_cells ⟨false, true, false, false, true, 0, q, 0⟩ HO2.out
          have hkf := rl_kept ⟨false, true, false, false, true, 0, q, 0⟩ HK2.out (b := w.heap.size + 1) (by omega)
          simp only at hfin hkf
          clear r0 r1 r2 r3 r4 r5 r6 r7 z1
          generalize hW : World.setCell _ _ _ = W3 at hfin hkf ⊢
          obtain ⟨r0, r1, r2, r3, r4, r5, r6, r7⟩ := cells8 hfin
          exact bodyPost_ret (v := rlV ⟨false, true, false, false, true, 0, q, 0⟩) (by simp [results, Try.results7, go_sem, r0, r1, r2, r3, r4, r5, r6, r7, rlV]) rfl ⟨by rw [HE.out], hkf⟩
        · have HE : Hid (R = rl0) := Lib.hid (by rw [HD.out, if_pos (by trivial), if_neg hm, if_neg (by intro h; exact hj h.2)])
          have hj1 : (n == c.jn) = false := beq_eq_false_iff_ne.2 hj
          clear hm hz hj
          go_wp2
          have hfin := rl_cells rl0 HO1.out
          have hkf := rl_kept rl0 HK1.out (b := w.heap.size + 1) (by omega)
          unfold rl0 at hfin hkf
          simp only at hfin hkf
          clear r0 r1 r2 r3 r4 r5 r6 r7 z1 c0 c1 c2 c3 c4
          generalize hW : World.setCell _ _ _ = W3 at hfin hkf ⊢
          obtain ⟨r0, r1, r2, r3, r4, r5, r6, r7⟩ := cells8 hfin
          exact bodyPost_ret (v := rlV rl0) (by simp [results, Try.results7, go_sem, r0, r1, r2, r3, r4, r5, r6, r7, rlV, rl0]) rfl ⟨by rw [HE.out], hkf⟩
end Go.Proofs.Ytajneoaljpljpaa
