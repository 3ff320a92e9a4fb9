/-
  The chapter's Of.
-/
import Derived.Test.YtajneoaljpljpaaRolE
import Derived.Deep.Cut
namespace Go.Proofs.Ytajneoaljpljpaa
open Go.RowKit
set_option linter.unusedVariables false
set_option linter.unusedSimpArgs false

theorem bset_o19 {w : World} {g k : Nat} {o : Obj} (h : w.heap[g]? = some o) (i : Nat) (u : Value) (hk : ¬ k = g) : (w.setCell ⟨k, i, none⟩ u).heap[g]? = some o := by simp [World.setCell, Array.getElem?_modify, h, hk]
theorem bset19 {w : World} {g : Nat} {cs : Array Value} {t : TypeId} {fr : Nat × Nat} (h : w.heap[g]? = some (.cells cs t fr)) (i : Nat) (u : Value) : (w.setCell ⟨g, i, none⟩ u).heap[g]? = some (.cells (cs.setIfInBounds i u) t fr) := by simp [World.setCell, Array.getElem?_modify, h]
theorem balloc19 {w : World} {g : Nat} {o : Obj} (h : w.heap[g]? = some o) (x : Obj) : (w.alloc x).heap[g]? = some o := (heap_alloc_old w x (heap_lt h)).trans h
theorem rl_two {w : World} {b : Nat} {t : TypeId} {x0 x1 x2 x3 x4 x5 x6 x7 y z : Value} (h : w.heap[b]? = some (.cells #[x0, x1, x2, x3, x4, x5, x6, x7] t (0, 0))) :
    ((w.setCell ⟨b, 6, none⟩ y).setCell ⟨b, 7, none⟩ z).heap[b]? = some (.cells #[x0, x1, x2, x3, x4, x5, y, z] t (0, 0)) := by
  simp [World.setCell, Array.getElem?_modify, h]
set_option maxRecDepth 100000 in
set_option maxHeartbeats 2000000 in
theorem ROf19 (v : Value) (c : Cf) (n : Int) (F : Nat → Prop) (w : World) (h : CfR w F v c) : Calls Try.prog 8 #[v, .int .i64 n] w (RlE (rlOf c n) w) := by
  have HD : Hid (rlOf c n = if rgtB c = true then (if n ∈ c.ns then insR c (plc c.ns n) else if n ≠ 0 ∧ n = c.jn then joinR c else rl0) else rl0) := Lib.hid rfl
  have HL : Hid (rgtB c = true → 1 ≤ c.ns.length ∧ c.ns.length ≤ 5) := Lib.hid (fun h => by have := (rgt_of h).2.2.2; exact ⟨this.1, this.2.1⟩)
  have HR := Lib.hid (fun w' (hk : Kept NoB w w') => RRight19 _ c F w' (h.no hk))
  obtain ⟨u, rfl, hn, h0, htop⟩ := id h
  obtain ⟨a, cap, rfl, hn1, hn2, _⟩ := id hn
  unfold maxLen at hn2
  have HN := Lib.hid (fun w' (hk : Kept NoB w w') => hn.kept hk (fun _ _ _ h => h))
  obtain ⟨W, hW⟩ : ∃ W, W = (w.alloc (.cells #[.int .i64 c.ch, .int .u64 c.ep, .slice a c.ns.length cap, .bool c.fr, .int .i64 c.jn] 25)).alloc (.cells #[.bool false, .bool false, .bool false, .bool false, .bool false, .int .i64 0, .int .i64 0, .int .i64 0] 28) := ⟨_, rfl⟩
  have HB : Hid (W.heap[w.heap.size]? = some (.cells #[.int .i64 c.ch, .int .u64 c.ep, .slice a c.ns.length cap, .bool c.fr, .int .i64 c.jn] 25 (0, 0))) := Lib.hid (by rw [hW]; exact ((Kept.refl NoB _).alloc _).heap (fun h => h) (heap_alloc_new w _))
  have HO : Hid (W.heap[w.heap.size + 1]? = some (.cells #[.bool false, .bool false, .bool false, .bool false, .bool false, .int .i64 0, .int .i64 0, .int .i64 0] 28 (0, 0))) := Lib.hid (by
    have := heap_alloc_new (w.alloc (.cells #[.int .i64 c.ch, .int .u64 c.ep, .slice a c.ns.length cap, .bool c.fr, .int .i64 c.jn] 25)) (.cells #[.bool false, .bool false, .bool false, .bool false, .bool false, .int .i64 0, .int .i64 0, .int .i64 0] 28)
    rw [show (w.alloc (.cells #[.int .i64 c.ch, .int .u64 c.ep, .slice a c.ns.length cap, .bool c.fr, .int .i64 c.jn] 25)).heap.size = w.heap.size + 1 by simp] at this
    rw [hW]; exact this)
  have HK : Hid (Kept NoB w W) := Lib.hid (by rw [hW]; exact ((Kept.refl _ _).alloc _).alloc _)
  have HW := Lib.hid hW
  have HJN : Hid (rgtB c = true → c.jn ≠ 0 → c.jn ∉ c.ns) := Lib.hid (fun h h0 => (jn_not h h0).1)
  have HZ : Hid (rgtB c = true → n = 0 → n ∉ c.ns) := Lib.hid (fun h e => by subst e; exact zero_not h)
  have HP : Hid (∀ k, k < c.ns.length → c.ns.getD k 0 = n → n ∉ c.ns.take k → n ∈ c.ns ∧ plc c.ns n = k) := Lib.hid (fun k hk he hno => ⟨by rw [← he, getD_at hk]; exact List.getElem_mem _, plc_of hk he hno⟩)
  have HIR : Hid (∀ k, insR c k = ⟨true, false, decide (k = 0), decide (k + 1 = c.ns.length), decide (k + 1 = c.ns.length) && c.fr, k, predN c k, succN c k⟩) := Lib.hid (fun _ => rfl)
  have HPR : Hid (∀ k, predN c k = if k = 0 then 0 else c.ns.getD (k - 1) 0) := Lib.hid (fun _ => rfl)
  have HSU : Hid (∀ k, succN c k = if k + 1 = c.ns.length then c.jn else c.ns.getD (k + 1) 0) := Lib.hid (fun _ => rfl)
  have HJ : Hid (joinR c = ⟨false, true, false, false, true, 0, c.ns.getD (c.ns.length - 1) 0, 0⟩) := Lib.hid rfl
  have HTK : Hid (∀ k, k < c.ns.length → c.ns.take (k + 1) = c.ns.take k ++ [c.ns.getD k 0]) := Lib.hid (fun k hk => take_one hk)
  obtain ⟨r, hr⟩ : ∃ r, r = rgtB c := ⟨_, rfl⟩
  rw [← hr] at HR HD HL HJN HZ
  obtain ⟨R, hR⟩ : ∃ R, R = rlOf c n := ⟨_, rfl⟩
  rw [← hR] at HD ⊢
  clear h hn hr hR hW h0 htop
  go_enter Try.func8, Try.ntmps8
  go_wp2_with fail
  rw [← HW.out]
  refine (HR.out _ HK.out).mono ?_
  rintro e w1 ⟨rfl, hk⟩
  have HK1 := Lib.hid (HK.out.trans hk (fun _ _ h => h))
  have HB1 := Lib.hid (hk.heap (fun h => h) HB.out)
  have HO1 := Lib.hid (hk.heap (fun h => h) HO.out)
  obtain ⟨c0, c1, c2, c3, c4⟩ := cells5 HB1.out
  obtain ⟨r0, r1, r2, r3, r4, r5, r6, r7⟩ := cells8 HO1.out
  have z1 := frz HO1.out
  clear hk
  by_cases hrz : r = false ∨ n = 0
  · have HE : Hid (R = rl0) := Lib.hid (by
      rw [HD.out]
      rcases hrz with rfl | hz
      · rfl
      · cases r with
        | false => rfl
        | true => rw [if_pos (by trivial), if_neg (HZ.out (by trivial) hz), if_neg (fun h => h.1 hz)])
    cases r with
    | false =>
      clear hrz
      go_wp2
      have hfin := rl_cells rl0 HO1.out
      have hkf := rl_kept rl0 HK1.out (b := w.heap.size + 1) (by omega)
      unfold rl0 at hfin hkf
      simp only at hfin hkf
      clear r0 r1 r2 r3 r4 r5 r6 r7 z1 c0 c1 c2 c3 c4
      generalize hW : World.setCell _ _ _ = W3 at hfin hkf ⊢
      obtain ⟨r0, r1, r2, r3, r4, r5, r6, r7⟩ := cells8 hfin
      exact bodyPost_ret (v := rlV rl0) (by simp [results, Try.results8, go_sem, r0, r1, r2, r3, r4, r5, r6, r7, rlV, rl0]) rfl ⟨by rw [HE.out], hkf⟩
    | true =>
      obtain rfl : n = 0 := by rcases hrz with h | h; cases h; exact h
      clear hrz
      go_wp2
      have hfin := rl_cells rl0 HO1.out
      have hkf := rl_kept rl0 HK1.out (b := w.heap.size + 1) (by omega)
      unfold rl0 at hfin hkf
      simp only at hfin hkf
      clear r0 r1 r2 r3 r4 r5 r6 r7 z1 c0 c1 c2 c3 c4
      generalize hW : World.setCell _ _ _ = W3 at hfin hkf ⊢
      obtain ⟨r0, r1, r2, r3, r4, r5, r6, r7⟩ := cells8 hfin
      exact bodyPost_ret (v := rlV rl0) (by simp [results, Try.results8, go_sem, r0, r1, r2, r3, r4, r5, r6, r7, rlV, rl0]) rfl ⟨by rw [HE.out], hkf⟩
  · obtain ⟨hr1, hz⟩ : r = true ∧ n ≠ 0 := by
      refine ⟨?_, fun h => hrz (.inr h)⟩
      cases r with
      | false => exact absurd (.inl rfl) hrz
      | true => rfl
    subst hr1
    clear hrz
    have hz1 : (n == 0) = false := beq_eq_false_iff_ne.2 hz
    have hz2 : (n != 0) = true := by simpa using hz
    obtain ⟨hl1, hl5⟩ := HL.out (by trivial)
    obtain ⟨m, hm⟩ : ∃ m, m = c.ns.length - 1 := ⟨_, rfl⟩
    have hmi : (c.ns.length : Int) - 1 = (m : Int) := by omega
    have hm1 : (m : Int) < (c.ns.length : Int) := by omega
    have hm2 : m < c.ns.length := by omega
    have hml : m + 1 = c.ns.length := by omega
    have hm0 : (0 : Int) ≤ (m : Int) := by omega
    have hm5 : (m : Int) ≤ 5 := by omega
    have HMM : Hid (m = c.ns.length - 1 ∧ m + 1 = c.ns.length ∧ 1 ≤ c.ns.length ∧ c.ns.length ≤ 5) := Lib.hid ⟨hm, hml, hl1, hl5⟩
    rw [← hm] at HJ
    by_cases hj : n = c.jn
    · have HE : Hid (R = ⟨false, true, false, false, true, 0, c.ns.getD m 0, 0⟩) := Lib.hid (by rw [HD.out, if_pos (by trivial), if_neg (by rw [hj]; exact HJN.out (by trivial) (by rw [← hj]; exact hz)), if_pos ⟨hz, hj⟩, HJ.out])
      obtain ⟨b, o, rfl, _, _, hc⟩ := (HN.out _ HK1.out).at_ (j := m) hm2
      obtain ⟨q, hq⟩ : ∃ q, q = c.ns.getD m 0 := ⟨_, rfl⟩
      rw [← hq] at hc HE
      subst hj
      clear hm hq hml hl1 hl5 hm2 HJN HZ HP
      go_wp2
      have hfin := rl_cells ⟨false, true, false, false, true, 0, q, 0⟩ HO1.out
      have hkf := rl_kept ⟨false, true, false, false, true, 0, q, 0⟩ HK1.out (b := w.heap.size + 1) (by omega)
      simp only at hfin hkf
      clear r0 r1 r2 r3 r4 r5 r6 r7 z1 hc
      generalize hW : World.setCell _ _ _ = W3 at hfin hkf ⊢
      obtain ⟨r0, r1, r2, r3, r4, r5, r6, r7⟩ := cells8 hfin
      exact bodyPost_ret (v := rlV ⟨false, true, false, false, true, 0, q, 0⟩) (by simp [results, Try.results8, go_sem, r0, r1, r2, r3, r4, r5, r6, r7, rlV]) rfl ⟨by rw [HE.out], hkf⟩
    · have hj1 : (c.jn == n) = false := beq_eq_false_iff_ne.2 (fun e => hj e.symm)
      have HJ0 := Lib.hid hj
      clear hj hm hml hl1 hl5 hm2
      go_wp2_with fail
      go_loop [6] (fun i => ∃ k : Nat, i = .int .i64 k ∧ k ≤ m + 1 ∧ n ∉ c.ns.take k) (fun i => m + 1 - (intOf i).toNat)
      case atStart => exact ⟨0, rfl, Nat.zero_le _, by simp⟩
      case round =>
        obtain ⟨k, rfl, hk, hno⟩ := hrel
        have HNO := Lib.hid hno
        clear hno
        by_cases hlt : k < m + 1
        · have hk2 : k < c.ns.length := by have := HMM.out; omega
          have hkm : (k : Int) ≤ (m : Int) := by omega
          have hk1 : (k : Int) < (c.ns.length : Int) := by omega
          have hk0 : (0 : Int) ≤ (k : Int) := by omega
          have hns := HN.out _ HK1.out
          obtain ⟨b, o, rfl, _, hbl, hc⟩ := hns.at_ (j := k) hk2
          have HT := Lib.hid (HTK.out k hk2)
          have HPK := Lib.hid (HP.out k hk2)
          obtain ⟨y, hy⟩ : ∃ y, y = c.ns.getD k 0 := ⟨_, rfl⟩
          rw [← hy] at hc HT HPK
          clear hy
          by_cases he : y = n
          · subst he
            have HPL := Lib.hid (HPK.out rfl HNO.out)
            have HE : Hid (R = insR c k) := Lib.hid (by rw [HD.out, if_pos (by trivial), if_pos HPL.out.1, HPL.out.2])
            rw [HIR.out, HPR.out, HSU.out] at HE
            -- HIT
            have hne : ¬ w.heap.size + 1 = w1.heap.size := by have := heap_lt HO1.out; omega
            have hne2 : ¬ w1.heap.size = w.heap.size + 1 := fun h => hne h.symm
            have hne3 : ¬ w.heap.size = w1.heap.size := by have := heap_lt HB1.out; omega
            have hne4 : ¬ w1.heap.size = w.heap.size := fun h => hne3 h.symm
            have hnebb : ¬ b = w1.heap.size := by omega
            have hneb : ¬ w1.heap.size = b := by omega
            have hgt0 : ¬ (k : Int) < 0 := by omega
            by_cases h0 : k = 0
            · by_cases hL : k = m
              · have hh0 : (k = 0) = True := eq_true h0
                have hhL : (k + 1 = c.ns.length) = True := eq_true (by have := HMM.out; omega)
                have hz0 : ((k : Int) == 0) = true := by rw [beq_iff_eq]; omega
                have hzp : ¬ (0 : Int) < (k : Int) := by omega
                have hzd : decide ((0 : Int) < (k : Int)) = false := decide_eq_false hzp
                have hLL : ((k : Int) == (m : Int)) = true := by rw [beq_iff_eq]; omega
                have hLt : ¬ (k : Int) < (m : Int) := by omega
                have hLd : decide ((k : Int) < (m : Int)) = false := decide_eq_false hLt
                have HF : Hid (R = ⟨true, false, true, true, c.fr, k, 0, c.jn⟩) := Lib.hid (by rw [HE.out]; simp [hh0, hhL])
                clear hL hh0 hhL HE h0
                have hcA := cell_alloc hc (.cells #[.bool true, .bool false, .bool true, .bool true, .bool c.fr, .int .i64 k, .int .i64 0, .int .i64 0] 28 (0, 0))
                have c2A := cell_alloc c2 (.cells #[.bool true, .bool false, .bool true, .bool true, .bool c.fr, .int .i64 k, .int .i64 0, .int .i64 0] 28 (0, 0))
                have c3A := cell_alloc c3 (.cells #[.bool true, .bool false, .bool true, .bool true, .bool c.fr, .int .i64 k, .int .i64 0, .int .i64 0] 28 (0, 0))
                have c4A := cell_alloc c4 (.cells #[.bool true, .bool false, .bool true, .bool true, .bool c.fr, .int .i64 k, .int .i64 0, .int .i64 0] 28 (0, 0))
                have hOA : (w1.alloc (.cells #[.bool true, .bool false, .bool true, .bool true, .bool c.fr, .int .i64 k, .int .i64 0, .int .i64 c.jn] 28 (0, 0))).heap[w.heap.size + 1]? = _ := balloc19 HO1.out _
                have KK := ((Kept.refl (fun i => i = w1.heap.size) w1).alloc (.cells #[.bool true, .bool false, .bool true, .bool true, .bool c.fr, .int .i64 k, .int .i64 0, .int .i64 c.jn] 28 (0, 0)))
                have HI := Lib.hid hOA
                have HKK := Lib.hid (HK1.out.alloc (.cells #[.bool true, .bool false, .bool true, .bool true, .bool c.fr, .int .i64 k, .int .i64 0, .int .i64 c.jn] 28 (0, 0)))
                have HNN : Hid ((w1.alloc (.cells #[.bool true, .bool false, .bool true, .bool true, .bool c.fr, .int .i64 k, .int .i64 0, .int .i64 c.jn] 28 (0, 0))).heap[w1.heap.size]? = some (.cells #[.bool true, .bool false, .bool true, .bool true, .bool c.fr, .int .i64 k, .int .i64 0, .int .i64 c.jn] 28 (0, 0))) := Lib.hid (heap_alloc_new w1 (.cells #[.bool true, .bool false, .bool true, .bool true, .bool c.fr, .int .i64 k, .int .i64 0, .int .i64 c.jn] 28 (0, 0)))
                clear hOA
                have HC2 := Lib.hid (show (w1.alloc (.cells #[.bool true, .bool false, .bool true, .bool true, .bool c.fr, .int .i64 k, .int .i64 0, .int .i64 c.jn] 28 (0, 0))).cell? ⟨w.heap.size, 2, none⟩ = _ from KK.cell (p := ⟨w.heap.size, 2, none⟩) hne3 c2)
                go_upto_region 14 with fail
                obtain ⟨W5, hW5⟩ : ∃ W5, W5 = (w1.alloc (.cells #[.bool true, .bool false, .bool true, .bool true, .bool c.fr, .int .i64 k, .int .i64 0, .int .i64 c.jn] 28 (0, 0))) := ⟨_, rfl⟩
                rw [← hW5] at HI HKK HNN HC2 ⊢
                clear hW5 hc c2 c3 c4 c0 c1 hcA c2A c3A c4A r0 r1 r2 r3 r4 r5 r6 r7 z1 HT HPK HJN HZ HP HTK HIR HPR HSU
                obtain ⟨s0, s1, s2, s3, s4, s5, s6, s7⟩ := cells8 HI.out
                obtain ⟨t0, t1, t2, t3, t4, t5, t6, t7⟩ := cells8 HNN.out
                have zA := frz HI.out
                have zB := frz HNN.out
                have c2 := HC2.out
                go_wp2
                have hfin := rl_cells ⟨true, false, true, true, c.fr, k, 0, c.jn⟩ HI.out
                have hkf := rl_kept ⟨true, false, true, true, c.fr, k, 0, c.jn⟩ HKK.out (b := w.heap.size + 1) (by omega)
                simp only at hfin hkf
                clear s0 s1 s2 s3 s4 s5 s6 s7 zA zB c2 t0 t1 t2 t3 t4 t5 t6 t7
                generalize hW : World.setCell _ _ _ = W3 at hfin hkf ⊢
                obtain ⟨r0, r1, r2, r3, r4, r5, r6, r7⟩ := cells8 hfin
                exact bodyPost_ret (v := rlV ⟨true, false, true, true, c.fr, k, 0, c.jn⟩) (by simp [results, Try.results8, go_sem, r0, r1, r2, r3, r4, r5, r6, r7, rlV]) rfl ⟨by rw [HF.out], hkf⟩
              · have hh0 : (k = 0) = True := eq_true h0
                have hhL : (k + 1 = c.ns.length) = False := eq_false (by have := HMM.out; omega)
                have hz0 : ((k : Int) == 0) = true := by rw [beq_iff_eq]; omega
                have hzp : ¬ (0 : Int) < (k : Int) := by omega
                have hzd : decide ((0 : Int) < (k : Int)) = false := decide_eq_false hzp
                have hLL : ((k : Int) == (m : Int)) = false := beq_eq_false_iff_ne.2 (by omega)
                have hLt : (k : Int) < (m : Int) := by omega
                have hks1 : (k : Int) + 1 < (c.ns.length : Int) := by have := HMM.out; omega
                obtain ⟨b4, o4, e4, _, _, hcs⟩ := hns.at_ (j := k + 1) (by have := HMM.out; omega)
                injection e4 with e4
                injection e4 with e5 e6
                subst e5 e6
                obtain ⟨q, hq⟩ : ∃ q, q = c.ns.getD (k + 1) 0 := ⟨_, rfl⟩
                rw [← hq] at hcs HE
                clear hq
                have HF : Hid (R = ⟨true, false, true, false, false, k, 0, q⟩) := Lib.hid (by rw [HE.out]; simp [hh0, hhL])
                clear hL hh0 hhL HE h0
                have hcA := cell_alloc hc (.cells #[.bool true, .bool false, .bool true, .bool false, .bool false, .int .i64 k, .int .i64 0, .int .i64 0] 28 (0, 0))
                have c2A := cell_alloc c2 (.cells #[.bool true, .bool false, .bool true, .bool false, .bool false, .int .i64 k, .int .i64 0, .int .i64 0] 28 (0, 0))
                have c3A := cell_alloc c3 (.cells #[.bool true, .bool false, .bool true, .bool false, .bool false, .int .i64 k, .int .i64 0, .int .i64 0] 28 (0, 0))
                have c4A := cell_alloc c4 (.cells #[.bool true, .bool false, .bool true, .bool false, .bool false, .int .i64 k, .int .i64 0, .int .i64 0] 28 (0, 0))
                have hcsA := cell_alloc hcs (.cells #[.bool true, .bool false, .bool true, .bool false, .bool false, .int .i64 k, .int .i64 0, .int .i64 0] 28 (0, 0))
                have hOA : (w1.alloc (.cells #[.bool true, .bool false, .bool true, .bool false, .bool false, .int .i64 k, .int .i64 0, .int .i64 c.jn] 28 (0, 0))).heap[w.heap.size + 1]? = _ := balloc19 HO1.out _
                have KK := ((Kept.refl (fun i => i = w1.heap.size) w1).alloc (.cells #[.bool true, .bool false, .bool true, .bool false, .bool false, .int .i64 k, .int .i64 0, .int .i64 c.jn] 28 (0, 0)))
                have HI := Lib.hid hOA
                have HKK := Lib.hid (HK1.out.alloc (.cells #[.bool true, .bool false, .bool true, .bool false, .bool false, .int .i64 k, .int .i64 0, .int .i64 c.jn] 28 (0, 0)))
                have HNN : Hid ((w1.alloc (.cells #[.bool true, .bool false, .bool true, .bool false, .bool false, .int .i64 k, .int .i64 0, .int .i64 c.jn] 28 (0, 0))).heap[w1.heap.size]? = some (.cells #[.bool true, .bool false, .bool true, .bool false, .bool false, .int .i64 k, .int .i64 0, .int .i64 c.jn] 28 (0, 0))) := Lib.hid (heap_alloc_new w1 (.cells #[.bool true, .bool false, .bool true, .bool false, .bool false, .int .i64 k, .int .i64 0, .int .i64 c.jn] 28 (0, 0)))
                clear hOA
                have HC2 := Lib.hid (show (w1.alloc (.cells #[.bool true, .bool false, .bool true, .bool false, .bool false, .int .i64 k, .int .i64 0, .int .i64 c.jn] 28 (0, 0))).cell? ⟨w.heap.size, 2, none⟩ = _ from KK.cell (p := ⟨w.heap.size, 2, none⟩) hne3 c2)
                have HCS := Lib.hid (show (w1.alloc (.cells #[.bool true, .bool false, .bool true, .bool false, .bool false, .int .i64 k, .int .i64 0, .int .i64 c.jn] 28 (0, 0))).cell? ⟨b, o + (k + 1), none⟩ = _ from KK.cell (p := ⟨b, o + (k + 1), none⟩) hnebb hcs)
                go_upto_region 14 with fail
                obtain ⟨W5, hW5⟩ : ∃ W5, W5 = (w1.alloc (.cells #[.bool true, .bool false, .bool true, .bool false, .bool false, .int .i64 k, .int .i64 0, .int .i64 c.jn] 28 (0, 0))) := ⟨_, rfl⟩
                rw [← hW5] at HI HKK HNN HC2 HCS ⊢
                clear hW5 hc c2 c3 c4 c0 c1 hcA c2A c3A c4A r0 r1 r2 r3 r4 r5 r6 r7 z1 HT HPK HJN HZ HP HTK HIR HPR HSU hcs hcsA
                obtain ⟨s0, s1, s2, s3, s4, s5, s6, s7⟩ := cells8 HI.out
                obtain ⟨t0, t1, t2, t3, t4, t5, t6, t7⟩ := cells8 HNN.out
                have zA := frz HI.out
                have zB := frz HNN.out
                have c2 := HC2.out
                have hcs := HCS.out
                go_wp2
                have hfin := rl_cells ⟨true, false, true, false, false, k, 0, q⟩ (bset_o19 HI.out 7 (.int .i64 q) hne2)
                have hkf := rl_kept ⟨true, false, true, false, false, k, 0, q⟩ (HKK.out.setCell (p := ⟨w1.heap.size, 7, none⟩) (.inr HK1.out.size) (.int .i64 q)) (b := w.heap.size + 1) (by omega)
                simp only at hfin hkf
                clear s0 s1 s2 s3 s4 s5 s6 s7 zA zB c2 t0 t1 t2 t3 t4 t5 t6 t7
                generalize hW : World.setCell _ _ _ = W3 at hfin hkf ⊢
                obtain ⟨r0, r1, r2, r3, r4, r5, r6, r7⟩ := cells8 hfin
                exact bodyPost_ret (v := rlV ⟨true, false, true, false, false, k, 0, q⟩) (by simp [results, Try.results8, go_sem, r0, r1, r2, r3, r4, r5, r6, r7, rlV]) rfl ⟨by rw [HF.out], hkf⟩
            · by_cases hL : k = m
              · have hh0 : (k = 0) = False := eq_false h0
                have hhL : (k + 1 = c.ns.length) = True := eq_true (by have := HMM.out; omega)
                have hz0 : ((k : Int) == 0) = false := beq_eq_false_iff_ne.2 (by omega)
                have hzp : (0 : Int) < (k : Int) := by omega
                obtain ⟨kp, hkp⟩ : ∃ kp, kp = k - 1 := ⟨_, rfl⟩
                have hkpi : (k : Int) - 1 = (kp : Int) := by omega
                have hkp1 : (kp : Int) < (c.ns.length : Int) := by omega
                have hkp0 : (0 : Int) ≤ (kp : Int) := by omega
                obtain ⟨b2, o2, e2, _, _, hcp⟩ := hns.at_ (j := kp) (by omega)
                injection e2 with e2
                injection e2 with e3 e4
                subst e3 e4
                rw [← hkp] at HE
                obtain ⟨p, hp⟩ : ∃ p, p = c.ns.getD kp 0 := ⟨_, rfl⟩
                rw [← hp] at hcp HE
                clear hkp hp
                have hLL : ((k : Int) == (m : Int)) = true := by rw [beq_iff_eq]; omega
                have hLt : ¬ (k : Int) < (m : Int) := by omega
                have hLd : decide ((k : Int) < (m : Int)) = false := decide_eq_false hLt
                have HF : Hid (R = ⟨true, false, false, true, c.fr, k, p, c.jn⟩) := Lib.hid (by rw [HE.out]; simp [hh0, hhL])
                clear hL hh0 hhL HE h0
                have hcA := cell_alloc hc (.cells #[.bool true, .bool false, .bool false, .bool true, .bool c.fr, .int .i64 k, .int .i64 0, .int .i64 0] 28 (0, 0))
                have c2A := cell_alloc c2 (.cells #[.bool true, .bool false, .bool false, .bool true, .bool c.fr, .int .i64 k, .int .i64 0, .int .i64 0] 28 (0, 0))
                have c3A := cell_alloc c3 (.cells #[.bool true, .bool false, .bool false, .bool true, .bool c.fr, .int .i64 k, .int .i64 0, .int .i64 0] 28 (0, 0))
                have c4A := cell_alloc c4 (.cells #[.bool true, .bool false, .bool false, .bool true, .bool c.fr, .int .i64 k, .int .i64 0, .int .i64 0] 28 (0, 0))
                have c4B := cell_alloc c4 (.cells #[.bool true, .bool false, .bool false, .bool true, .bool c.fr, .int .i64 k, .int .i64 p, .int .i64 0] 28 (0, 0))
                have hcpA := cell_alloc hcp (.cells #[.bool true, .bool false, .bool false, .bool true, .bool c.fr, .int .i64 k, .int .i64 0, .int .i64 0] 28 (0, 0))
                have hOA : (w1.alloc (.cells #[.bool true, .bool false, .bool false, .bool true, .bool c.fr, .int .i64 k, .int .i64 p, .int .i64 c.jn] 28 (0, 0))).heap[w.heap.size + 1]? = _ := balloc19 HO1.out _
                have KK := ((Kept.refl (fun i => i = w1.heap.size) w1).alloc (.cells #[.bool true, .bool false, .bool false, .bool true, .bool c.fr, .int .i64 k, .int .i64 p, .int .i64 c.jn] 28 (0, 0)))
                have HI := Lib.hid hOA
                have HKK := Lib.hid (HK1.out.alloc (.cells #[.bool true, .bool false, .bool false, .bool true, .bool c.fr, .int .i64 k, .int .i64 p, .int .i64 c.jn] 28 (0, 0)))
                have HNN : Hid ((w1.alloc (.cells #[.bool true, .bool false, .bool false, .bool true, .bool c.fr, .int .i64 k, .int .i64 p, .int .i64 c.jn] 28 (0, 0))).heap[w1.heap.size]? = some (.cells #[.bool true, .bool false, .bool false, .bool true, .bool c.fr, .int .i64 k, .int .i64 p, .int .i64 c.jn] 28 (0, 0))) := Lib.hid (heap_alloc_new w1 (.cells #[.bool true, .bool false, .bool false, .bool true, .bool c.fr, .int .i64 k, .int .i64 p, .int .i64 c.jn] 28 (0, 0)))
                clear hOA
                have HC2 := Lib.hid (show (w1.alloc (.cells #[.bool true, .bool false, .bool false, .bool true, .bool c.fr, .int .i64 k, .int .i64 p, .int .i64 c.jn] 28 (0, 0))).cell? ⟨w.heap.size, 2, none⟩ = _ from KK.cell (p := ⟨w.heap.size, 2, none⟩) hne3 c2)
                go_upto_region 14 with fail
                obtain ⟨W5, hW5⟩ : ∃ W5, W5 = (w1.alloc (.cells #[.bool true, .bool false, .bool false, .bool true, .bool c.fr, .int .i64 k, .int .i64 p, .int .i64 c.jn] 28 (0, 0))) := ⟨_, rfl⟩
                rw [← hW5] at HI HKK HNN HC2 ⊢
                clear hW5 hc c2 c3 c4 c0 c1 hcA c2A c3A c4A r0 r1 r2 r3 r4 r5 r6 r7 z1 HT HPK HJN HZ HP HTK HIR HPR HSU hcp hcpA c4B
                obtain ⟨s0, s1, s2, s3, s4, s5, s6, s7⟩ := cells8 HI.out
                obtain ⟨t0, t1, t2, t3, t4, t5, t6, t7⟩ := cells8 HNN.out
                have zA := frz HI.out
                have zB := frz HNN.out
                have c2 := HC2.out
                go_wp2
                have hfin := rl_cells ⟨true, false, false, true, c.fr, k, p, c.jn⟩ HI.out
                have hkf := rl_kept ⟨true, false, false, true, c.fr, k, p, c.jn⟩ HKK.out (b := w.heap.size + 1) (by omega)
                simp only at hfin hkf
                clear s0 s1 s2 s3 s4 s5 s6 s7 zA zB c2 t0 t1 t2 t3 t4 t5 t6 t7
                generalize hW : World.setCell _ _ _ = W3 at hfin hkf ⊢
                obtain ⟨r0, r1, r2, r3, r4, r5, r6, r7⟩ := cells8 hfin
                exact bodyPost_ret (v := rlV ⟨true, false, false, true, c.fr, k, p, c.jn⟩) (by simp [results, Try.results8, go_sem, r0, r1, r2, r3, r4, r5, r6, r7, rlV]) rfl ⟨by rw [HF.out], hkf⟩
              · have hh0 : (k = 0) = False := eq_false h0
                have hhL : (k + 1 = c.ns.length) = False := eq_false (by have := HMM.out; omega)
                have hz0 : ((k : Int) == 0) = false := beq_eq_false_iff_ne.2 (by omega)
                have hzp : (0 : Int) < (k : Int) := by omega
                obtain ⟨kp, hkp⟩ : ∃ kp, kp = k - 1 := ⟨_, rfl⟩
                have hkpi : (k : Int) - 1 = (kp : Int) := by omega
                have hkp1 : (kp : Int) < (c.ns.length : Int) := by omega
                have hkp0 : (0 : Int) ≤ (kp : Int) := by omega
                obtain ⟨b2, o2, e2, _, _, hcp⟩ := hns.at_ (j := kp) (by omega)
                injection e2 with e2
                injection e2 with e3 e4
                subst e3 e4
                rw [← hkp] at HE
                obtain ⟨p, hp⟩ : ∃ p, p = c.ns.getD kp 0 := ⟨_, rfl⟩
                rw [← hp] at hcp HE
                clear hkp hp
                have hLL : ((k : Int) == (m : Int)) = false := beq_eq_false_iff_ne.2 (by omega)
                have hLt : (k : Int) < (m : Int) := by omega
                have hks1 : (k : Int) + 1 < (c.ns.length : Int) := by have := HMM.out; omega
                obtain ⟨b4, o4, e4, _, _, hcs⟩ := hns.at_ (j := k + 1) (by have := HMM.out; omega)
                injection e4 with e4
                injection e4 with e5 e6
                subst e5 e6
                obtain ⟨q, hq⟩ : ∃ q, q = c.ns.getD (k + 1) 0 := ⟨_, rfl⟩
                rw [← hq] at hcs HE
                clear hq
                have HF : Hid (R = ⟨true, false, false, false, false, k, p, q⟩) := Lib.hid (by rw [HE.out]; simp [hh0, hhL])
                clear hL hh0 hhL HE h0
                have hcA := cell_alloc hc (.cells #[.bool true, .bool false, .bool false, .bool false, .bool false, .int .i64 k, .int .i64 0, .int .i64 0] 28 (0, 0))
                have c2A := cell_alloc c2 (.cells #[.bool true, .bool false, .bool false, .bool false, .bool false, .int .i64 k, .int .i64 0, .int .i64 0] 28 (0, 0))
                have c3A := cell_alloc c3 (.cells #[.bool true, .bool false, .bool false, .bool false, .bool false, .int .i64 k, .int .i64 0, .int .i64 0] 28 (0, 0))
                have c4A := cell_alloc c4 (.cells #[.bool true, .bool false, .bool false, .bool false, .bool false, .int .i64 k, .int .i64 0, .int .i64 0] 28 (0, 0))
                have c4B := cell_alloc c4 (.cells #[.bool true, .bool false, .bool false, .bool false, .bool false, .int .i64 k, .int .i64 p, .int .i64 0] 28 (0, 0))
                have hcpA := cell_alloc hcp (.cells #[.bool true, .bool false, .bool false, .bool false, .bool false, .int .i64 k, .int .i64 0, .int .i64 0] 28 (0, 0))
                have hcsA := cell_alloc hcs (.cells #[.bool true, .bool false, .bool false, .bool false, .bool false, .int .i64 k, .int .i64 0, .int .i64 0] 28 (0, 0))
                have hOA : (w1.alloc (.cells #[.bool true, .bool false, .bool false, .bool false, .bool false, .int .i64 k, .int .i64 p, .int .i64 c.jn] 28 (0, 0))).heap[w.heap.size + 1]? = _ := balloc19 HO1.out _
                have KK := ((Kept.refl (fun i => i = w1.heap.size) w1).alloc (.cells #[.bool true, .bool false, .bool false, .bool false, .bool false, .int .i64 k, .int .i64 p, .int .i64 c.jn] 28 (0, 0)))
                have HI := Lib.hid hOA
                have HKK := Lib.hid (HK1.out.alloc (.cells #[.bool true, .bool false, .bool false, .bool false, .bool false, .int .i64 k, .int .i64 p, .int .i64 c.jn] 28 (0, 0)))
                have HNN : Hid ((w1.alloc (.cells #[.bool true, .bool false, .bool false, .bool false, .bool false, .int .i64 k, .int .i64 p, .int .i64 c.jn] 28 (0, 0))).heap[w1.heap.size]? = some (.cells #[.bool true, .bool false, .bool false, .bool false, .bool false, .int .i64 k, .int .i64 p, .int .i64 c.jn] 28 (0, 0))) := Lib.hid (heap_alloc_new w1 (.cells #[.bool true, .bool false, .bool false, .bool false, .bool false, .int .i64 k, .int .i64 p, .int .i64 c.jn] 28 (0, 0)))
                clear hOA
                have HC2 := Lib.hid (show (w1.alloc (.cells #[.bool true, .bool false, .bool false, .bool false, .bool false, .int .i64 k, .int .i64 p, .int .i64 c.jn] 28 (0, 0))).cell? ⟨w.heap.size, 2, none⟩ = _ from KK.cell (p := ⟨w.heap.size, 2, none⟩) hne3 c2)
                have HCS := Lib.hid (show (w1.alloc (.cells #[.bool true, .bool false, .bool false, .bool false, .bool false, .int .i64 k, .int .i64 p, .int .i64 c.jn] 28 (0, 0))).cell? ⟨b, o + (k + 1), none⟩ = _ from KK.cell (p := ⟨b, o + (k + 1), none⟩) hnebb hcs)
                go_upto_region 14 with fail
                obtain ⟨W5, hW5⟩ : ∃ W5, W5 = (w1.alloc (.cells #[.bool true, .bool false, .bool false, .bool false, .bool false, .int .i64 k, .int .i64 p, .int .i64 c.jn] 28 (0, 0))) := ⟨_, rfl⟩
                rw [← hW5] at HI HKK HNN HC2 HCS ⊢
                clear hW5 hc c2 c3 c4 c0 c1 hcA c2A c3A c4A r0 r1 r2 r3 r4 r5 r6 r7 z1 HT HPK HJN HZ HP HTK HIR HPR HSU hcp hcpA c4B hcs hcsA
                obtain ⟨s0, s1, s2, s3, s4, s5, s6, s7⟩ := cells8 HI.out
                obtain ⟨t0, t1, t2, t3, t4, t5, t6, t7⟩ := cells8 HNN.out
                have zA := frz HI.out
                have zB := frz HNN.out
                have c2 := HC2.out
                have hcs := HCS.out
                go_wp2
                have hfin := rl_cells ⟨true, false, false, false, false, k, p, q⟩ (bset_o19 HI.out 7 (.int .i64 q) hne2)
                have hkf := rl_kept ⟨true, false, false, false, false, k, p, q⟩ (HKK.out.setCell (p := ⟨w1.heap.size, 7, none⟩) (.inr HK1.out.size) (.int .i64 q)) (b := w.heap.size + 1) (by omega)
                simp only at hfin hkf
                clear s0 s1 s2 s3 s4 s5 s6 s7 zA zB c2 t0 t1 t2 t3 t4 t5 t6 t7
                generalize hW : World.setCell _ _ _ = W3 at hfin hkf ⊢
                obtain ⟨r0, r1, r2, r3, r4, r5, r6, r7⟩ := cells8 hfin
                exact bodyPost_ret (v := rlV ⟨true, false, false, false, false, k, p, q⟩) (by simp [results, Try.results8, go_sem, r0, r1, r2, r3, r4, r5, r6, r7, rlV]) rfl ⟨by rw [HF.out], hkf⟩
          · have hb : ((y : Int) == (n : Int)) = false := by simpa using he
            have hb2 : ((y : Int) != (n : Int)) = true := by simpa using he
            have HEN := Lib.hid he
            clear he
            go_wp2
            go_round
            case rel => exact ⟨k + 1, by go_num, by omega, by
              rw [HT.out]
              simp only [List.mem_append, List.mem_singleton, not_or]
              exact ⟨HNO.out, fun h => HEN.out h.symm⟩⟩
            case measure => simp [intOf]; omega
        · obtain rfl : k = m + 1 := by omega
          have HE : Hid (R = rl0) := Lib.hid (by
            have hno := HNO.out
            rw [HMM.out.2.1, List.take_length] at hno
            rw [HD.out, if_pos (by trivial), if_neg hno, if_neg (fun h => HJ0.out h.2)])
          have hgt : decide (((m + 1 : Nat) : Int) ≤ (m : Int)) = false := decide_eq_false (by omega)
          have hgt2 : ¬ ((m : Int) + 1 ≤ (m : Int)) := by omega
          go_wp2
          have hfin := rl_cells rl0 HO1.out
          have hkf := rl_kept rl0 HK1.out (b := w.heap.size + 1) (by omega)
          unfold rl0 at hfin hkf
          simp only at hfin hkf
          clear r0 r1 r2 r3 r4 r5 r6 r7 z1 c0 c1 c2 c3 c4
          generalize hW : World.setCell _ _ _ = W3 at hfin hkf ⊢
          obtain ⟨r0, r1, r2, r3, r4, r5, r6, r7⟩ := cells8 hfin
          exact bodyPost_ret (v := rlV rl0) (by simp [results, Try.results8, go_sem, r0, r1, r2, r3, r4, r5, r6, r7, rlV, rl0]) rfl ⟨by rw [HE.out], hkf⟩
end Go.Proofs.Ytajneoaljpljpaa
