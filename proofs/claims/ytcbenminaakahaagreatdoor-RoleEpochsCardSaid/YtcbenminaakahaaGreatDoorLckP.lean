/-
  The walk of RoleEpochs.
-/
import Derived.Test.YtcbenminaakahaaGreatDoorLckO
import Derived.Test.YtcbenminaakahaaGreatDoorRol2
namespace Go.Proofs.YtcbenminaakahaaGreatDoor
open Go.RowKit
set_option linter.unusedVariables false
set_option linter.unusedSimpArgs false

/-- A letter loaded, where the operation's guard says yes. -/
theorem wpList_load_letter {ops : Array Oper} {rest : List Oper} {o : Oper} {a : Act} {w : World} {Q : Exit → Act → World → Prop} (hw : Region.wanted o (yielded ops a.tmps) = true) (x : Operand) (ho : o.op = .load 34 x)
    (g : Nat) (hx : a.eval x = .pointer (some ⟨g, 0, none⟩)) (cs : Array Value) (hl : cs.size = 25) (hg : w.heap[g]? = some (.cells cs 34 (0, 0)))
    (h : wpList Tryz.prog ops Q rest (a.put o.dst (.agg cs)) w) : wpList Tryz.prog ops Q (o :: rest) a w :=
  BigFrame.wpList_want hw fun _ hK => wp_load_row 34 x ho g hx _ cs (0, 0) _ hg Tryz.underlying34 rfl (by rw [hl]; kernel_rfl) (hK _ _ h)
theorem fenceP_zero {c : Cf} {nd : Int} {x : LV} {lc : LC} (h : fenceP c nd x lc = 0) : x.ch = c.ch ∧ x.ep = c.ep := by
  unfold fenceP at h
  by_cases h1 : chkE x lc = 0
  · rw [if_pos h1] at h
    by_cases h2 : x.to = nd
    · rw [if_pos h2] at h
      by_cases h3 : rgtB c = true
      · rw [if_pos h3] at h
        by_cases h4 : fencedB x.kd = true
        · rw [if_pos h4] at h
          by_cases h5 : x.ch = c.ch
          · rw [if_pos h5] at h
            by_cases h6 : x.ep = c.ep
            · exact ⟨h5, h6⟩
            · rw [if_neg h6] at h; omega
          · rw [if_neg h5] at h; omega
        · rw [if_neg h4] at h; omega
      · rw [if_neg h3] at h; omega
    · rw [if_neg h2] at h; omega
  · rw [if_neg h1] at h; omega
set_option maxRecDepth 100000 in
set_option maxHeartbeats 8000000 in
theorem RoleEpochs_any (w : World) (va vb v : Value) (a b : Cf) (y : LV × LC) (ha : CfR w AnyC va a) (hb : CfR w AnyC vb b) (hv : LtV w v y) (ht : Tab10 w) : Calls Tryz.prog 10 #[va, vb, v] w (BoolE true w) := by
  obtain ⟨x, c⟩ := y
  obtain ⟨rfl, hm⟩ := hv
  simp only at hm
  obtain ⟨ga, gm, gcp, va', vm, vcp, ua, um, ucp, dda, dm, dcp, g1, g2, g3, g4⟩ := hm.forms
  obtain ⟨X, hX⟩ : ∃ X, X = x := ⟨_, rfl⟩
  rw [← hX] at hm
  obtain ⟨kd, fr, to, ch, ep, ba, nu, se, dn, ve, sl, ke, co, ck, cc, ce, cn, gc, ge, gn, gf, gj, vo, up, da⟩ := x
  simp only at g1 g2 g3 g4
  subst g1 g2 g3 g4
  have eV : (Value.agg (lcs (⟨kd, fr, to, ch, ep, ba, nu, se, dn, ve, sl, ke, co, ck, cc, ce, cn, gc, ge, .slice ga gm gcp, gf, gj, .slice va' vm vcp, .slice ua um ucp, .slice dda dm dcp⟩ : LV))) = .agg #[.int .i64 kd, .int .i64 fr, .int .i64 to, .int .i64 ch, .int .u64 ep, .int .u64 ba, .int .u64 nu, .int .u64 se, .int .u64 dn, .int .u64 ve, .int .i64 sl, .int .u32 ke, .int .i64 co, .int .i64 ck, .int .i64 cc, .int .u64 ce, .int .i64 cn, .int .i64 gc, .int .u64 ge, .slice ga gm gcp, .bool gf, .int .i64 gj, .slice va' vm vcp, .slice ua um ucp, .slice dda dm dcp] := rfl

  rw [eV]
  clear eV
  have HA := Lib.hid (fun w' (hk : Kept NoB w w') => ha.no hk)
  have HB := Lib.hid (fun w' (hk : Kept NoB w w') => hb.no hk)
  have HFN : Hid (c.ns.length ≤ 1000 → ∀ (w' : World) (d : Cf) (dv : Value) (n : Int), Kept NoB w w' → CfR w' AnyC dv d → Calls Tryz.prog 52 #[dv, .int .i64 n, .agg #[.int .i64 kd, .int .i64 fr, .int .i64 to, .int .i64 ch, .int .u64 ep, .int .u64 ba, .int .u64 nu, .int .u64 se, .int .u64 dn, .int .u64 ve, .int .i64 sl, .int .u32 ke, .int .i64 co, .int .i64 ck, .int .i64 cc, .int .u64 ce, .int .i64 cn, .int .i64 gc, .int .u64 ge, .slice ga gm gcp, .bool gf, .int .i64 gj, .slice va' vm vcp, .slice ua um ucp, .slice dda dm dcp]] w' fun e w'' => e = .returned (.int .i64 (fenceP d n X c)) ∧ Kept NoB w' w'') := Lib.hid (fun hnf w' d dv n hk hd => Fence_any w' d dv AnyC n kd fr to ch ep ba nu se dn ve sl ke co ck cc ce cn gc ge gj gf ga va' ua dda gm gcp vm vcp um ucp dm dcp X c (fun k => k < w.heap.size) hX (hm.no hk) hnf (fun k h => Nat.lt_of_lt_of_le h hk.size) (ht.kept hk (fun h => h)) hd)
  have HFR := Lib.hid (fun w' (hk : Kept NoB w w') => Far_any w' kd fr to ch ep ba nu se dn ve sl ke co ck cc ce cn gc ge gj gf ga va' ua dda gm gcp vm vcp um ucp dm dcp X c (fun k => k < w.heap.size) hX (hm.no hk))
  have HXE : Hid (X.ch = ch ∧ X.ep = ep) := Lib.hid (by rw [hX]; exact ⟨rfl, rfl⟩)
  obtain ⟨u, rfl, hn, _, _⟩ := id ha
  obtain ⟨na, nc, rfl, hn1, hn2, _⟩ := id hn
  obtain ⟨u, rfl, hn', _, _⟩ := id hb
  obtain ⟨ma, mc, rfl, hn1', hn2', _⟩ := id hn'
  unfold maxLen at hn2 hn2'
  obtain ⟨a0, a1, a2, a3, a4⟩ := a
  obtain ⟨b0, b1, b2, b3, b4⟩ := b
  simp only at HA HB hn1 hn2 hn1' hn2'
  clear ha hb hn hn' hm ht hX
  obtain ⟨W, hW⟩ : ∃ W, W = ((w.alloc (.cells #[.int .i64 a0, .int .u64 a1, .slice na a2.length nc, .bool a3, .int .i64 a4] 29 (0, 0))).alloc (.cells #[.int .i64 b0, .int .u64 b1, .slice ma b2.length mc, .bool b3, .int .i64 b4] 29 (0, 0))).alloc (.cells #[.int .i64 kd, .int .i64 fr, .int .i64 to, .int .i64 ch, .int .u64 ep, .int .u64 ba, .int .u64 nu, .int .u64 se, .int .u64 dn, .int .u64 ve, .int .i64 sl, .int .u32 ke, .int .i64 co, .int .i64 ck, .int .i64 cc, .int .u64 ce, .int .i64 cn, .int .i64 gc, .int .u64 ge, .slice ga gm gcp, .bool gf, .int .i64 gj, .slice va' vm vcp, .slice ua um ucp, .slice dda dm dcp] 34 (0, 0)) := ⟨_, rfl⟩
  have hkk : Kept NoB w W := by rw [hW]; exact (((Kept.refl NoB w).alloc _).alloc _).alloc _
  have s1 : (w.alloc (.cells #[.int .i64 a0, .int .u64 a1, .slice na a2.length nc, .bool a3, .int .i64 a4] 29 (0, 0))).heap.size = w.heap.size + 1 := by simp
  have s2 : ((w.alloc (.cells #[.int .i64 a0, .int .u64 a1, .slice na a2.length nc, .bool a3, .int .i64 a4] 29 (0, 0))).alloc (.cells #[.int .i64 b0, .int .u64 b1, .slice ma b2.length mc, .bool b3, .int .i64 b4] 29 (0, 0))).heap.size = w.heap.size + 1 + 1 := by simp
  have h1 : W.heap[w.heap.size]? = some (.cells #[.int .i64 a0, .int .u64 a1, .slice na a2.length nc, .bool a3, .int .i64 a4] 29 (0, 0)) := by rw [hW]; exact blkU_alloc (blkU_alloc (heap_alloc_new w _) _) _
  have h2 : W.heap[w.heap.size + 1]? = some (.cells #[.int .i64 b0, .int .u64 b1, .slice ma b2.length mc, .bool b3, .int .i64 b4] 29 (0, 0)) := by
    have := blkU_alloc (heap_alloc_new (w.alloc (.cells #[.int .i64 a0, .int .u64 a1, .slice na a2.length nc, .bool a3, .int .i64 a4] 29 (0, 0))) (.cells #[.int .i64 b0, .int .u64 b1, .slice ma b2.length mc, .bool b3, .int .i64 b4] 29 (0, 0))) (.cells #[.int .i64 kd, .int .i64 fr, .int .i64 to, .int .i64 ch, .int .u64 ep, .int .u64 ba, .int .u64 nu, .int .u64 se, .int .u64 dn, .int .u64 ve, .int .i64 sl, .int .u32 ke, .int .i64 co, .int .i64 ck, .int .i64 cc, .int .u64 ce, .int .i64 cn, .int .i64 gc, .int .u64 ge, .slice ga gm gcp, .bool gf, .int .i64 gj, .slice va' vm vcp, .slice ua um ucp, .slice dda dm dcp] 34 (0, 0))
    rw [s1] at this
    rw [hW]; exact this
  have h3 : W.heap[w.heap.size + 1 + 1]? = some (.cells #[.int .i64 kd, .int .i64 fr, .int .i64 to, .int .i64 ch, .int .u64 ep, .int .u64 ba, .int .u64 nu, .int .u64 se, .int .u64 dn, .int .u64 ve, .int .i64 sl, .int .u32 ke, .int .i64 co, .int .i64 ck, .int .i64 cc, .int .u64 ce, .int .i64 cn, .int .i64 gc, .int .u64 ge, .slice ga gm gcp, .bool gf, .int .i64 gj, .slice va' vm vcp, .slice ua um ucp, .slice dda dm dcp] 34 (0, 0)) := by
    have := heap_alloc_new ((w.alloc (.cells #[.int .i64 a0, .int .u64 a1, .slice na a2.length nc, .bool a3, .int .i64 a4] 29 (0, 0))).alloc (.cells #[.int .i64 b0, .int .u64 b1, .slice ma b2.length mc, .bool b3, .int .i64 b4] 29 (0, 0))) (.cells #[.int .i64 kd, .int .i64 fr, .int .i64 to, .int .i64 ch, .int .u64 ep, .int .u64 ba, .int .u64 nu, .int .u64 se, .int .u64 dn, .int .u64 ve, .int .i64 sl, .int .u32 ke, .int .i64 co, .int .i64 ck, .int .i64 cc, .int .u64 ce, .int .i64 cn, .int .i64 gc, .int .u64 ge, .slice ga gm gcp, .bool gf, .int .i64 gj, .slice va' vm vcp, .slice ua um ucp, .slice dda dm dcp] 34 (0, 0))
    rw [s2] at this
    rw [hW]; exact this
  have HROW : Hid (∀ w', Kept NoB W w' → w'.heap[w.heap.size + 1 + 1]? = some (.cells #[.int .i64 kd, .int .i64 fr, .int .i64 to, .int .i64 ch, .int .u64 ep, .int .u64 ba, .int .u64 nu, .int .u64 se, .int .u64 dn, .int .u64 ve, .int .i64 sl, .int .u32 ke, .int .i64 co, .int .i64 ck, .int .i64 cc, .int .u64 ce, .int .i64 cn, .int .i64 gc, .int .u64 ge, .slice ga gm gcp, .bool gf, .int .i64 gj, .slice va' vm vcp, .slice ua um ucp, .slice dda dm dcp] 34 (0, 0))) := Lib.hid (fun w' hk => hk.heap (fun h => h) h3)
  have HTEN : Hid (∀ w', Kept NoB W w' → w'.cell? ⟨w.heap.size, 0, none⟩ = some (.int .i64 a0) ∧ w'.cell? ⟨w.heap.size, 1, none⟩ = some (.int .u64 a1) ∧ w'.cell? ⟨w.heap.size, 2, none⟩ = some (.slice na a2.length nc) ∧ w'.cell? ⟨w.heap.size, 3, none⟩ = some (.bool a3) ∧ w'.cell? ⟨w.heap.size, 4, none⟩ = some (.int .i64 a4) ∧ w'.cell? ⟨w.heap.size + 1, 0, none⟩ = some (.int .i64 b0) ∧ w'.cell? ⟨w.heap.size + 1, 1, none⟩ = some (.int .u64 b1) ∧ w'.cell? ⟨w.heap.size + 1, 2, none⟩ = some (.slice ma b2.length mc) ∧ w'.cell? ⟨w.heap.size + 1, 3, none⟩ = some (.bool b3) ∧ w'.cell? ⟨w.heap.size + 1, 4, none⟩ = some (.int .i64 b4) ∧ w'.cell? ⟨w.heap.size + 1 + 1, 4, none⟩ = some (.int .u64 ep)) := Lib.hid (fun w' hk => ⟨cell_of_row _ _ 0 _ _ _ (hk.heap (fun h => h) h1), cell_of_row _ _ 1 _ _ _ (hk.heap (fun h => h) h1), cell_of_row _ _ 2 _ _ _ (hk.heap (fun h => h) h1), cell_of_row _ _ 3 _ _ _ (hk.heap (fun h => h) h1), cell_of_row _ _ 4 _ _ _ (hk.heap (fun h => h) h1), cell_of_row _ _ 0 _ _ _ (hk.heap (fun h => h) h2), cell_of_row _ _ 1 _ _ _ (hk.heap (fun h => h) h2), cell_of_row _ _ 2 _ _ _ (hk.heap (fun h => h) h2), cell_of_row _ _ 3 _ _ _ (hk.heap (fun h => h) h2), cell_of_row _ _ 4 _ _ _ (hk.heap (fun h => h) h2), cell_of_row _ _ 4 _ _ _ (hk.heap (fun h => h) h3)⟩)
  have HK := Lib.hid hkk
  have HW := Lib.hid hW
  clear h1 h2 h3 hW hkk s1 s2
  by_cases la : a2.length ≤ 30
  rotate_left
  · as_aux_lemma =>
      have g1 : decide ((a2.length : Int) > 30) = true := decide_eq_true (by omega)
      have g1' : decide ((30 : Int) < (a2.length : Int)) = true := g1
      clear la
      go_enter Tryz.func10, Tryz.ntmps10
      go_upto_region 1 with fail
      rw [← HW.out]
      obtain ⟨p0, p1, p2, p3, p4, q0, q1, q2, q3, q4, l4⟩ := HTEN.out W (Kept.refl _ _)
      go_wp2_with fail
      refine (awake19 _).mono ?_
      rintro e w9 ⟨rfl, hk9⟩
      have HK9 := Lib.hid (HK.out.trans hk9 (fun _ _ h => h))
      clear hk9
      go_wp2
      go_ret
      exact ⟨rfl, HK9.out⟩
  have ga1 : decide ((a2.length : Int) > 30) = false := decide_eq_false (by omega)
  have ga2 : decide ((30 : Int) < (a2.length : Int)) = false := ga1
  by_cases lb : b2.length ≤ 30
  rotate_left
  · as_aux_lemma =>
      have g1 : decide ((b2.length : Int) > 30) = true := decide_eq_true (by omega)
      have g1' : decide ((30 : Int) < (b2.length : Int)) = true := g1
      clear lb
      go_enter Tryz.func10, Tryz.ntmps10
      go_upto_region 1 with fail
      rw [← HW.out]
      obtain ⟨p0, p1, p2, p3, p4, q0, q1, q2, q3, q4, l4⟩ := HTEN.out W (Kept.refl _ _)
      go_wp2_with fail
      refine (awake19 _).mono ?_
      rintro e w9 ⟨rfl, hk9⟩
      have HK9 := Lib.hid (HK.out.trans hk9 (fun _ _ h => h))
      clear hk9
      go_wp2
      go_ret
      exact ⟨rfl, HK9.out⟩
  have gb1 : decide ((b2.length : Int) > 30) = false := decide_eq_false (by omega)
  have gb2 : decide ((30 : Int) < (b2.length : Int)) = false := gb1
  clear la lb
  cases hfar : far14 c with
  | true =>
    rw [hfar] at HFR
    clear hfar
    go_enter Tryz.func10, Tryz.ntmps10
    go_upto_region 1 with fail
    rw [← HW.out]
    obtain ⟨p0, p1, p2, p3, p4, q0, q1, q2, q3, q4, l4⟩ := HTEN.out W (Kept.refl _ _)
    go_wp2_with (refine wpList_load_letter (by rfl) _ rfl (w.heap.size + 1 + 1) rfl #[.int .i64 kd, .int .i64 fr, .int .i64 to, .int .i64 ch, .int .u64 ep, .int .u64 ba, .int .u64 nu, .int .u64 se, .int .u64 dn, .int .u64 ve, .int .i64 sl, .int .u32 ke, .int .i64 co, .int .i64 ck, .int .i64 cc, .int .u64 ce, .int .i64 cn, .int .i64 gc, .int .u64 ge, .slice ga gm gcp, .bool gf, .int .i64 gj, .slice va' vm vcp, .slice ua um ucp, .slice dda dm dcp] rfl (HROW.out W (Kept.refl _ _)) ?_)
    refine (HFR.out W HK.out).mono ?_
    rintro e w1 ⟨rfl, hk1⟩
    have HK1 := Lib.hid (HK.out.trans hk1 (fun _ _ h => h))
    clear hk1
    go_wp2_with fail
    refine (awake19 _).mono ?_
    rintro e w9 ⟨rfl, hk9⟩
    have HK9 := Lib.hid (HK1.out.trans hk9 (fun _ _ h => h))
    clear hk9
    go_wp2
    go_ret
    exact ⟨rfl, HK9.out⟩
  | false =>
    have hnf : c.ns.length ≤ 1000 := by have := (far14_ns hfar).1; omega
    rw [hfar] at HFR
    have HFE := Lib.hid (HFN.out hnf)
    clear hfar hnf
    go_enter Tryz.func10, Tryz.ntmps10
    go_upto_region 1 with fail
    rw [← HW.out]
    obtain ⟨p0, p1, p2, p3, p4, q0, q1, q2, q3, q4, l4⟩ := HTEN.out W (Kept.refl _ _)
    go_wp2_with (refine wpList_load_letter (by rfl) _ rfl (w.heap.size + 1 + 1) rfl #[.int .i64 kd, .int .i64 fr, .int .i64 to, .int .i64 ch, .int .u64 ep, .int .u64 ba, .int .u64 nu, .int .u64 se, .int .u64 dn, .int .u64 ve, .int .i64 sl, .int .u32 ke, .int .i64 co, .int .i64 ck, .int .i64 cc, .int .u64 ce, .int .i64 cn, .int .i64 gc, .int .u64 ge, .slice ga gm gcp, .bool gf, .int .i64 gj, .slice va' vm vcp, .slice ua um ucp, .slice dda dm dcp] rfl (HROW.out W (Kept.refl _ _)) ?_)
    refine (HFR.out W HK.out).mono ?_
    rintro e w1 ⟨rfl, hk1⟩
    have HK1 := Lib.hid hk1
    clear hk1 p0 p1 p2 p3 p4 q0 q1 q2 q3 q4 l4
    go_wp2
    go_loopw [7, 8, 9] (fun n _ _ wr => ∃ k : Nat, n = .int .i64 k ∧ 1 ≤ k ∧ k ≤ 25 ∧ Kept NoB W wr) (fun n _ _ _ => 25 - (RowKit.intOf n).toNat)
    case atStart => exact ⟨1, rfl, by omega, by omega, HK1.out⟩
    case round =>
      obtain ⟨k, rfl, hk1, hk2, hkr⟩ := hrel
      have HKR := Lib.hid hkr
      have hk1' : (1 : Int) ≤ (k : Int) := by omega
      obtain ⟨p0, p1, p2, p3, p4, q0, q1, q2, q3, q4, l4⟩ := HTEN.out wr hkr
      clear hkr
      by_cases h24 : k ≤ 24
      · have hk24 : (k : Int) ≤ 24 := by omega
        have HC1 := Lib.hid (HFE.out wr ⟨a0, a1, a2, a3, a4⟩ _ (k : Int) (HK.out.trans HKR.out (fun _ _ h => h)) (HA.out wr (HK.out.trans HKR.out (fun _ _ h => h))))
        obtain ⟨fx, hfx⟩ : ∃ fx, fx = fenceP ⟨a0, a1, a2, a3, a4⟩ (k : Int) X c := ⟨_, rfl⟩
        obtain ⟨fy, hfy⟩ : ∃ fy, fy = fenceP ⟨b0, b1, b2, b3, b4⟩ (k : Int) X c := ⟨_, rfl⟩
        rw [← hfx] at HC1
        have HFX := Lib.hid hfx
        have HFY := Lib.hid hfy
        clear hfx hfy
        go_wp2_with (refine wpList_load_row rfl 34 _ rfl (w.heap.size + 1 + 1) rfl 34 #[.int .i64 kd, .int .i64 fr, .int .i64 to, .int .i64 ch, .int .u64 ep, .int .u64 ba, .int .u64 nu, .int .u64 se, .int .u64 dn, .int .u64 ve, .int .i64 sl, .int .u32 ke, .int .i64 co, .int .i64 ck, .int .i64 cc, .int .u64 ce, .int .i64 cn, .int .i64 gc, .int .u64 ge, .slice ga gm gcp, .bool gf, .int .i64 gj, .slice va' vm vcp, .slice ua um ucp, .slice dda dm dcp] (0, 0) _ (HROW.out wr HKR.out) Tryz.underlying34 rfl (by kernel_rfl) ?_)
        refine HC1.out.mono ?_
        rintro e w2 ⟨rfl, hk2⟩
        have HK2 := Lib.hid (HKR.out.trans hk2 (fun _ _ h => h))
        clear hk2 p0 p1 p2 p3 p4 q0 q1 q2 q3 q4 l4
        obtain ⟨p0, p1, p2, p3, p4, q0, q1, q2, q3, q4, l4⟩ := HTEN.out w2 HK2.out
        have HC2 := Lib.hid (HFE.out w2 ⟨b0, b1, b2, b3, b4⟩ _ (k : Int) (HK.out.trans HK2.out (fun _ _ h => h)) (HB.out w2 (HK.out.trans HK2.out (fun _ _ h => h))))
        rw [← HFY.out] at HC2
        go_wp2_with (refine wpList_load_row rfl 34 _ rfl (w.heap.size + 1 + 1) rfl 34 #[.int .i64 kd, .int .i64 fr, .int .i64 to, .int .i64 ch, .int .u64 ep, .int .u64 ba, .int .u64 nu, .int .u64 se, .int .u64 dn, .int .u64 ve, .int .i64 sl, .int .u32 ke, .int .i64 co, .int .i64 ck, .int .i64 cc, .int .u64 ce, .int .i64 cn, .int .i64 gc, .int .u64 ge, .slice ga gm gcp, .bool gf, .int .i64 gj, .slice va' vm vcp, .slice ua um ucp, .slice dda dm dcp] (0, 0) _ (HROW.out w2 HK2.out) Tryz.underlying34 rfl (by kernel_rfl) ?_)
        refine HC2.out.mono ?_
        rintro e w3 ⟨rfl, hk3⟩
        have HK3 := Lib.hid (HK2.out.trans hk3 (fun _ _ h => h))
        clear hk3 p0 p1 p2 p3 p4 q0 q1 q2 q3 q4 l4
        obtain ⟨p0, p1, p2, p3, p4, q0, q1, q2, q3, q4, l4⟩ := HTEN.out w3 HK3.out
        by_cases zx : fx = 0
        · have hx := fenceP_zero (HFX.out.symm.trans zx)
          simp only at hx
          rw [HXE.out.1, HXE.out.2] at hx
          have gx : (fx == 0) = true := by simpa using zx
          have gxe : (ep != a1) = false := by simp [hx.2]
          by_cases zy : fy = 0
          · have hy := fenceP_zero (HFY.out.symm.trans zy)
            simp only at hy
            rw [HXE.out.1, HXE.out.2] at hy
            have gy : (fy == 0) = true := by simpa using zy
            have gye : (ep != b1) = false := by simp [hy.2]
            have gab : (a1 != b1) = false := by simp [← hx.2, ← hy.2]
            have gch : (a0 != b0) = false := by simp [← hx.1, ← hy.1]
            clear hx hy zx zy
            go_wp2
            exact ⟨⟨k + 1, by go_num, by omega, by omega, HK3.out⟩, by simp [RowKit.intOf]; omega⟩
          · have gy : (fy == 0) = false := by simpa using zy
            clear hx zx zy
            go_wp2
            exact ⟨⟨k + 1, by go_num, by omega, by omega, HK3.out⟩, by simp [RowKit.intOf]; omega⟩
        · have gx : (fx == 0) = false := by simpa using zx
          by_cases zy : fy = 0
          · have hy := fenceP_zero (HFY.out.symm.trans zy)
            simp only at hy
            rw [HXE.out.1, HXE.out.2] at hy
            have gy : (fy == 0) = true := by simpa using zy
            have gye : (ep != b1) = false := by simp [hy.2]
            clear hy zx zy
            go_wp2
            exact ⟨⟨k + 1, by go_num, by omega, by omega, HK3.out⟩, by simp [RowKit.intOf]; omega⟩
          · have gy : (fy == 0) = false := by simpa using zy
            clear zx zy
            go_wp2
            exact ⟨⟨k + 1, by go_num, by omega, by omega, HK3.out⟩, by simp [RowKit.intOf]; omega⟩
      · have hk25 : ¬ (k : Int) ≤ 24 := by omega
        go_wp2_with fail
        refine (awake19 _).mono ?_
        rintro e w9 ⟨rfl, hk9⟩
        have HK9 := Lib.hid ((HK.out.trans HKR.out (fun _ _ h => h)).trans hk9 (fun _ _ h => h))
        clear hk9
        go_wp2
        go_ret
        exact ⟨rfl, HK9.out⟩
end Go.Proofs.YtcbenminaakahaaGreatDoor
