/-
  Package role: fenced, admitted.
-/
import Derived.Test.YtcbenminaakahaaGreatDoorLckJ
import Derived.Test.YtcbenminaakahaaGreatDoorRol1
namespace Go.Proofs.YtcbenminaakahaaGreatDoor
open Go.RowKit
set_option linter.unusedVariables false
set_option linter.unusedSimpArgs false

/-- Kinds that a fence may let in. -/
def fencedB (k : Int) : Bool := decide (k = 12 ∨ k = 13 ∨ k = 14 ∨ k = 15 ∨ k = 16 ∨ k = 17 ∨ k = 19)
set_option maxRecDepth 100000 in
theorem Fenced_any (w : World) (k : Int) : Calls Tryz.prog 116 #[.int .i64 k] w (YesNo (fencedB k) w) := by
  by_cases h12 : k = 12
  · subst h12
    go_enter Tryz.func116, Tryz.ntmps116
    go_wp2
    go_ret
    exact ⟨rfl, rfl⟩
  by_cases h13 : k = 13
  · subst h13
    go_enter Tryz.func116, Tryz.ntmps116
    go_wp2
    go_ret
    exact ⟨rfl, rfl⟩
  by_cases h14 : k = 14
  · subst h14
    go_enter Tryz.func116, Tryz.ntmps116
    go_wp2
    go_ret
    exact ⟨rfl, rfl⟩
  by_cases h15 : k = 15
  · subst h15
    go_enter Tryz.func116, Tryz.ntmps116
    go_wp2
    go_ret
    exact ⟨rfl, rfl⟩
  by_cases h16 : k = 16
  · subst h16
    go_enter Tryz.func116, Tryz.ntmps116
    go_wp2
    go_ret
    exact ⟨rfl, rfl⟩
  by_cases h17 : k = 17
  · subst h17
    go_enter Tryz.func116, Tryz.ntmps116
    go_wp2
    go_ret
    exact ⟨rfl, rfl⟩
  by_cases h19 : k = 19
  · subst h19
    go_enter Tryz.func116, Tryz.ntmps116
    go_wp2
    go_ret
    exact ⟨rfl, rfl⟩
  have g12 : (k == 12) = false := by simpa using h12
  have g13 : (k == 13) = false := by simpa using h13
  have g14 : (k == 14) = false := by simpa using h14
  have g15 : (k == 15) = false := by simpa using h15
  have g16 : (k == 16) = false := by simpa using h16
  have g17 : (k == 17) = false := by simpa using h17
  have g19 : (k == 19) = false := by simpa using h19
  have HR : Hid (fencedB k = false) := Lib.hid (decide_eq_false (by omega))
  clear h12 h13 h14 h15 h16 h17 h19
  go_enter Tryz.func116, Tryz.ntmps116
  go_wp2
  go_ret
  exact ⟨by rw [HR.out]; rfl, rfl⟩
/-- Is a letter let in, but for its chain and its epoch? -/
def admB (r : Rl) (tl : Int) (ns : List Int) (nd kd fr : Int) : Bool :=
  if kd = 12 then fr == r.pred else if kd = 14 then fr == r.pred else if kd = 13 then fr == r.succ
  else if kd = 15 then (r.tail && (fr != nd && decide (fr ∈ ns))) else if kd = 16 then (r.inn && (!r.tail && fr == tl))
  else if kd = 17 then (r.head && clientB fr) else if kd = 19 then (r.inn && clientB fr) else false
/-- Who is let in, of a configuration. -/
def admC (c : Cf) (nd kd fr : Int) : Bool := admB (rlOf c nd) (tailN c) c.ns nd kd fr
theorem cells8r {w : World} {b : Nat} {x0 x1 x2 x3 x4 x5 x6 x7 : Value} {t : TypeId} (h : w.heap[b]? = some (.cells #[x0, x1, x2, x3, x4, x5, x6, x7] t (0, 0))) :
    w.cell? ⟨b, 0, none⟩ = some x0 ∧ w.cell? ⟨b, 1, none⟩ = some x1 ∧ w.cell? ⟨b, 2, none⟩ = some x2 ∧ w.cell? ⟨b, 3, none⟩ = some x3 ∧ w.cell? ⟨b, 4, none⟩ = some x4 ∧ w.cell? ⟨b, 5, none⟩ = some x5 ∧ w.cell? ⟨b, 6, none⟩ = some x6 ∧ w.cell? ⟨b, 7, none⟩ = some x7 :=
  ⟨cell_of_row _ _ 0 _ _ _ h, cell_of_row _ _ 1 _ _ _ h, cell_of_row _ _ 2 _ _ _ h, cell_of_row _ _ 3 _ _ _ h, cell_of_row _ _ 4 _ _ _ h, cell_of_row _ _ 5 _ _ _ h, cell_of_row _ _ 6 _ _ _ h, cell_of_row _ _ 7 _ _ _ h⟩
set_option maxRecDepth 100000 in
set_option maxHeartbeats 8000000 in
theorem Admitted_any (w : World) (c : Cf) (cv : Value) (Fc : Nat → Prop) (nd : Int) (kd fr to ch ep ba nu se dn ve sl ke co ck cc ce cn gc ge gj : Int) (gf : Bool) (ga va ua dda : Option Addr) (gm gcp vm vcp um ucp dm dcp : Nat) (hc : CfR w Fc cv c) :
    Calls Tryz.prog 117 #[cv, .int .i64 nd, .agg #[.int .i64 kd, .int .i64 fr, .int .i64 to, .int .i64 ch, .int .u64 ep, .int .u64 ba, .int .u64 nu, .int .u64 se, .int .u64 dn, .int .u64 ve, .int .i64 sl, .int .u32 ke, .int .i64 co, .int .i64 ck, .int .i64 cc, .int .u64 ce, .int .i64 cn, .int .i64 gc, .int .u64 ge, .slice ga gm gcp, .bool gf, .int .i64 gj, .slice va vm vcp, .slice ua um ucp, .slice dda dm dcp]] w (YesNoK (admC c nd kd fr) w) := by
  obtain ⟨ad, had⟩ : ∃ ad, ad = admC c nd kd fr := ⟨_, rfl⟩
  have hno := fun w' (hk : Kept NoB w w') => hc.no hk
  obtain ⟨u, rfl, hn, h0, htop⟩ := id hc
  obtain ⟨na, nc, rfl, hn1, hn2, hnn⟩ := id hn
  have HOF := Lib.hid (fun w' (hk : Kept NoB w w') => Of19 _ c nd Fc w' (hno w' hk))
  have HTL := Lib.hid (fun w' (hk : Kept NoB w w') => Tail19 _ c Fc w' (hno w' hk))
  have HCO := Lib.hid (fun w' (hk : Kept NoB w w') => Contains_any (.slice na c.ns.length nc) c.ns fr Fc w' (hn.kept hk (fun _ _ _ h => h)))
  have HCL := Lib.hid (fun w' => LClient_any w' fr)
  have HR : Hid (ad = admB (rlOf c nd) (tailN c) c.ns nd kd fr) := Lib.hid had
  rw [← had]
  obtain ⟨⟨r0, r1, r2, r3, r4, r5, r6, r7⟩, hR⟩ : ∃ R, R = rlOf c nd := ⟨_, rfl⟩
  obtain ⟨tl, htl⟩ : ∃ tl, tl = tailN c := ⟨_, rfl⟩
  rw [← hR] at HOF HR
  rw [← htl] at HTL HR
  obtain ⟨e0, e1, e2, e3, e4⟩ := c
  simp only at HOF HTL HCO HR hn2
  clear hc hno hn h0 htop had hR htl hn1 hn2 hnn
  obtain ⟨W, hW⟩ : ∃ W, W = (w.alloc (.cells #[.int .i64 e0, .int .u64 e1, .slice na e2.length nc, .bool e3, .int .i64 e4] 29 (0, 0))).alloc (.cells #[.int .i64 kd, .int .i64 fr, .int .i64 to, .int .i64 ch, .int .u64 ep, .int .u64 ba, .int .u64 nu, .int .u64 se, .int .u64 dn, .int .u64 ve, .int .i64 sl, .int .u32 ke, .int .i64 co, .int .i64 ck, .int .i64 cc, .int .u64 ce, .int .i64 cn, .int .i64 gc, .int .u64 ge, .slice ga gm gcp, .bool gf, .int .i64 gj, .slice va vm vcp, .slice ua um ucp, .slice dda dm dcp] 34 (0, 0)) := ⟨_, rfl⟩
  have hkk : Kept NoB w W := by rw [hW]; exact ((Kept.refl NoB w).alloc _).alloc _
  have h1 : W.heap[w.heap.size]? = some (.cells #[.int .i64 e0, .int .u64 e1, .slice na e2.length nc, .bool e3, .int .i64 e4] 29 (0, 0)) := by rw [hW]; exact blkU_alloc (heap_alloc_new w _) _
  have h2 : W.heap[w.heap.size + 1]? = some (.cells #[.int .i64 kd, .int .i64 fr, .int .i64 to, .int .i64 ch, .int .u64 ep, .int .u64 ba, .int .u64 nu, .int .u64 se, .int .u64 dn, .int .u64 ve, .int .i64 sl, .int .u32 ke, .int .i64 co, .int .i64 ck, .int .i64 cc, .int .u64 ce, .int .i64 cn, .int .i64 gc, .int .u64 ge, .slice ga gm gcp, .bool gf, .int .i64 gj, .slice va vm vcp, .slice ua um ucp, .slice dda dm dcp] 34 (0, 0)) := by
    have := heap_alloc_new (w.alloc (.cells #[.int .i64 e0, .int .u64 e1, .slice na e2.length nc, .bool e3, .int .i64 e4] 29 (0, 0))) (.cells #[.int .i64 kd, .int .i64 fr, .int .i64 to, .int .i64 ch, .int .u64 ep, .int .u64 ba, .int .u64 nu, .int .u64 se, .int .u64 dn, .int .u64 ve, .int .i64 sl, .int .u32 ke, .int .i64 co, .int .i64 ck, .int .i64 cc, .int .u64 ce, .int .i64 cn, .int .i64 gc, .int .u64 ge, .slice ga gm gcp, .bool gf, .int .i64 gj, .slice va vm vcp, .slice ua um ucp, .slice dda dm dcp] 34 (0, 0))
    rw [show (w.alloc (.cells #[.int .i64 e0, .int .u64 e1, .slice na e2.length nc, .bool e3, .int .i64 e4] 29 (0, 0))).heap.size = w.heap.size + 1 by simp] at this
    rw [hW]; exact this
  have HTEN : Hid (∀ w', Kept NoB W w' → w'.cell? ⟨w.heap.size, 0, none⟩ = some (.int .i64 e0) ∧ w'.cell? ⟨w.heap.size, 1, none⟩ = some (.int .u64 e1) ∧ w'.cell? ⟨w.heap.size, 2, none⟩ = some (.slice na e2.length nc) ∧ w'.cell? ⟨w.heap.size, 3, none⟩ = some (.bool e3) ∧ w'.cell? ⟨w.heap.size, 4, none⟩ = some (.int .i64 e4) ∧ w'.cell? ⟨w.heap.size + 1, 0, none⟩ = some (.int .i64 kd) ∧ w'.cell? ⟨w.heap.size + 1, 1, none⟩ = some (.int .i64 fr)) := Lib.hid (fun w' hk => ⟨cell_of_row _ _ 0 _ _ _ (hk.heap (fun h => h) h1), cell_of_row _ _ 1 _ _ _ (hk.heap (fun h => h) h1), cell_of_row _ _ 2 _ _ _ (hk.heap (fun h => h) h1), cell_of_row _ _ 3 _ _ _ (hk.heap (fun h => h) h1), cell_of_row _ _ 4 _ _ _ (hk.heap (fun h => h) h1), cell_of_row _ _ 0 _ _ _ (hk.heap (fun h => h) h2), cell_of_row _ _ 1 _ _ _ (hk.heap (fun h => h) h2)⟩)
  have HK := Lib.hid hkk
  have HW := Lib.hid hW
  clear h1 h2 hW hkk
  have HRO : Hid (∀ w1 w' : World, Kept NoB (w1.alloc (.cells #[.bool r0, .bool r1, .bool r2, .bool r3, .bool r4, .int .i64 r5, .int .i64 r6, .int .i64 r7] 185 (0, 0))) w' → w'.heap[w1.heap.size]? = some (.cells #[.bool r0, .bool r1, .bool r2, .bool r3, .bool r4, .int .i64 r5, .int .i64 r6, .int .i64 r7] 185 (0, 0))) := Lib.hid (fun w1 w' hk => hk.heap (fun h => h) (heap_alloc_new w1 _))
  by_cases q12 : kd = 12
  · subst q12
    as_aux_lemma =>
    have HS : Hid (ad = (fr == r6)) := Lib.hid (by rw [HR.out]; rfl)
    clear HR HTL HCO HCL
    go_enter Tryz.func117, Tryz.ntmps117
    go_wp2_with fail
    rw [← HW.out]
    obtain ⟨c0, c1, c2, c3, c4, d0, d1⟩ := HTEN.out W (Kept.refl _ _)
    go_wp2_with fail
    refine (HOF.out W HK.out).mono ?_
    rintro e w1 ⟨rfl, hk1⟩
    have HK1 := Lib.hid hk1
    have HKA := Lib.hid (hk1.alloc (.cells #[.bool r0, .bool r1, .bool r2, .bool r3, .bool r4, .int .i64 r5, .int .i64 r6, .int .i64 r7] 185 (0, 0)))
    unfold rlV
    simp only
    clear c0 c1 c2 c3 c4 d0 d1 hk1
    obtain ⟨c0, c1, c2, c3, c4, d0, d1⟩ := HTEN.out _ HKA.out
    obtain ⟨t0, t1, t2, t3, t4, t5, t6, t7⟩ := cells8r (HRO.out w1 _ (Kept.refl _ _))
    go_wp2
    go_ret
    exact ⟨by rw [HS.out]; rfl, HK.out.trans HKA.out (fun _ _ h => h)⟩
  by_cases q13 : kd = 13
  · subst q13
    as_aux_lemma =>
    have HS : Hid (ad = (fr == r7)) := Lib.hid (by rw [HR.out]; rfl)
    clear HR HTL HCO HCL
    go_enter Tryz.func117, Tryz.ntmps117
    go_wp2_with fail
    rw [← HW.out]
    obtain ⟨c0, c1, c2, c3, c4, d0, d1⟩ := HTEN.out W (Kept.refl _ _)
    go_wp2_with fail
    refine (HOF.out W HK.out).mono ?_
    rintro e w1 ⟨rfl, hk1⟩
    have HK1 := Lib.hid hk1
    have HKA := Lib.hid (hk1.alloc (.cells #[.bool r0, .bool r1, .bool r2, .bool r3, .bool r4, .int .i64 r5, .int .i64 r6, .int .i64 r7] 185 (0, 0)))
    unfold rlV
    simp only
    clear c0 c1 c2 c3 c4 d0 d1 hk1
    obtain ⟨c0, c1, c2, c3, c4, d0, d1⟩ := HTEN.out _ HKA.out
    obtain ⟨t0, t1, t2, t3, t4, t5, t6, t7⟩ := cells8r (HRO.out w1 _ (Kept.refl _ _))
    go_wp2
    go_ret
    exact ⟨by rw [HS.out]; rfl, HK.out.trans HKA.out (fun _ _ h => h)⟩
  by_cases q14 : kd = 14
  · subst q14
    as_aux_lemma =>
    have HS : Hid (ad = (fr == r6)) := Lib.hid (by rw [HR.out]; rfl)
    clear HR HTL HCO HCL
    go_enter Tryz.func117, Tryz.ntmps117
    go_wp2_with fail
    rw [← HW.out]
    obtain ⟨c0, c1, c2, c3, c4, d0, d1⟩ := HTEN.out W (Kept.refl _ _)
    go_wp2_with fail
    refine (HOF.out W HK.out).mono ?_
    rintro e w1 ⟨rfl, hk1⟩
    have HK1 := Lib.hid hk1
    have HKA := Lib.hid (hk1.alloc (.cells #[.bool r0, .bool r1, .bool r2, .bool r3, .bool r4, .int .i64 r5, .int .i64 r6, .int .i64 r7] 185 (0, 0)))
    unfold rlV
    simp only
    clear c0 c1 c2 c3 c4 d0 d1 hk1
    obtain ⟨c0, c1, c2, c3, c4, d0, d1⟩ := HTEN.out _ HKA.out
    obtain ⟨t0, t1, t2, t3, t4, t5, t6, t7⟩ := cells8r (HRO.out w1 _ (Kept.refl _ _))
    go_wp2
    go_ret
    exact ⟨by rw [HS.out]; rfl, HK.out.trans HKA.out (fun _ _ h => h)⟩
  by_cases q15 : kd = 15
  · subst q15
    as_aux_lemma =>
    have HS : Hid (ad = (r3 && (fr != nd && decide (fr ∈ e2)))) := Lib.hid (by rw [HR.out]; rfl)
    clear HR HTL HCL
    cases r3 with
    | false =>
      go_enter Tryz.func117, Tryz.ntmps117
      go_wp2_with fail
      rw [← HW.out]
      obtain ⟨c0, c1, c2, c3, c4, d0, d1⟩ := HTEN.out W (Kept.refl _ _)
      go_wp2_with fail
      refine (HOF.out W HK.out).mono ?_
      rintro e w1 ⟨rfl, hk1⟩
      have HK1 := Lib.hid hk1
      have HKA := Lib.hid (hk1.alloc (.cells #[.bool r0, .bool r1, .bool r2, .bool false, .bool r4, .int .i64 r5, .int .i64 r6, .int .i64 r7] 185 (0, 0)))
      unfold rlV
      simp only
      clear c0 c1 c2 c3 c4 d0 d1 hk1
      obtain ⟨c0, c1, c2, c3, c4, d0, d1⟩ := HTEN.out _ HKA.out
      obtain ⟨t0, t1, t2, t3, t4, t5, t6, t7⟩ := cells8r (HRO.out w1 _ (Kept.refl _ _))
      go_wp2
      go_ret
      exact ⟨by rw [HS.out]; rfl, HK.out.trans HKA.out (fun _ _ h => h)⟩
    | true =>
      obtain ⟨ne, hne⟩ : ∃ ne, ne = (fr != nd) := ⟨_, rfl⟩
      have gne := hne.symm
      rw [← hne] at HS
      clear hne
      cases ne with
      | false =>
        go_enter Tryz.func117, Tryz.ntmps117
        go_wp2_with fail
        rw [← HW.out]
        obtain ⟨c0, c1, c2, c3, c4, d0, d1⟩ := HTEN.out W (Kept.refl _ _)
        go_wp2_with fail
        refine (HOF.out W HK.out).mono ?_
        rintro e w1 ⟨rfl, hk1⟩
        have HK1 := Lib.hid hk1
        have HKA := Lib.hid (hk1.alloc (.cells #[.bool r0, .bool r1, .bool r2, .bool true, .bool r4, .int .i64 r5, .int .i64 r6, .int .i64 r7] 185 (0, 0)))
        unfold rlV
        simp only
        clear c0 c1 c2 c3 c4 d0 d1 hk1
        obtain ⟨c0, c1, c2, c3, c4, d0, d1⟩ := HTEN.out _ HKA.out
        obtain ⟨t0, t1, t2, t3, t4, t5, t6, t7⟩ := cells8r (HRO.out w1 _ (Kept.refl _ _))
        go_wp2
        go_ret
        exact ⟨by rw [HS.out]; rfl, HK.out.trans HKA.out (fun _ _ h => h)⟩
      | true =>
        go_enter Tryz.func117, Tryz.ntmps117
        go_wp2_with fail
        rw [← HW.out]
        obtain ⟨c0, c1, c2, c3, c4, d0, d1⟩ := HTEN.out W (Kept.refl _ _)
        go_wp2_with fail
        refine (HOF.out W HK.out).mono ?_
        rintro e w1 ⟨rfl, hk1⟩
        have HK1 := Lib.hid hk1
        have HKA := Lib.hid (hk1.alloc (.cells #[.bool r0, .bool r1, .bool r2, .bool true, .bool r4, .int .i64 r5, .int .i64 r6, .int .i64 r7] 185 (0, 0)))
        unfold rlV
        simp only
        clear c0 c1 c2 c3 c4 d0 d1 hk1
        obtain ⟨c0, c1, c2, c3, c4, d0, d1⟩ := HTEN.out _ HKA.out
        obtain ⟨t0, t1, t2, t3, t4, t5, t6, t7⟩ := cells8r (HRO.out w1 _ (Kept.refl _ _))
        go_wp2_with fail
        refine (HCO.out _ (HK.out.trans HKA.out (fun _ _ h => h))).mono ?_
        rintro e w2 ⟨rfl, rfl⟩
        go_wp2
        go_ret
        exact ⟨by rw [HS.out]; rfl, HK.out.trans HKA.out (fun _ _ h => h)⟩
  by_cases q16 : kd = 16
  · subst q16
    as_aux_lemma =>
    have HS : Hid (ad = (r0 && (!r3 && fr == tl))) := Lib.hid (by rw [HR.out]; rfl)
    clear HR HCO HCL
    cases r0 with
    | false =>
      go_enter Tryz.func117, Tryz.ntmps117
      go_wp2_with fail
      rw [← HW.out]
      obtain ⟨c0, c1, c2, c3, c4, d0, d1⟩ := HTEN.out W (Kept.refl _ _)
      go_wp2_with fail
      refine (HOF.out W HK.out).mono ?_
      rintro e w1 ⟨rfl, hk1⟩
      have HK1 := Lib.hid hk1
      have HKA := Lib.hid (hk1.alloc (.cells #[.bool false, .bool r1, .bool r2, .bool r3, .bool r4, .int .i64 r5, .int .i64 r6, .int .i64 r7] 185 (0, 0)))
      unfold rlV
      simp only
      clear c0 c1 c2 c3 c4 d0 d1 hk1
      obtain ⟨c0, c1, c2, c3, c4, d0, d1⟩ := HTEN.out _ HKA.out
      obtain ⟨t0, t1, t2, t3, t4, t5, t6, t7⟩ := cells8r (HRO.out w1 _ (Kept.refl _ _))
      go_wp2_with fail
      go_quiet (fail)
      go_wp2
      go_ret
      exact ⟨by rw [HS.out]; rfl, HK.out.trans (HKA.out.drewN _) (fun _ _ h => h)⟩
    | true =>
      cases r3 with
      | true =>
        go_enter Tryz.func117, Tryz.ntmps117
        go_wp2_with fail
        rw [← HW.out]
        obtain ⟨c0, c1, c2, c3, c4, d0, d1⟩ := HTEN.out W (Kept.refl _ _)
        go_wp2_with fail
        refine (HOF.out W HK.out).mono ?_
        rintro e w1 ⟨rfl, hk1⟩
        have HK1 := Lib.hid hk1
        have HKA := Lib.hid (hk1.alloc (.cells #[.bool true, .bool r1, .bool r2, .bool true, .bool r4, .int .i64 r5, .int .i64 r6, .int .i64 r7] 185 (0, 0)))
        unfold rlV
        simp only
        clear c0 c1 c2 c3 c4 d0 d1 hk1
        obtain ⟨c0, c1, c2, c3, c4, d0, d1⟩ := HTEN.out _ HKA.out
        obtain ⟨t0, t1, t2, t3, t4, t5, t6, t7⟩ := cells8r (HRO.out w1 _ (Kept.refl _ _))
        go_wp2_with fail
        go_quiet (fail)
        go_wp2
        go_ret
        exact ⟨by rw [HS.out]; rfl, HK.out.trans (HKA.out.drewN _) (fun _ _ h => h)⟩
      | false =>
        go_enter Tryz.func117, Tryz.ntmps117
        go_wp2_with fail
        rw [← HW.out]
        obtain ⟨c0, c1, c2, c3, c4, d0, d1⟩ := HTEN.out W (Kept.refl _ _)
        go_wp2_with fail
        refine (HOF.out W HK.out).mono ?_
        rintro e w1 ⟨rfl, hk1⟩
        have HK1 := Lib.hid hk1
        have HKA := Lib.hid (hk1.alloc (.cells #[.bool true, .bool r1, .bool r2, .bool false, .bool r4, .int .i64 r5, .int .i64 r6, .int .i64 r7] 185 (0, 0)))
        unfold rlV
        simp only
        clear c0 c1 c2 c3 c4 d0 d1 hk1
        obtain ⟨c0, c1, c2, c3, c4, d0, d1⟩ := HTEN.out _ HKA.out
        obtain ⟨t0, t1, t2, t3, t4, t5, t6, t7⟩ := cells8r (HRO.out w1 _ (Kept.refl _ _))
        go_wp2_with fail
        have HTQ : Hid (∀ w' : World, Kept NoB (w1.alloc (.cells #[.bool true, .bool r1, .bool r2, .bool false, .bool r4, .int .i64 r5, .int .i64 r6, .int .i64 r7] 185 (0, 0))) w' → (w'.cell? ⟨w.heap.size, 0, none⟩ = some (.int .i64 e0) ∧ w'.cell? ⟨w.heap.size, 1, none⟩ = some (.int .u64 e1) ∧ w'.cell? ⟨w.heap.size, 2, none⟩ = some (.slice na e2.length nc) ∧ w'.cell? ⟨w.heap.size, 3, none⟩ = some (.bool e3) ∧ w'.cell? ⟨w.heap.size, 4, none⟩ = some (.int .i64 e4) ∧ w'.cell? ⟨w.heap.size + 1, 1, none⟩ = some (.int .i64 fr) ∧ w'.cell? ⟨w1.heap.size, 0, none⟩ = some (.bool true) ∧ w'.cell? ⟨w1.heap.size, 3, none⟩ = some (.bool false))) := Lib.hid (fun w' hk => by
          obtain ⟨x0, x1, x2, x3, x4, y0, y1⟩ := HTEN.out w' (HKA.out.trans hk (fun _ _ h => h))
          obtain ⟨z0, _, _, z3, _⟩ := cells8r (HRO.out w1 w' hk)
          exact ⟨x0, x1, x2, x3, x4, y1, z0, z3⟩)
        have HKQ := Lib.hid ((Kept.refl NoB (w1.alloc (.cells #[.bool true, .bool r1, .bool r2, .bool false, .bool r4, .int .i64 r5, .int .i64 r6, .int .i64 r7] 185 (0, 0)))).drew)
        have HT := Lib.hid (HTQ.out _ HKQ.out)
        go_region_held3 (fun w' => w'.cell? ⟨w.heap.size, 0, none⟩ = some (.int .i64 e0) ∧ w'.cell? ⟨w.heap.size, 1, none⟩ = some (.int .u64 e1) ∧ w'.cell? ⟨w.heap.size, 2, none⟩ = some (.slice na e2.length nc) ∧ w'.cell? ⟨w.heap.size, 3, none⟩ = some (.bool e3) ∧ w'.cell? ⟨w.heap.size, 4, none⟩ = some (.int .i64 e4) ∧ w'.cell? ⟨w.heap.size + 1, 1, none⟩ = some (.int .i64 fr) ∧ w'.cell? ⟨w1.heap.size, 0, none⟩ = some (.bool true) ∧ w'.cell? ⟨w1.heap.size, 3, none⟩ = some (.bool false)) (with_reducible exact HT.out)
          ((go_at_call 173; (with_reducible refine (HTL.out _ (HK.out.trans (HKA.out.trans HKQ.out (fun _ _ h => h)) (fun _ _ h => h))).mono ?_); rintro e w2 ⟨rfl, hk2⟩; replace HKQ := Lib.hid (HKQ.out.trans hk2 (fun _ _ h => h)); replace HT := Lib.hid (HTQ.out _ HKQ.out); clear hk2))
        go_wp2
        go_ret
        exact ⟨by rw [HS.out]; rfl, HK.out.trans (HKA.out.trans HKQ.out (fun _ _ h => h)) (fun _ _ h => h)⟩
  by_cases q17 : kd = 17
  · subst q17
    as_aux_lemma =>
    have HS : Hid (ad = (r2 && clientB fr)) := Lib.hid (by rw [HR.out]; rfl)
    clear HR HTL HCO
    cases r2 with
    | false =>
      go_enter Tryz.func117, Tryz.ntmps117
      go_wp2_with fail
      rw [← HW.out]
      obtain ⟨c0, c1, c2, c3, c4, d0, d1⟩ := HTEN.out W (Kept.refl _ _)
      go_wp2_with fail
      refine (HOF.out W HK.out).mono ?_
      rintro e w1 ⟨rfl, hk1⟩
      have HK1 := Lib.hid hk1
      have HKA := Lib.hid (hk1.alloc (.cells #[.bool r0, .bool r1, .bool false, .bool r3, .bool r4, .int .i64 r5, .int .i64 r6, .int .i64 r7] 185 (0, 0)))
      unfold rlV
      simp only
      clear c0 c1 c2 c3 c4 d0 d1 hk1
      obtain ⟨c0, c1, c2, c3, c4, d0, d1⟩ := HTEN.out _ HKA.out
      obtain ⟨t0, t1, t2, t3, t4, t5, t6, t7⟩ := cells8r (HRO.out w1 _ (Kept.refl _ _))
      go_wp2
      go_ret
      exact ⟨by rw [HS.out]; rfl, HK.out.trans HKA.out (fun _ _ h => h)⟩
    | true =>
      go_enter Tryz.func117, Tryz.ntmps117
      go_wp2_with fail
      rw [← HW.out]
      obtain ⟨c0, c1, c2, c3, c4, d0, d1⟩ := HTEN.out W (Kept.refl _ _)
      go_wp2_with fail
      refine (HOF.out W HK.out).mono ?_
      rintro e w1 ⟨rfl, hk1⟩
      have HK1 := Lib.hid hk1
      have HKA := Lib.hid (hk1.alloc (.cells #[.bool r0, .bool r1, .bool true, .bool r3, .bool r4, .int .i64 r5, .int .i64 r6, .int .i64 r7] 185 (0, 0)))
      unfold rlV
      simp only
      clear c0 c1 c2 c3 c4 d0 d1 hk1
      obtain ⟨c0, c1, c2, c3, c4, d0, d1⟩ := HTEN.out _ HKA.out
      obtain ⟨t0, t1, t2, t3, t4, t5, t6, t7⟩ := cells8r (HRO.out w1 _ (Kept.refl _ _))
      go_wp2_with fail
      refine (HCL.out _).mono ?_
      rintro e w2 ⟨rfl, rfl⟩
      go_wp2
      go_ret
      exact ⟨by rw [HS.out]; rfl, HK.out.trans HKA.out (fun _ _ h => h)⟩
  by_cases q19 : kd = 19
  · subst q19
    as_aux_lemma =>
    have HS : Hid (ad = (r0 && clientB fr)) := Lib.hid (by rw [HR.out]; rfl)
    clear HR HTL HCO
    cases r0 with
    | false =>
      go_enter Tryz.func117, Tryz.ntmps117
      go_wp2_with fail
      rw [← HW.out]
      obtain ⟨c0, c1, c2, c3, c4, d0, d1⟩ := HTEN.out W (Kept.refl _ _)
      go_wp2_with fail
      refine (HOF.out W HK.out).mono ?_
      rintro e w1 ⟨rfl, hk1⟩
      have HK1 := Lib.hid hk1
      have HKA := Lib.hid (hk1.alloc (.cells #[.bool false, .bool r1, .bool r2, .bool r3, .bool r4, .int .i64 r5, .int .i64 r6, .int .i64 r7] 185 (0, 0)))
      unfold rlV
      simp only
      clear c0 c1 c2 c3 c4 d0 d1 hk1
      obtain ⟨c0, c1, c2, c3, c4, d0, d1⟩ := HTEN.out _ HKA.out
      obtain ⟨t0, t1, t2, t3, t4, t5, t6, t7⟩ := cells8r (HRO.out w1 _ (Kept.refl _ _))
      go_wp2
      go_ret
      exact ⟨by rw [HS.out]; rfl, HK.out.trans HKA.out (fun _ _ h => h)⟩
    | true =>
      go_enter Tryz.func117, Tryz.ntmps117
      go_wp2_with fail
      rw [← HW.out]
      obtain ⟨c0, c1, c2, c3, c4, d0, d1⟩ := HTEN.out W (Kept.refl _ _)
      go_wp2_with fail
      refine (HOF.out W HK.out).mono ?_
      rintro e w1 ⟨rfl, hk1⟩
      have HK1 := Lib.hid hk1
      have HKA := Lib.hid (hk1.alloc (.cells #[.bool true, .bool r1, .bool r2, .bool r3, .bool r4, .int .i64 r5, .int .i64 r6, .int .i64 r7] 185 (0, 0)))
      unfold rlV
      simp only
      clear c0 c1 c2 c3 c4 d0 d1 hk1
      obtain ⟨c0, c1, c2, c3, c4, d0, d1⟩ := HTEN.out _ HKA.out
      obtain ⟨t0, t1, t2, t3, t4, t5, t6, t7⟩ := cells8r (HRO.out w1 _ (Kept.refl _ _))
      go_wp2_with fail
      refine (HCL.out _).mono ?_
      rintro e w2 ⟨rfl, rfl⟩
      go_wp2
      go_ret
      exact ⟨by rw [HS.out]; rfl, HK.out.trans HKA.out (fun _ _ h => h)⟩
  have HS : Hid (ad = false) := Lib.hid (by rw [HR.out]; unfold admB; rw [if_neg q12, if_neg q14, if_neg q13, if_neg q15, if_neg q16, if_neg q17, if_neg q19])
  have g12 : (kd == 12) = false := by simpa using q12
  have g13 : (kd == 13) = false := by simpa using q13
  have g14 : (kd == 14) = false := by simpa using q14
  have g15 : (kd == 15) = false := by simpa using q15
  have g16 : (kd == 16) = false := by simpa using q16
  have g17 : (kd == 17) = false := by simpa using q17
  have g19 : (kd == 19) = false := by simpa using q19
  clear HR HTL HCO HCL q12 q13 q14 q15 q16 q17 q19
  go_enter Tryz.func117, Tryz.ntmps117
  go_wp2_with fail
  rw [← HW.out]
  obtain ⟨c0, c1, c2, c3, c4, d0, d1⟩ := HTEN.out W (Kept.refl _ _)
  go_wp2_with fail
  refine (HOF.out W HK.out).mono ?_
  rintro e w1 ⟨rfl, hk1⟩
  have HK1 := Lib.hid hk1
  have HKA := Lib.hid (hk1.alloc (.cells #[.bool r0, .bool r1, .bool r2, .bool r3, .bool r4, .int .i64 r5, .int .i64 r6, .int .i64 r7] 185 (0, 0)))
  unfold rlV
  simp only
  clear c0 c1 c2 c3 c4 d0 d1 hk1
  obtain ⟨c0, c1, c2, c3, c4, d0, d1⟩ := HTEN.out _ HKA.out
  obtain ⟨t0, t1, t2, t3, t4, t5, t6, t7⟩ := cells8r (HRO.out w1 _ (Kept.refl _ _))
  go_wp2
  go_ret
  exact ⟨by rw [HS.out]; rfl, HK.out.trans HKA.out (fun _ _ h => h)⟩
end Go.Proofs.YtcbenminaakahaaGreatDoor
