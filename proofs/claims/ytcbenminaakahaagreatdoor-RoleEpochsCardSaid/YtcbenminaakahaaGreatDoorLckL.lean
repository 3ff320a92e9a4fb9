/-
  letter.Check in one piece; package role: Fence.
-/
import Derived.Test.YtcbenminaakahaaGreatDoorLckK
namespace Go.Proofs.YtcbenminaakahaaGreatDoor
open Go.RowKit
set_option linter.unusedVariables false
set_option linter.unusedSimpArgs false

theorem LCheck_any (w : World) (kd fr to ch ep ba nu se dn ve sl ke co ck cc ce cn gc ge gj : Int) (gf : Bool) (ga va ua dda : Option Addr) (gm gcp vm vcp um ucp dm dcp : Nat) (x : LV) (c : LC) (H : Nat → Prop) (hx : x = ⟨kd, fr, to, ch, ep, ba, nu, se, dn, ve, sl, ke, co, ck, cc, ce, cn, gc, ge, .slice ga gm gcp, gf, gj, .slice va vm vcp, .slice ua um ucp, .slice dda dm dcp⟩) (h : LtM w H x c) (hnf : c.ns.length ≤ 1000) (hH : ∀ k, H k → k < w.heap.size) (ht : Tab10 w) :
    Calls Tryz.prog 13 #[.agg #[.int .i64 kd, .int .i64 fr, .int .i64 to, .int .i64 ch, .int .u64 ep, .int .u64 ba, .int .u64 nu, .int .u64 se, .int .u64 dn, .int .u64 ve, .int .i64 sl, .int .u32 ke, .int .i64 co, .int .i64 ck, .int .i64 cc, .int .u64 ce, .int .i64 cn, .int .i64 gc, .int .u64 ge, .slice ga gm gcp, .bool gf, .int .i64 gj, .slice va vm vcp, .slice ua um ucp, .slice dda dm dcp]] w fun e w' => e = .returned (.int .i64 (chkE x c)) ∧ Kept NoB w w' := by
  have e1 : x.kd = kd := by rw [hx]
  have e2 : x.fr = fr := by rw [hx]
  have e3 : x.to = to := by rw [hx]
  by_cases hg : (kindB kd && (addrB fr && addrB to)) = true
  · simp only [Bool.and_eq_true] at hg
    have hE : chkE x c = if chkB x c kd.toNat then 0 else 4 := by unfold chkE; rw [e1, e2, e3, if_pos hg.1, if_pos hg.2.1, if_pos hg.2.2]
    rw [hE]
    exact LCheck_good w kd fr to ch ep ba nu se dn ve sl ke co ck cc ce cn gc ge gj gf ga va ua dda gm gcp vm vcp um ucp dm dcp x c H hx h hnf hH ht hg.1 hg.2.1 hg.2.2
  · have hf : (kindB kd && (addrB fr && addrB to)) = false := by simpa using hg
    have hE : chkE x c = if kindB kd then 4 else 1 := by
      unfold chkE
      rw [e1, e2, e3]
      cases h1 : kindB kd <;> cases h2 : addrB fr <;> cases h3 : addrB to <;> simp [h1, h2, h3] at hf ⊢
    rw [hE]
    exact LCheck_bad w kd fr to ch ep ba nu se dn ve sl ke co ck cc ce cn gc ge (.slice ga gm gcp) gf gj (.slice va vm vcp) (.slice ua um ucp) (.slice dda dm dcp) (kindB kd) (addrB fr) (addrB to) rfl rfl rfl hf ⟨_, _, _, rfl⟩ ⟨_, _, _, rfl⟩ ⟨_, _, _, rfl⟩ ⟨_, _, _, rfl⟩
/-- What Fence tells. -/
def fenceP (c : Cf) (nd : Int) (x : LV) (lc : LC) : Int :=
  if chkE x lc = 0 then (if x.to = nd then (if rgtB c then (if fencedB x.kd then (if x.ch = c.ch then (if x.ep = c.ep then (if admC c nd x.kd x.fr then 0 else 12) else 10) else 7) else 12) else 7) else 7) else 4
set_option maxRecDepth 100000 in
set_option maxHeartbeats 8000000 in
theorem Fence_any (w : World) (c : Cf) (cv : Value) (Fc : Nat → Prop) (nd : Int) (kd fr to ch ep ba nu se dn ve sl ke co ck cc ce cn gc ge gj : Int) (gf : Bool) (ga va ua dda : Option Addr) (gm gcp vm vcp um ucp dm dcp : Nat) (x : LV) (lc : LC) (H : Nat → Prop) (hx : x = ⟨kd, fr, to, ch, ep, ba, nu, se, dn, ve, sl, ke, co, ck, cc, ce, cn, gc, ge, .slice ga gm gcp, gf, gj, .slice va vm vcp, .slice ua um ucp, .slice dda dm dcp⟩) (h : LtM w H x lc) (hnf : lc.ns.length ≤ 1000) (hH : ∀ k, H k → k < w.heap.size) (ht : Tab10 w) (hc : CfR w Fc cv c) :
    Calls Tryz.prog 52 #[cv, .int .i64 nd, .agg #[.int .i64 kd, .int .i64 fr, .int .i64 to, .int .i64 ch, .int .u64 ep, .int .u64 ba, .int .u64 nu, .int .u64 se, .int .u64 dn, .int .u64 ve, .int .i64 sl, .int .u32 ke, .int .i64 co, .int .i64 ck, .int .i64 cc, .int .u64 ce, .int .i64 cn, .int .i64 gc, .int .u64 ge, .slice ga gm gcp, .bool gf, .int .i64 gj, .slice va vm vcp, .slice ua um ucp, .slice dda dm dcp]] w fun e w' => e = .returned (.int .i64 (fenceP c nd x lc)) ∧ Kept NoB w w' := by
  have hno := fun w' (hk : Kept NoB w w') => hc.no hk
  obtain ⟨fp, hfp⟩ : ∃ fp, fp = fenceP c nd x lc := ⟨_, rfl⟩
  obtain ⟨qe, hce⟩ : ∃ qe, qe = chkE x lc := ⟨_, rfl⟩
  obtain ⟨rg, hrg⟩ : ∃ rg, rg = rgtB c := ⟨_, rfl⟩
  obtain ⟨fe, hfe⟩ : ∃ fe, fe = fencedB kd := ⟨_, rfl⟩
  obtain ⟨ad, had⟩ : ∃ ad, ad = admC c nd kd fr := ⟨_, rfl⟩
  have HFP : Hid (fp = if qe = 0 then (if to = nd then (if rg then (if fe then (if ch = c.ch then (if ep = c.ep then (if ad then 0 else 12) else 10) else 7) else 12) else 7) else 7) else 4) := Lib.hid (by rw [hfp, hce, hrg, hfe, had]; unfold fenceP; rw [hx])
  rw [← hfp]
  have HCK := Lib.hid (fun w' (hk : Kept NoB w w') => hce ▸ LCheck_any w' kd fr to ch ep ba nu se dn ve sl ke co ck cc ce cn gc ge gj gf ga va ua dda gm gcp vm vcp um ucp dm dcp x lc H hx (h.no hk) hnf (fun k hh => Nat.lt_of_lt_of_le (hH k hh) hk.size) (ht.kept hk (fun h => h)))
  have HRG := Lib.hid (fun w' (hk : Kept NoB w w') => hrg ▸ Right19 _ c Fc w' (hno w' hk))
  have HFE := Lib.hid (fun w' => hfe ▸ Fenced_any w' kd)
  have HAD := Lib.hid (fun w' (hk : Kept NoB w w') => had ▸ Admitted_any w' c _ Fc nd kd fr to ch ep ba nu se dn ve sl ke co ck cc ce cn gc ge gj gf ga va ua dda gm gcp vm vcp um ucp dm dcp (hno w' hk))
  obtain ⟨u, rfl, hn, h0, htop⟩ := id hc
  obtain ⟨na, nc, rfl, hn1, hn2, hnn⟩ := id hn
  obtain ⟨e0, e1, e2, e3, e4⟩ := c
  simp only at HFP HCK HRG HAD hn2
  clear hc hno hn h0 htop hn1 hn2 hnn hfp hce hrg hfe had hx h hnf hH ht
  obtain ⟨W, hW⟩ : ∃ W, W = (w.alloc (.cells #[.int .i64 e0, .int .u64 e1, .slice na e2.length nc, .bool e3, .int .i64 e4] 29 (0, 0))).alloc (.cells #[.int .i64 kd, .int .i64 fr, .int .i64 to, .int .i64 ch, .int .u64 ep, .int .u64 ba, .int .u64 nu, .int .u64 se, .int .u64 dn, .int .u64 ve, .int .i64 sl, .int .u32 ke, .int .i64 co, .int .i64 ck, .int .i64 cc, .int .u64 ce, .int .i64 cn, .int .i64 gc, .int .u64 ge, .slice ga gm gcp, .bool gf, .int .i64 gj, .slice va vm vcp, .slice ua um ucp, .slice dda dm dcp] 34 (0, 0)) := ⟨_, rfl⟩
  have hkk : Kept NoB w W := by rw [hW]; exact ((Kept.refl NoB w).alloc _).alloc _
  have h1 : W.heap[w.heap.size]? = some (.cells #[.int .i64 e0, .int .u64 e1, .slice na e2.length nc, .bool e3, .int .i64 e4] 29 (0, 0)) := by rw [hW]; exact blkU_alloc (heap_alloc_new w _) _
  have h2 : W.heap[w.heap.size + 1]? = some (.cells #[.int .i64 kd, .int .i64 fr, .int .i64 to, .int .i64 ch, .int .u64 ep, .int .u64 ba, .int .u64 nu, .int .u64 se, .int .u64 dn, .int .u64 ve, .int .i64 sl, .int .u32 ke, .int .i64 co, .int .i64 ck, .int .i64 cc, .int .u64 ce, .int .i64 cn, .int .i64 gc, .int .u64 ge, .slice ga gm gcp, .bool gf, .int .i64 gj, .slice va vm vcp, .slice ua um ucp, .slice dda dm dcp] 34 (0, 0)) := by
    have := heap_alloc_new (w.alloc (.cells #[.int .i64 e0, .int .u64 e1, .slice na e2.length nc, .bool e3, .int .i64 e4] 29 (0, 0))) (.cells #[.int .i64 kd, .int .i64 fr, .int .i64 to, .int .i64 ch, .int .u64 ep, .int .u64 ba, .int .u64 nu, .int .u64 se, .int .u64 dn, .int .u64 ve, .int .i64 sl, .int .u32 ke, .int .i64 co, .int .i64 ck, .int .i64 cc, .int .u64 ce, .int .i64 cn, .int .i64 gc, .int .u64 ge, .slice ga gm gcp, .bool gf, .int .i64 gj, .slice va vm vcp, .slice ua um ucp, .slice dda dm dcp] 34 (0, 0))
    rw [show (w.alloc (.cells #[.int .i64 e0, .int .u64 e1, .slice na e2.length nc, .bool e3, .int .i64 e4] 29 (0, 0))).heap.size = w.heap.size + 1 by simp] at this
    rw [hW]; exact this
  have HROW : Hid (∀ w', Kept NoB W w' → w'.heap[w.heap.size + 1]? = some (.cells #[.int .i64 kd, .int .i64 fr, .int .i64 to, .int .i64 ch, .int .u64 ep, .int .u64 ba, .int .u64 nu, .int .u64 se, .int .u64 dn, .int .u64 ve, .int .i64 sl, .int .u32 ke, .int .i64 co, .int .i64 ck, .int .i64 cc, .int .u64 ce, .int .i64 cn, .int .i64 gc, .int .u64 ge, .slice ga gm gcp, .bool gf, .int .i64 gj, .slice va vm vcp, .slice ua um ucp, .slice dda dm dcp] 34 (0, 0))) := Lib.hid (fun w' hk => hk.heap (fun h => h) h2)
  have HTEN : Hid (∀ w', Kept NoB W w' → w'.cell? ⟨w.heap.size, 0, none⟩ = some (.int .i64 e0) ∧ w'.cell? ⟨w.heap.size, 1, none⟩ = some (.int .u64 e1) ∧ w'.cell? ⟨w.heap.size, 2, none⟩ = some (.slice na e2.length nc) ∧ w'.cell? ⟨w.heap.size, 3, none⟩ = some (.bool e3) ∧ w'.cell? ⟨w.heap.size, 4, none⟩ = some (.int .i64 e4) ∧ w'.cell? ⟨w.heap.size + 1, 0, none⟩ = some (.int .i64 kd) ∧ w'.cell? ⟨w.heap.size + 1, 1, none⟩ = some (.int .i64 fr) ∧ w'.cell? ⟨w.heap.size + 1, 2, none⟩ = some (.int .i64 to) ∧ w'.cell? ⟨w.heap.size + 1, 3, none⟩ = some (.int .i64 ch) ∧ w'.cell? ⟨w.heap.size + 1, 4, none⟩ = some (.int .u64 ep)) := Lib.hid (fun w' hk => ⟨cell_of_row _ _ 0 _ _ _ (hk.heap (fun h => h) h1), cell_of_row _ _ 1 _ _ _ (hk.heap (fun h => h) h1), cell_of_row _ _ 2 _ _ _ (hk.heap (fun h => h) h1), cell_of_row _ _ 3 _ _ _ (hk.heap (fun h => h) h1), cell_of_row _ _ 4 _ _ _ (hk.heap (fun h => h) h1), cell_of_row _ _ 0 _ _ _ (hk.heap (fun h => h) h2), cell_of_row _ _ 1 _ _ _ (hk.heap (fun h => h) h2), cell_of_row _ _ 2 _ _ _ (hk.heap (fun h => h) h2), cell_of_row _ _ 3 _ _ _ (hk.heap (fun h => h) h2), cell_of_row _ _ 4 _ _ _ (hk.heap (fun h => h) h2)⟩)
  have HK := Lib.hid hkk
  have HW := Lib.hid hW
  clear h1 h2 hW hkk
  go_enter Tryz.func52, Tryz.ntmps52
  go_upto_region 1 with fail
  rw [← HW.out]
  go_wp2_with (refine wpList_load_row rfl 34 _ rfl (w.heap.size + 1) rfl 34 #[.int .i64 kd, .int .i64 fr, .int .i64 to, .int .i64 ch, .int .u64 ep, .int .u64 ba, .int .u64 nu, .int .u64 se, .int .u64 dn, .int .u64 ve, .int .i64 sl, .int .u32 ke, .int .i64 co, .int .i64 ck, .int .i64 cc, .int .u64 ce, .int .i64 cn, .int .i64 gc, .int .u64 ge, .slice ga gm gcp, .bool gf, .int .i64 gj, .slice va vm vcp, .slice ua um ucp, .slice dda dm dcp] (0, 0) _ (HROW.out W (Kept.refl _ _)) Tryz.underlying34 rfl (by kernel_rfl) ?_)
  refine (HCK.out W HK.out).mono ?_
  rintro e w1 ⟨rfl, hk1⟩
  have HK1 := Lib.hid hk1
  clear hk1
  obtain ⟨c0, c1, c2, c3, c4, d0, d1, d2, d3, d4⟩ := HTEN.out w1 HK1.out
  by_cases q1 : qe = 0
  rotate_left
  · have g1 : (qe != 0) = true := by simpa using q1
    have HV : Hid (fp = 4) := Lib.hid (by rw [HFP.out, if_neg q1])
    clear q1
    go_wp2
    go_ret
    exact ⟨by rw [HV.out]; rfl, HK.out.trans HK1.out (fun _ _ h => h)⟩
  have HF1 : Hid (fp = if to = nd then (if rg then (if fe then (if ch = e0 then (if ep = e1 then (if ad then 0 else 12) else 10) else 7) else 12) else 7) else 7) := Lib.hid (by rw [HFP.out, if_pos q1])
  have g1 : (qe != 0) = false := by simpa using q1
  clear q1 HFP
  by_cases q2 : to = nd
  rotate_left
  · have g2 : (to != nd) = true := by simpa using q2
    have HV : Hid (fp = 7) := Lib.hid (by rw [HF1.out, if_neg q2])
    clear q2
    go_wp2
    go_ret
    exact ⟨by rw [HV.out]; rfl, HK.out.trans HK1.out (fun _ _ h => h)⟩
  have HF2 : Hid (fp = if rg then (if fe then (if ch = e0 then (if ep = e1 then (if ad then 0 else 12) else 10) else 7) else 12) else 7) := Lib.hid (by rw [HF1.out, if_pos q2])
  have g2 : (to != nd) = false := by simpa using q2
  clear q2 HF1
  go_wp2_with fail
  refine (HRG.out w1 (HK.out.trans HK1.out (fun _ _ h => h))).mono ?_
  rintro e w2 ⟨rfl, hk2⟩
  have HK2 := Lib.hid (HK1.out.trans hk2 (fun _ _ h => h))
  clear hk2 c0 c1 c2 c3 c4 d0 d1 d2 d3 d4
  obtain ⟨c0, c1, c2, c3, c4, d0, d1, d2, d3, d4⟩ := HTEN.out w2 HK2.out
  cases rg with
  | false =>
    go_wp2
    go_ret
    exact ⟨by rw [HF2.out]; rfl, HK.out.trans HK2.out (fun _ _ h => h)⟩
  | true =>
  have HF3 : Hid (fp = if fe then (if ch = e0 then (if ep = e1 then (if ad then 0 else 12) else 10) else 7) else 12) := Lib.hid (by rw [HF2.out]; rfl)
  clear HF2
  go_wp2_with fail
  refine (HFE.out _).mono ?_
  rintro e w3 ⟨rfl, rfl⟩
  cases fe with
  | false =>
    go_wp2
    go_ret
    exact ⟨by rw [HF3.out]; rfl, HK.out.trans HK2.out (fun _ _ h => h)⟩
  | true =>
  have HF4 : Hid (fp = if ch = e0 then (if ep = e1 then (if ad then 0 else 12) else 10) else 7) := Lib.hid (by rw [HF3.out]; rfl)
  clear HF3
  by_cases q3 : ch = e0
  rotate_left
  · have g3 : (ch != e0) = true := by simpa using q3
    have HV : Hid (fp = 7) := Lib.hid (by rw [HF4.out, if_neg q3])
    clear q3
    go_wp2
    go_ret
    exact ⟨by rw [HV.out]; rfl, HK.out.trans HK2.out (fun _ _ h => h)⟩
  have HF5 : Hid (fp = if ep = e1 then (if ad then 0 else 12) else 10) := Lib.hid (by rw [HF4.out, if_pos q3])
  have g3 : (ch != e0) = false := by simpa using q3
  clear q3 HF4
  by_cases q4 : ep = e1
  rotate_left
  · have g4 : (ep != e1) = true := by simpa using q4
    have HV : Hid (fp = 10) := Lib.hid (by rw [HF5.out, if_neg q4])
    clear q4
    go_wp2
    go_ret
    exact ⟨by rw [HV.out]; rfl, HK.out.trans HK2.out (fun _ _ h => h)⟩
  have HF6 : Hid (fp = if ad then 0 else 12) := Lib.hid (by rw [HF5.out, if_pos q4])
  have g4 : (ep != e1) = false := by simpa using q4
  clear q4 HF5
  go_wp2_with (refine wpList_load_row rfl 34 _ rfl (w.heap.size + 1) rfl 34 #[.int .i64 kd, .int .i64 fr, .int .i64 to, .int .i64 ch, .int .u64 ep, .int .u64 ba, .int .u64 nu, .int .u64 se, .int .u64 dn, .int .u64 ve, .int .i64 sl, .int .u32 ke, .int .i64 co, .int .i64 ck, .int .i64 cc, .int .u64 ce, .int .i64 cn, .int .i64 gc, .int .u64 ge, .slice ga gm gcp, .bool gf, .int .i64 gj, .slice va vm vcp, .slice ua um ucp, .slice dda dm dcp] (0, 0) _ (HROW.out w2 HK2.out) Tryz.underlying34 rfl (by kernel_rfl) ?_)
  refine (HAD.out w2 (HK.out.trans HK2.out (fun _ _ h => h))).mono ?_
  rintro e w3 ⟨rfl, hk3⟩
  have HK3 := Lib.hid (HK2.out.trans hk3 (fun _ _ h => h))
  clear hk3
  cases ad with
  | false =>
    go_wp2
    go_ret
    exact ⟨by rw [HF6.out]; rfl, HK.out.trans HK3.out (fun _ _ h => h)⟩
  | true =>
    go_wp2
    go_ret
    exact ⟨by rw [HF6.out]; rfl, HK.out.trans HK3.out (fun _ _ h => h)⟩
end Go.Proofs.YtcbenminaakahaaGreatDoor
