/-
  Package lead: vote, add, proposes (of no proposals).
-/
import Derived.Test.YtidhaofojcdbaaaLedI
namespace Go.Proofs.Ytidhaofojcdbaaa
open Go.RowKit
set_option linter.unusedVariables false

theorem cc13 {w : World} {b : Nat} {x0 x1 x2 x3 : Value} (h : w.heap[b]? = some (.cells #[x0, x1, x2, x3] 39 (0, 0))) :
    w.cell? ⟨b, 0, none⟩ = some x0 ∧ w.cell? ⟨b, 1, none⟩ = some x1 ∧ w.cell? ⟨b, 2, none⟩ = some x2 ∧ w.cell? ⟨b, 3, none⟩ = some x3 :=
  ⟨cell_of_row _ _ 0 _ _ _ h, cell_of_row _ _ 1 _ _ _ h, cell_of_row _ _ 2 _ _ _ h, cell_of_row _ _ 3 _ _ _ h⟩
theorem zero_prop (w : World) : (zeroValue 123).run Try.prog w = .ok (ppv vt0) w := by kernel_rfl
set_option maxRecDepth 100000 in
theorem look_q (w : World) (bq : Nat) (Q : List Vt) (s : Int) (h : MapV Try.prog 3 ppv w bq Q) (hwf : (Lit.int .i64 s).wf = true) : (Instr.lookup 100 (.map (some bq)) (.int .i64 s) false).run Try.prog w = .ok (ppv ((atV Q s).getD vt0)) w := by
  obtain ⟨v, ps, hrun, hv⟩ := h.2.lookup (t := 100) (e := 123) (Maps.int_keyed Try.underlying3) Try.underlying100 (zero_prop w) (zd := .held (ppv vt0)) (zp := []) rfl (Maps.keyOf_int_mk Try.underlying3 hwf)
  rw [datV_at] at hv
  unfold heldE at hv
  injection hv with hv
  injection hv with h1 h2
  injection h1 with h1
  rw [hrun, h1]
  cases atV Q s <;> rfl
theorem field_prop (k ch ep nd a : Int) (w : World) : (Instr.field 123 (.agg #[.int .i64 k, .int .i64 ch, .int .u64 ep, .int .i64 nd, .int .u64 a]) 0).run Try.prog w = .ok (.agg #[.int .i64 k, .int .i64 ch, .int .u64 ep, .int .i64 nd]) w := by kernel_rfl
/-- A proposal as a vote. -/
abbrev pvt (s bal k ch ep nd : Int) : Value := .agg #[.int .i64 s, .int .u64 bal, .int .i64 k, .int .i64 ch, .int .u64 ep, .int .i64 nd]
set_option maxRecDepth 100000 in
set_option maxHeartbeats 2000000 in
theorem vote_any (w : World) (g bp bq : Nat) (me ms st bal fr nx s a k ch ep nd : Int) (P Q : List Vt) (h : LdAt w g bp bq me ms st bal fr nx P Q) (hat : atV Q s = some ⟨s, a, k, ch, ep, nd⟩) (hwf : (Lit.int .i64 s).wf = true) :
    Calls Try.prog 55 #[.pointer (some ⟨g, 0, none⟩), .int .i64 s] w fun e w' => e = .returned (pvt s bal k ch ep nd) ∧ Kept NoB w w' := by
  have hr := heap_alloc_new w (.cells #[.int .i64 0, .int .u64 0, .int .i64 0, .int .i64 0, .int .u64 0, .int .i64 0] 48)
  have hk := (Kept.refl NoB w).alloc (.cells #[.int .i64 0, .int .u64 0, .int .i64 0, .int .i64 0, .int .u64 0, .int .i64 0] 48)
  obtain ⟨W, hW⟩ : ∃ W, W = w.alloc (.cells #[.int .i64 0, .int .u64 0, .int .i64 0, .int .i64 0, .int .u64 0, .int .i64 0] 48) := ⟨_, rfl⟩
  have HWW := Lib.hid hW
  rw [← hW] at hr hk
  have HR := Lib.hid hr
  have HK := Lib.hid hk
  have hlk : (Instr.lookup 100 (.map (some bq)) (.int .i64 s) false).run Try.prog W.drew = .ok (.agg #[.int .i64 k, .int .i64 ch, .int .u64 ep, .int .i64 nd, .int .u64 a]) W.drew := by
    have := look_q W.drew bq Q s ((h.no hk).mq.kept (Kept.refl NoB W).drew (fun h => h)) hwf
    rw [hat] at this
    exact this
  obtain ⟨c0, c1, c2, c3, c4, c5, c6, c7⟩ := (h.no hk).c
  have hfd := field_prop k ch ep nd a
  have hgl := h.lt.1
  have hq1 : ¬ g = w.heap.size := by omega
  have hq2 : ¬ w.heap.size = g := by omega
  obtain ⟨f0, f1, f2, f3, f4, f5⟩ := frz6v hr
  obtain ⟨r0, r1, r2, r3, r4, r5⟩ := cells6v hr
  clear h hr hk hW hat hwf hgl
  go_enter Try.func55, Try.ntmps55
  go_upto_region 1 with fail
  rw [← HWW.out]
  go_region
  all_goals
    have hF := six_at (w := W) HR.out (.int .i64 s) (.int .u64 bal) (.int .i64 k) (.int .i64 ch) (.int .u64 ep) (.int .i64 nd)
    have hK := (HK.out.six (b := w.heap.size) (.inr (Nat.le_refl _)) (.int .i64 s) (.int .u64 bal) (.int .i64 k) (.int .i64 ch) (.int .u64 ep) (.int .i64 nd)).drew
    clear c0 c1 c2 c3 c4 c5 c6 c7 f0 f1 f2 f3 f4 f5 r0 r1 r2 r3 r4 r5 hlk
    go_wp2
    obtain ⟨r0, r1, r2, r3, r4, r5⟩ := cells6v hF
    clear hF
    unfold six at r0 r1 r2 r3 r4 r5 hK
    generalize hW : World.setCell _ _ _ = W2 at r0 r1 r2 r3 r4 r5 hK ⊢
    exact bodyPost_ret (v := pvt s bal k ch ep nd) (by simp [results, Try.results55, go_sem, cell_drew r0, cell_drew r1, cell_drew r2, cell_drew r3, cell_drew r4, cell_drew r5]) rfl ⟨rfl, hK⟩
set_option maxRecDepth 100000 in
set_option maxHeartbeats 2000000 in
theorem add_any (w : World) (g bp bq : Nat) (me ms st bal fr nx k ch ep nd : Int) (P Q : List Vt) (h : LdAt w g bp bq me ms st bal fr nx P Q) (h0 : 0 ≤ nx) (h1 : nx ≤ 100000) (hl : Q.length ≤ 1000) :
    Calls Try.prog 54 #[.pointer (some ⟨g, 0, none⟩), .agg #[.int .i64 k, .int .i64 ch, .int .u64 ep, .int .i64 nd]] w fun e w' => e = .returned (.tuple #[]) ∧ LdAt w' g bp bq me ms st bal fr (nx + 1) P (putV Q ⟨nx, 0, k, ch, ep, nd⟩) ∧ Kept (LdB g bp bq) w w' := by
  have hr := heap_alloc_new w (.cells #[.int .i64 k, .int .i64 ch, .int .u64 ep, .int .i64 nd] 39)
  have hk := (Kept.refl NoB w).alloc (.cells #[.int .i64 k, .int .i64 ch, .int .u64 ep, .int .i64 nd] 39)
  obtain ⟨W, hW⟩ : ∃ W, W = w.alloc (.cells #[.int .i64 k, .int .i64 ch, .int .u64 ep, .int .i64 nd] 39) := ⟨_, rfl⟩
  have HWW := Lib.hid hW
  rw [← hW] at hr hk
  have HK := Lib.hid hk
  have HLT := Lib.hid h.lt
  have HL := Lib.hid (h.no hk)
  have hwf : (Lit.int .i64 nx).wf = true := WalkArith.wf_i64 (by omega)
  obtain ⟨w3, hrun0, hm3, hg3⟩ := run_store_mv (P := Try.prog) W.drew 100 3 123 Try.underlying3 Try.underlying100 bq ppv Q ⟨nx, 0, k, ch, ep, nd⟩ (HL.out.mq.kept (Kept.refl NoB W).drew (fun h => h)) hwf (by omega)
  have hrun : (Instr.mapUpdate 100 (.map (some bq)) (.int .i64 nx) (.agg #[.int .i64 k, .int .i64 ch, .int .u64 ep, .int .i64 nd, .int .u64 0])).run Try.prog W.drew = .ok () w3 := hrun0
  clear hrun0
  have hk3 : Kept (fun i => i = bq) W.drew w3 := (Kept.refl (fun i => i = bq) W.drew).grown hg3 (fun i hi => .inl (by injection hi with hi; exact hi.symm))
  have HM3 := Lib.hid hm3
  have HK3 := Lib.hid hk3
  obtain ⟨c0, c1, c2, c3, c4, c5, c6, c7⟩ := HL.out.c
  obtain ⟨d0, d1, d2, d3⟩ := cc13 hr
  have hwr : IntKind.i64.wrap (nx + 1) = nx + 1 := IntWalk.i64_in _ (by omega)
  clear h hr hk hW hm3 hg3 hk3 hwf
  go_enter Try.func54, Try.ntmps54
  go_upto_region 1 with fail
  rw [← HWW.out]
  go_region
  all_goals
    have HKW : Hid (Kept (fun i => i = bq) w w3) := Lib.hid ((HK.out.drew.mono (T := fun i => i = bq) (fun _ _ h => h.elim)).trans HK3.out (fun _ _ h => h))
    have hrow := HKW.out.heap (fun e => HLT.out.2.2.2.2.1 e.symm) (o := .cells #[.int .i64 me, .int .i64 ms, .int .i64 st, .int .u64 bal, .int .i64 fr, .int .i64 nx, .map (some bp), .map (some bq)] 102 (0, 0)) (by rw [← HL.out.cells, HWW.out]; exact (heap_alloc_old w _ HLT.out.1).symm)
    clear c0 c1 c2 c3 c4 c5 c6 c7 d0 d1 d2 d3 hrun
    have c5 := cell_of_row _ _ 5 _ _ _ hrow
    have f5 := blkA_frozen hrow 5
    have hrow2 := blkA_set hrow 5 (.int .i64 (nx + 1))
    have hks := (Kept.refl (fun i => i = g) w3).setCell (p := ⟨g, 5, none⟩) (.inl rfl) (.int .i64 (nx + 1))
    have HMP := Lib.hid ((HL.out.mp.kept ((Kept.refl (fun i => i = bq) W).drew.trans HK3.out (fun _ _ h => h)) (fun e => HLT.out.2.2.2.2.2 e)).kept hks (fun e => HLT.out.2.2.2.1 e))
    have HMQ := Lib.hid (HM3.out.kept hks (fun e => HLT.out.2.2.2.2.1 e))
    have HROW := Lib.hid hrow2
    have HKF : Hid (Kept (LdB g bp bq) w (w3.setCell ⟨g, 5, none⟩ (.int .i64 (nx + 1)))) := Lib.hid ((HKW.out.mono (T := LdB g bp bq) (fun _ _ e => .inr (.inr e))).setCell (p := ⟨g, 5, none⟩) (.inl (.inl rfl)) _)
    clear hrow hrow2 hks
    go_wp2
    go_end0
    exact ⟨rfl, ⟨HROW.out, HMP.out, HMQ.out, HLT.out.2.2.2.2.2⟩, HKF.out⟩
set_option maxRecDepth 100000 in
set_option maxHeartbeats 2000000 in
theorem proposes_none (w : World) (g bp bq : Nat) (me ms st bal fr nx k ch ep nd : Int) (P : List Vt) (h : LdAt w g bp bq me ms st bal fr nx P []) :
    Calls Try.prog 53 #[.pointer (some ⟨g, 0, none⟩), .agg #[.int .i64 k, .int .i64 ch, .int .u64 ep, .int .i64 nd]] w fun e w' => e = .returned (.bool false) ∧ Kept NoB w w' := by
  have hkey : Maps.Keyed Try.prog 3 := Maps.int_keyed Try.underlying3
  have hk := (Kept.refl NoB w).alloc (.cells #[.int .i64 k, .int .i64 ch, .int .u64 ep, .int .i64 nd] 39)
  obtain ⟨W, hW⟩ : ∃ W, W = w.alloc (.cells #[.int .i64 k, .int .i64 ch, .int .u64 ep, .int .i64 nd] 39) := ⟨_, rfl⟩
  have HWW := Lib.hid hW
  rw [← hW] at hk
  have HK := Lib.hid hk
  have HM := Lib.hid (h.no hk).mq.2
  obtain ⟨c0, c1, c2, c3, c4, c5, c6, c7⟩ := (h.no hk).c
  clear h hk hW
  go_enter Try.func53, Try.ntmps53
  go_upto_region 1 with fail
  rw [← HWW.out]
  go_wp2_with (first
    | (at_range; refine wpList_range_own _ rfl _ 100 rfl 3 123 hkey Try.underlying100 heldE bq 0 _ rfl HM.out ?_; intro w0 hrg0 hg0 hs0; have HRG0 := Lib.hid hrg0; have HKR := Lib.hid (HK.out.grown hg0 (fun k hk => by cases hk)); clear hrg0 hg0 hs0))
  go_frame
  go_loopw [6] (fun _ wr => ∃ (left : Lit → Bool) (cnt : Nat), wr.ranges Try.prog 3 heldE bq W.heap.size 0 (datV ppv []) left cnt ∧ (∀ z, left z = true → Maps.has (datV ppv []) z = true) ∧ wr = w0) (fun _ wr => wr.rangeLeft bq W.heap.size)
  case atStart => exact ⟨_, _, HRG0.out, fun z hz => hz, rfl⟩
  case round =>
    obtain ⟨left, cnt, hrg, hin, rfl⟩ := hrel
    go_wp2_with (first
      | (at_next; refine wpList_next_ranges _ rfl _ rfl 3 hkey heldE (Value.int .i64) (fun v : Value => v) (fun key kl hkey => by obtain ⟨x, rfl, _⟩ := Maps.keyOf_int_inv Try.underlying3 hkey; exact ⟨x, rfl⟩) (fun v y _ => ⟨v, rfl⟩) bq W.heap.size 0 _ left cnt rfl hrg ?_ ?_))
    · intro hc0 hl0
      clear hc0 hl0 hrg hin
      go_wp2
      go_ret
      exact ⟨rfl, HKR.out⟩
    · intro x cv kl ya yb w1 cnt1 hkx hlx
      obtain ⟨x', ex, rfl, hwx⟩ := Maps.keyOf_int_inv Try.underlying3 hkx
      have := hin _ hlx
      rw [datV_has] at this
      cases this
end Go.Proofs.Ytidhaofojcdbaaa
