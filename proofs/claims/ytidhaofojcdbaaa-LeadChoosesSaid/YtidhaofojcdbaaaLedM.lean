/-
  Package lead: Accepted, where one command is proposed.
-/
import Derived.Test.YtidhaofojcdbaaaLedL
namespace Go.Proofs.Ytidhaofojcdbaaa
open Go.RowKit Go.Maps
set_option linter.unusedVariables false

/-- The set with one more. -/
def accN (a : Nat) (who : Int) : Nat := clr (ors a [who])
def AccdE (g bp bq : Nat) (me n bal fr nx s k ch ep nd : Int) (a2 : Nat) (en : Bool) (P : List Vt) (w : World) (e : Ending) (w' : World) : Prop :=
  e = .returned (.tuple #[if en then pvt s bal k ch ep nd else vtz, .bool en]) ∧ LdAt w' g bp bq me n 2 bal fr nx P (if en then [] else [⟨s, a2, k, ch, ep, nd⟩]) ∧ Kept (LdB g bp bq) w w'
theorem cells5p {w : World} {b : Nat} {x0 x1 x2 x3 x4 : Value} {t : TypeId} (h : w.heap[b]? = some (.cells #[x0, x1, x2, x3, x4] t (0, 0))) : w.cell? ⟨b, 0, none⟩ = some x0 ∧ w.cell? ⟨b, 1, none⟩ = some x1 ∧ w.cell? ⟨b, 2, none⟩ = some x2 ∧ w.cell? ⟨b, 3, none⟩ = some x3 ∧ w.cell? ⟨b, 4, none⟩ = some x4 ∧ w.frozen? ⟨b, 4, none⟩ = false :=
  ⟨cell_of_row _ _ 0 _ _ _ h, cell_of_row _ _ 1 _ _ _ h, cell_of_row _ _ 2 _ _ _ h, cell_of_row _ _ 3 _ _ _ h, cell_of_row _ _ 4 _ _ _ h, blkA_frozen h 4⟩
theorem rdI_one (w : World) (x : Int) : RdI (w.alloc (.cells #[.int .i64 x] 3)) (.slice (some ⟨w.heap.size, 0, none⟩) 1 1) [x] := by
  refine ⟨_, 1, rfl, (fun h => by cases h), fun i hi => ⟨_, 0, rfl, by simp, ?_⟩⟩
  obtain rfl : i = 0 := by simpa using hi
  exact cell_of_row _ _ 0 _ _ _ (heap_alloc_new w _)
theorem del_one (s a k ch ep nd : Int) : (datV ppv [⟨s, a, k, ch, ep, nd⟩]).del (.int .i64 s) = datV ppv [] := by
  unfold datV
  simp [DataW.del, ent, Lit.sameKey]
set_option maxRecDepth 100000 in
set_option maxHeartbeats 4000000 in
theorem Accepted_any (w : World) (g bp bq n a : Nat) (me bal fr nx s k ch ep nd who : Int) (P : List Vt) (h : LdAt w g bp bq me n 2 bal fr nx P [⟨s, a, k, ch, ep, nd⟩]) (hn : n ≤ 5) (hw1 : 1 ≤ who) (hw2 : who ≤ (n : Int)) (hs0 : 0 ≤ s) (hs1 : s ≤ 512) (ha : a < 18446744073709551616) (en : Bool) (hen : enough (accN a who) n = en) :
    Calls Try.prog 21 #[.pointer (some ⟨g, 0, none⟩), .int .u64 bal, .int .i64 s, .int .i64 who] w (AccdE g bp bq me n bal fr nx s k ch ep nd (accN a who) en P w) := by
  have hwf : (Lit.int .i64 s).wf = true := WalkArith.wf_i64 (by omega)
  have HWF := Lib.hid hwf
  have hr := heap_alloc_new w (.cells #[.int .i64 0, .int .u64 0, .int .i64 0, .int .i64 0, .int .u64 0, .int .i64 0] 48)
  have hk := (Kept.refl NoB w).alloc (.cells #[.int .i64 0, .int .u64 0, .int .i64 0, .int .i64 0, .int .u64 0, .int .i64 0] 48)
  have hz : (w.alloc (.cells #[.int .i64 0, .int .u64 0, .int .i64 0, .int .i64 0, .int .u64 0, .int .i64 0] 48)).heap.size = w.heap.size + 1 := by simp
  obtain ⟨W, hW⟩ : ∃ W, W = w.alloc (.cells #[.int .i64 0, .int .u64 0, .int .i64 0, .int .i64 0, .int .u64 0, .int .i64 0] 48) := ⟨_, rfl⟩
  have HWW := Lib.hid hW
  rw [← hW] at hr hk hz
  have HZ := Lib.hid hz
  have HR := Lib.hid hr
  have HK := Lib.hid hk
  have HL := Lib.hid (h.no hk)
  have HG : Hid (g < w.heap.size ∧ bp < w.heap.size ∧ bq < w.heap.size ∧ bp ≠ g ∧ bq ≠ g ∧ bp ≠ bq) := Lib.hid h.lt
  have HMQ := Lib.hid HL.out.mq
  have HIM := Lib.hid (DMaster_any W g bp bq me n 2 bal fr nx who P _ HL.out hw1 hw2)
  have HEN := Lib.hid hen
  have hbal : (bal != bal) = false := by simp
  obtain ⟨c0, c1, c2, c3, c4, c5, c6, c7⟩ := HL.out.c
  clear h hr hk hW hz hwf hen
  go_enter Try.func21, Try.ntmps21
  go_upto_region 1 with fail
  rw [← HWW.out]
  go_wp2_with fail
  refine HIM.out.mono ?_
  rintro e w1 ⟨rfl, rfl⟩
  go_upto_region 4 with (at_lookup; refine wpList_look_mv _ rfl _ _ 100 rfl 3 123 Try.underlying3 Try.underlying100 (ppv vt0) (zero_prop _) bq ppv [⟨s, a, k, ch, ep, nd⟩] s rfl HMQ.out rfl HWF.out ?_; rw [show atV [(⟨s, a, k, ch, ep, nd⟩ : Vt)] s = some ⟨s, a, k, ch, ep, nd⟩ from by unfold atV; simp]; simp only [Option.map_some, Option.getD_some, Option.isSome_some, ppv])
  have HP2 := Lib.hid (heap_alloc_new W (.cells #[.int .i64 k, .int .i64 ch, .int .u64 ep, .int .i64 nd, .int .u64 (a : Nat)] 123))
  have HK2 := Lib.hid ((Kept.refl NoB W).alloc (.cells #[.int .i64 k, .int .i64 ch, .int .u64 ep, .int .i64 nd, .int .u64 (a : Nat)] 123))
  obtain ⟨b10, hb10⟩ : ∃ x, x = W.heap.size := ⟨_, rfl⟩
  have HB10 : Hid (b10 = w.heap.size + 1) := Lib.hid (by rw [hb10, HZ.out])
  obtain ⟨W2, hW2⟩ : ∃ x, x = W.alloc (.cells #[.int .i64 k, .int .i64 ch, .int .u64 ep, .int .i64 nd, .int .u64 (a : Nat)] 123) := ⟨_, rfl⟩
  rw [← hb10] at HP2 ⊢
  rw [← hW2] at HP2 HK2 ⊢
  clear hW2 hb10 c0 c1 c2 c3 c4 c5 c6 c7
  obtain ⟨p0, p1, p2, p3, p4, pf4⟩ := cells5p HP2.out
  have p4' := cell_alloc p4 (.cells #[.int .i64 who] 3)
  have HRD := Lib.hid (rdI_one W2 who)
  have HKS := Lib.hid ((Kept.refl NoB W2).alloc (.cells #[.int .i64 who] 3))
  go_wp2_with fail
  refine (bWith_any a _ [who] _ ha HRD.out (by simp)).mono ?_
  rintro e w3 ⟨rfl, rfl⟩
  obtain ⟨a2, ha2⟩ : ∃ x, x = accN a who := ⟨_, rfl⟩
  have HA2 : Hid (a2 < 18446744073709551616) := Lib.hid (by rw [ha2]; unfold accN; have := ors_lt [who] a ha; unfold clr; omega)
  have HAE := Lib.hid ha2
  rw [show clr (ors a [who]) = a2 from ha2.symm]
  rw [← ha2] at HEN
  clear ha2 p0 p1 p2 p3 p4 pf4 p4'
  have HP3 := Lib.hid (HKS.out.heap (fun h => h) HP2.out)
  obtain ⟨W3, hW3⟩ : ∃ x, x = W2.alloc (.cells #[.int .i64 who] 3) := ⟨_, rfl⟩
  rw [← hW3] at HP3 HKS ⊢
  clear hW3
  obtain ⟨p0, p1, p2, p3, p4, pf4⟩ := cells5p HP3.out
  go_upto_region 7 with fail
  have HP4 := Lib.hid (blkA_set HP3.out 4 (.int .u64 (a2 : Nat)))
  have HK4 := Lib.hid ((Kept.refl (fun i => i = b10) W3).setCell (p := ⟨b10, 4, none⟩) (.inl rfl) (.int .u64 (a2 : Nat)))
  obtain ⟨W4, hW4⟩ : ∃ x, x = W3.setCell ⟨b10, 4, none⟩ (.int .u64 (a2 : Nat)) := ⟨_, rfl⟩
  rw [← hW4] at HP4 HK4 ⊢
  clear hW4 p0 p1 p2 p3 p4 pf4
  have HP4 : Hid (W4.heap[b10]? = some (.cells #[.int .i64 k, .int .i64 ch, .int .u64 ep, .int .i64 nd, .int .u64 (a2 : Nat)] 123 (0, 0))) := HP4
  have HKW4 : Hid (Kept (fun i => i = b10) W W4) := Lib.hid (((HK2.out.trans HKS.out (fun _ _ h => h)).mono (T := fun i => i = b10) (fun _ _ h => h.elim)).trans HK4.out (fun _ _ h => h))
  have HGL : Hid (¬ g = b10 ∧ ¬ bp = b10 ∧ ¬ bq = b10 ∧ ¬ w.heap.size = b10) := Lib.hid (by have := HG.out; have := HB10.out; omega)
  have HL4 := Lib.hid (HL.out.kept HKW4.out HGL.out.1 HGL.out.2.1 HGL.out.2.2.1)
  have HR4 := Lib.hid (HKW4.out.heap HGL.out.2.2.2 HR.out)
  have HKA : Hid (Kept NoB w W4) := Lib.hid (((HK.out.mono (T := fun i => i = b10) (fun _ _ h => h.elim)).trans HKW4.out (fun _ _ h => h)).mono (fun i hi e => by have := HB10.out; have e : i = b10 := e; omega))
  clear HL HR HMQ HIM HP2 HP3 HK2 HRD HKS HK4 HKW4 HK HZ HWW
  obtain ⟨w5, hrun0, hm5, hg5⟩ := run_store_mv (P := Try.prog) W4.drew 100 3 123 Try.underlying3 Try.underlying100 bq ppv [⟨s, a, k, ch, ep, nd⟩] ⟨s, a2, k, ch, ep, nd⟩ (HL4.out.mq.kept (Kept.refl NoB W4).drew (fun h => h)) HWF.out (by simp)
  have hrun : (Instr.mapUpdate 100 (.map (some bq)) (.int .i64 s) (.agg #[.int .i64 k, .int .i64 ch, .int .u64 ep, .int .i64 nd, .int .u64 (a2 : Nat)])).run Try.prog W4.drew = .ok () w5 := hrun0
  have hput : putV [(⟨s, a, k, ch, ep, nd⟩ : Vt)] ⟨s, a2, k, ch, ep, nd⟩ = [⟨s, a2, k, ch, ep, nd⟩] := by unfold putV; simp
  rw [hput] at hm5
  have hk5 : Kept (fun i => i = bq) W4.drew w5 := (Kept.refl (fun i => i = bq) W4.drew).grown hg5 (fun i hi => .inl (by injection hi with hi; exact hi.symm))
  have HM5 := Lib.hid hm5
  have HK5 : Hid (Kept (fun i => i = bq) W4 w5) := Lib.hid ((Kept.refl (fun i => i = bq) W4).drew.trans hk5 (fun _ _ h => h))
  clear hrun0 hm5 hg5 hk5 hput
  obtain ⟨c0, c1, c2, c3, c4, c5, c6, c7⟩ := HL4.out.c
  obtain ⟨p0, p1, p2, p3, p4, pf4⟩ := cells5p HP4.out
  go_region
  all_goals
    clear hrun c0 c1 c2 c3 c4 c5 c6 c7 p0 p1 p2 p3 p4 pf4
    have hgb := HG.out
    have HL5 : Hid (LdAt w5 g bp bq me n 2 bal fr nx P [⟨s, a2, k, ch, ep, nd⟩]) := Lib.hid ⟨HK5.out.heap (fun e => hgb.2.2.2.2.1 e.symm) HL4.out.cells, HL4.out.mp.kept HK5.out (fun e => hgb.2.2.2.2.2 e), HM5.out, HL4.out.ne⟩
    have HP5 := Lib.hid (HK5.out.heap (fun e => HGL.out.2.2.1 e.symm) HP4.out)
    have HR5 := Lib.hid (HK5.out.heap (fun e => by have e : w.heap.size = bq := e; omega) HR4.out)
    have HKB : Hid (Kept (LdB g bp bq) w w5) := Lib.hid ((HKA.out.mono (T := LdB g bp bq) (fun _ _ h => h.elim)).trans HK5.out (fun i _ e => .inr (.inr e)))
    clear hgb HL4 HP4 HR4 HKA HK5 HM5
    have HBE := Lib.hid (fun w' => bEnough_any a2 (n : Int) w' HA2.out (by omega))
    rw [HEN.out] at HBE
    obtain ⟨c0, c1, c2, c3, c4, c5, c6, c7⟩ := HL5.out.c
    obtain ⟨p0, p1, p2, p3, p4, pf4⟩ := cells5p HP5.out
    have HKQ : Hid (Kept NoB w5 w5.drew) := Lib.hid (Kept.refl NoB w5).drew
    go_upto_region 8 with fail
    go_region_held3 (fun w' => w'.cell? ⟨b10, 4, none⟩ = some (.int .u64 (a2 : Nat)) ∧ w'.cell? ⟨g, 1, none⟩ = some (.int .i64 (n : Int)))
      (first
        | (with_reducible exact ⟨cell_drew p4, cell_drew c1⟩)
        | (with_reducible exact ⟨k4, k1⟩)
        | go_keep)
      ((go_at_call 61; (with_reducible refine (HBE.out _).mono ?_); rintro e w6 ⟨rfl, hk6⟩; have HK6 := Lib.hid (HKQ.out.trans hk6 (fun _ _ h => h)); clear hk6; have k4 := HK6.out.cell (p := ⟨b10, 4, none⟩) (fun h => h) p4; have k1 := HK6.out.cell (p := ⟨g, 1, none⟩) (fun h => h) c1))
    all_goals
      clear c0 c1 c2 c3 c4 c5 c6 c7 p0 p1 p2 p3 p4 pf4 k4 k1
      have HL6 := Lib.hid (HL5.out.no HK6.out)
      have HR6 := Lib.hid (HK6.out.heap (fun h => h) HR5.out)
      have HKC := Lib.hid (HKB.out.trans HK6.out (fun _ _ h => h.elim))
      cases en with
      | false =>
        obtain ⟨r0, r1, r2, r3, r4, r5⟩ := cells6v HR6.out
        obtain ⟨f0, f1, f2, f3, f4, f5⟩ := frz6v HR6.out
        go_wp2
        have hF := six_at HR6.out (.int .i64 0) (.int .u64 0) (.int .i64 0) (.int .i64 0) (.int .u64 0) (.int .i64 0)
        have hK := HKC.out.six (b := w.heap.size) (.inr (Nat.le_refl _)) (.int .i64 0) (.int .u64 0) (.int .i64 0) (.int .i64 0) (.int .u64 0) (.int .i64 0)
        have hL := HL6.out.kept ((Kept.refl (fun i => i = w.heap.size) w6).six (b := w.heap.size) (.inl rfl) (.int .i64 0) (.int .u64 0) (.int .i64 0) (.int .i64 0) (.int .u64 0) (.int .i64 0)) (fun e => by have e : g = w.heap.size := e; have := HG.out; omega) (fun e => by have e : bp = w.heap.size := e; have := HG.out; omega) (fun e => by have e : bq = w.heap.size := e; have := HG.out; omega)
        clear r0 r1 r2 r3 r4 r5 f0 f1 f2 f3 f4 f5
        obtain ⟨r0, r1, r2, r3, r4, r5⟩ := cells6v hF
        clear hF
        unfold six at r0 r1 r2 r3 r4 r5 hK hL
        generalize hW : World.setCell _ _ _ = W9 at r0 r1 r2 r3 r4 r5 hK hL ⊢
        have hae := HAE.out
        subst hae
        exact bodyPost_ret (v := .tuple #[vtz, .bool false]) (by simp [results, Try.results21, go_sem, r0, r1, r2, r3, r4, r5]) rfl ⟨rfl, hL, hK⟩
      | true =>
        have HVO := Lib.hid (vote_any w6 g bp bq me n 2 bal fr nx s (a2 : Nat) k ch ep nd P [⟨s, a2, k, ch, ep, nd⟩] HL6.out (by unfold atV; simp) HWF.out)
        go_wp2_with fail
        refine HVO.out.mono ?_
        rintro e w7 ⟨rfl, hk7⟩
        have HV7 := Lib.hid (heap_alloc_new w7 (.cells #[.int .i64 s, .int .u64 bal, .int .i64 k, .int .i64 ch, .int .u64 ep, .int .i64 nd] 48))
        have HK7 := Lib.hid (hk7.alloc (.cells #[.int .i64 s, .int .u64 bal, .int .i64 k, .int .i64 ch, .int .u64 ep, .int .i64 nd] 48))
        have HZ7 : Hid (w6.heap.size ≤ w7.heap.size) := Lib.hid hk7.size
        clear hk7
        go_upto_region 11 with fail
        obtain ⟨b12, hb12⟩ : ∃ x, x = w7.heap.size := ⟨_, rfl⟩
        obtain ⟨W8, hW8⟩ : ∃ x, x = w7.alloc (.cells #[.int .i64 s, .int .u64 bal, .int .i64 k, .int .i64 ch, .int .u64 ep, .int .i64 nd] 48) := ⟨_, rfl⟩
        rw [← hb12] at HV7 HZ7 ⊢
        rw [← hW8] at HV7 HK7 ⊢
        clear hb12 hW8
        have HL8 := Lib.hid (HL6.out.no HK7.out)
        have HR8 := Lib.hid (HK7.out.heap (fun h => h) HR6.out)
        have HK8 := Lib.hid (HKC.out.trans HK7.out (fun _ _ h => h.elim))
        have HM8 := Lib.hid HL8.out.mq.2
        obtain ⟨c0, c1, c2, c3, c4, c5, c6, c7⟩ := HL8.out.c
        go_upto_region 12 with (at_delete; refine wpList_delete_own _ rfl _ _ 100 3 rfl 123 (Maps.int_keyed Try.underlying3) Try.underlying100 heldE bq _ _ rfl HM8.out (.int .i64 s) (.int .i64 s) rfl (Maps.keyOf_int_mk Try.underlying3 HWF.out) ?_; intro w9 hown9 hturn9; have HOWN9 := Lib.hid hown9; have HT9 := Lib.hid hturn9; clear hown9 hturn9)
        go_frame
        have HK9 : Hid (Kept (fun i => i = bq) W8 w9) := Lib.hid ((Kept.refl (fun i => i = bq) W8).grown HT9.out.grown (fun i hi => .inl (by injection hi with hi; exact hi.symm)))
        have HM9 : Hid (MapV Try.prog 3 ppv w9 bq []) := Lib.hid ⟨List.Pairwise.nil, own_exact (by have := HOWN9.out; rw [del_one] at this; exact this)⟩
        have hgb := HG.out
        have HL9 : Hid (LdAt w9 g bp bq me n 2 bal fr nx P []) := Lib.hid ⟨HK9.out.heap (fun e => hgb.2.2.2.2.1 e.symm) HL8.out.cells, HL8.out.mp.kept HK9.out (fun e => hgb.2.2.2.2.2 e), HM9.out, HL8.out.ne⟩
        have HR9 := Lib.hid (HK9.out.heap (fun e => by have e : w.heap.size = bq := e; omega) HR8.out)
        have HV9 := Lib.hid (HK9.out.heap (fun e => by have e : b12 = bq := e; have h1 := HKC.out.size; have h2 := HZ7.out; omega) HV7.out)
        have HKF := Lib.hid (HK8.out.trans HK9.out (fun i _ e => .inr (.inr e)))
        clear HOWN9 HT9 HK9 HM9 hgb c0 c1 c2 c3 c4 c5 c6 c7
        have hbb : ¬ w.heap.size = b12 := fun e => by have h1 := HKC.out.size; have h2 := HZ7.out; have h3 := heap_lt HR6.out; omega
        have hbc : ¬ b12 = w.heap.size := fun e => hbb e.symm
        obtain ⟨x0, x1, x2, x3, x4, x5⟩ := cells6v HV9.out
        obtain ⟨r0, r1, r2, r3, r4, r5⟩ := cells6v HR9.out
        obtain ⟨f0, f1, f2, f3, f4, f5⟩ := frz6v HR9.out
        go_wp2
        have hF := six_at HR9.out (.int .i64 s) (.int .u64 bal) (.int .i64 k) (.int .i64 ch) (.int .u64 ep) (.int .i64 nd)
        have hK := HKF.out.six (b := w.heap.size) (.inr (Nat.le_refl _)) (.int .i64 s) (.int .u64 bal) (.int .i64 k) (.int .i64 ch) (.int .u64 ep) (.int .i64 nd)
        have hL := HL9.out.kept ((Kept.refl (fun i => i = w.heap.size) w9).six (b := w.heap.size) (.inl rfl) (.int .i64 s) (.int .u64 bal) (.int .i64 k) (.int .i64 ch) (.int .u64 ep) (.int .i64 nd)) (fun e => by have e : g = w.heap.size := e; have := HG.out; omega) (fun e => by have e : bp = w.heap.size := e; have := HG.out; omega) (fun e => by have e : bq = w.heap.size := e; have := HG.out; omega)
        clear r0 r1 r2 r3 r4 r5 f0 f1 f2 f3 f4 f5 x0 x1 x2 x3 x4 x5
        obtain ⟨r0, r1, r2, r3, r4, r5⟩ := cells6v hF
        clear hF
        unfold six at r0 r1 r2 r3 r4 r5 hK hL
        generalize hW : World.setCell _ _ _ = W10 at r0 r1 r2 r3 r4 r5 hK hL ⊢
        exact bodyPost_ret (v := .tuple #[pvt s bal k ch ep nd, .bool true]) (by simp [results, Try.results21, go_sem, r0, r1, r2, r3, r4, r5]) rfl ⟨rfl, hL, hK⟩
end Go.Proofs.Ytidhaofojcdbaaa
