/-
  Package lead: Propose, where nothing is proposed.
-/
import Derived.Test.YtidhaofojcdbaaaLedK
namespace Go.Proofs.Ytidhaofojcdbaaa
open Go.RowKit
set_option linter.unusedVariables false

def propX (e0 nx : Int) : Int := if e0 ≠ 0 then e0 else if nx = 512 then 9 else 0
def PropE (g bp bq : Nat) (me ms bal fr nx e0 k ch ep nd : Int) (P : List Vt) (w : World) (e : Ending) (w' : World) : Prop :=
  (propX e0 nx ≠ 0 ∧ e = .returned (.tuple #[vtz, .int .i64 (propX e0 nx)]) ∧ LdAt w' g bp bq me ms 2 bal fr nx P [] ∧ Kept NoB w w') ∨
  (propX e0 nx = 0 ∧ e = .returned (.tuple #[pvt nx bal k ch ep nd, .int .i64 0]) ∧ LdAt w' g bp bq me ms 2 bal fr (nx + 1) P [⟨nx, 0, k, ch, ep, nd⟩] ∧ Kept (LdB g bp bq) w w')
theorem prop_err {g bp bq : Nat} {me ms bal fr nx e0 k ch ep nd x : Int} {P : List Vt} {w w' : World} (hx : propX e0 nx = x) (h0 : x ≠ 0) (h : LdAt w g bp bq me ms 2 bal fr nx P []) (hk : Kept NoB w w') : PropE g bp bq me ms bal fr nx e0 k ch ep nd P w (.returned (.tuple #[vtz, .int .i64 x])) w' := by
  subst hx
  exact .inl ⟨h0, rfl, h.no hk, hk⟩
set_option maxRecDepth 100000 in
set_option maxHeartbeats 4000000 in
theorem Propose_any (w : World) (g bp bq : Nat) (me ms bal fr nx e0 k ch ep nd : Int) (P : List Vt) (h : LdAt w g bp bq me ms 2 bal fr nx P []) (h0 : 0 ≤ nx) (h1 : nx ≤ 512) (hx : Chk k ch ep nd e0) (hep : 0 ≤ ep) :
    Calls Try.prog 16 #[.pointer (some ⟨g, 0, none⟩), .agg #[.int .i64 k, .int .i64 ch, .int .u64 ep, .int .i64 nd]] w (PropE g bp bq me ms bal fr nx e0 k ch ep nd P w) := by
  have HCK : Hid (∀ w, Calls Try.prog 52 #[.agg #[.int .i64 k, .int .i64 ch, .int .u64 ep, .int .i64 nd]] w fun e w' => e = .returned (.int .i64 e0) ∧ Kept NoB w w') :=
    Lib.hid (fun w => (Check_any k ch ep nd w hep).mono (by rintro e w' ⟨y, hy, rfl, hk⟩; exact ⟨by rw [hy.one hx], hk⟩))
  have hc := heap_alloc_new w (.cells #[.int .i64 k, .int .i64 ch, .int .u64 ep, .int .i64 nd] 39)
  have hc2 := blkA_alloc hc (.cells #[.int .i64 0, .int .u64 0, .int .i64 0, .int .i64 0, .int .u64 0, .int .i64 0] 48)
  have hr := heap_alloc_new (w.alloc (.cells #[.int .i64 k, .int .i64 ch, .int .u64 ep, .int .i64 nd] 39)) (.cells #[.int .i64 0, .int .u64 0, .int .i64 0, .int .i64 0, .int .u64 0, .int .i64 0] 48)
  have hz : (w.alloc (.cells #[.int .i64 k, .int .i64 ch, .int .u64 ep, .int .i64 nd] 39)).heap.size = w.heap.size + 1 := by simp
  rw [hz] at hr
  have hk := ((Kept.refl NoB w).alloc (.cells #[.int .i64 k, .int .i64 ch, .int .u64 ep, .int .i64 nd] 39)).alloc (.cells #[.int .i64 0, .int .u64 0, .int .i64 0, .int .i64 0, .int .u64 0, .int .i64 0] 48)
  obtain ⟨W, hW⟩ : ∃ W, W = (w.alloc (.cells #[.int .i64 k, .int .i64 ch, .int .u64 ep, .int .i64 nd] 39)).alloc (.cells #[.int .i64 0, .int .u64 0, .int .i64 0, .int .i64 0, .int .u64 0, .int .i64 0] 48) := ⟨_, rfl⟩
  have HWW := Lib.hid hW
  rw [← hW] at hr hk hc2
  have HR := Lib.hid hr
  have HC := Lib.hid hc2
  have HK := Lib.hid hk
  have H0 := Lib.hid h
  have HL := Lib.hid (h.no hk)
  have HG : Hid (g < w.heap.size ∧ bp < w.heap.size ∧ bq < w.heap.size) := Lib.hid ⟨h.lt.1, h.lt.2.1, h.lt.2.2.1⟩
  clear h hr hk hW hz hc hc2 hx
  go_enter Try.func16, Try.ntmps16
  go_upto_region 3 with fail
  rw [← HWW.out]
  obtain ⟨c0, c1, c2, c3, c4, c5, c6, c7⟩ := HL.out.c
  obtain ⟨d0, d1, d2, d3⟩ := cc13 HC.out
  go_wp2_with fail
  refine (HCK.out _).mono ?_
  rintro e w1 ⟨rfl, hk1⟩
  have HK1 := Lib.hid (HK.out.trans hk1 (fun _ _ h => h))
  have HC1 := Lib.hid (hk1.heap (fun h => h) HC.out)
  have HR1 := Lib.hid (hk1.heap (fun h => h) HR.out)
  have HL1 := Lib.hid (HL.out.no hk1)
  clear hk1 c0 c1 c2 c3 c4 c5 c6 c7 d0 d1 d2 d3
  by_cases he : e0 = 0
  · subst he
    obtain ⟨c0, c1, c2, c3, c4, c5, c6, c7⟩ := HL1.out.c
    obtain ⟨d0, d1, d2, d3⟩ := cc13 HC1.out
    have HMID : Hid (∀ w', Kept NoB w1 w' → Kept NoB w w' ∧ LdAt w' g bp bq me ms 2 bal fr nx P [] ∧ w'.heap[w.heap.size]? = some (.cells #[.int .i64 k, .int .i64 ch, .int .u64 ep, .int .i64 nd] 39 (0, 0)) ∧ w'.heap[w.heap.size + 1]? = some (.cells #[.int .i64 0, .int .u64 0, .int .i64 0, .int .i64 0, .int .u64 0, .int .i64 0] 48 (0, 0))) := Lib.hid (fun w' hk =>
      ⟨HK1.out.trans hk (fun _ _ h => h), HL1.out.no hk, hk.heap (fun h => h) HC1.out, hk.heap (fun h => h) HR1.out⟩)
    by_cases hk0 : k = 0
    · have hkb : (k != 0) = false := by simpa using hk0
      clear hk0
      go_upto_region 10 with fail
      clear c0 c1 c2 c3 c4 c5 c6 c7 d0 d1 d2 d3
      obtain ⟨w2, hw2⟩ : ∃ x, x = w1 := ⟨_, rfl⟩
      obtain ⟨hka, hla, hca, hra⟩ := HMID.out w1 (Kept.refl NoB w1)
      have HKA := Lib.hid hka
      have HLA := Lib.hid hla
      have HCA := Lib.hid hca
      have HRA := Lib.hid hra
      rw [← hw2] at HKA HLA HCA HRA ⊢
      clear hka hla hca hra hw2
      obtain ⟨c0, c1, c2, c3, c4, c5, c6, c7⟩ := HLA.out.c
      have HMQ := Lib.hid HLA.out.mq
      by_cases hn : nx = 512
      · subst hn
        have HX : Hid (propX 0 512 = 9) := Lib.hid (by decide)
        obtain ⟨r0, r1, r2, r3, r4, r5⟩ := cells6v HRA.out
        obtain ⟨f0, f1, f2, f3, f4, f5⟩ := frz6v HRA.out
        go_wp2_with (at_len; refine wpList_len_mv _ rfl _ 100 rfl 3 123 Try.underlying100 bq ppv [] rfl HMQ.out ?_)
        have hF := six_at HRA.out (.int .i64 0) (.int .u64 0) (.int .i64 0) (.int .i64 0) (.int .u64 0) (.int .i64 0)
        have hK := HKA.out.six (b := w.heap.size + 1) (.inr (Nat.le_add_right _ _)) (.int .i64 0) (.int .u64 0) (.int .i64 0) (.int .i64 0) (.int .u64 0) (.int .i64 0)
        clear r0 r1 r2 r3 r4 r5 f0 f1 f2 f3 f4 f5 c0 c1 c2 c3 c4 c5 c6 c7
        obtain ⟨r0, r1, r2, r3, r4, r5⟩ := cells6v hF
        clear hF
        unfold six at r0 r1 r2 r3 r4 r5 hK
        generalize hW : World.setCell _ _ _ = W2 at r0 r1 r2 r3 r4 r5 hK ⊢
        exact bodyPost_ret (v := .tuple #[vtz, .int .i64 9]) (by simp [results, Try.results16, go_sem, r0, r1, r2, r3, r4, r5]) rfl (prop_err HX.out (by decide) H0.out hK)
      · have hnb : (nx == 512) = false := by simpa using hn
        have HX : Hid (propX 0 nx = 0) := Lib.hid (by unfold propX; rw [if_neg (by simp), if_neg hn])
        have hwf : (Lit.int .i64 nx).wf = true := WalkArith.wf_i64 (by omega)
        have HWF := Lib.hid hwf
        have HADD := Lib.hid (add_any w2 g bp bq me ms 2 bal fr nx k ch ep nd P [] HLA.out h0 (by omega) (by simp))
        obtain ⟨d0, d1, d2, d3⟩ := cc13 HCA.out
        clear hn hwf
        go_wp2_with (first
          | (at_len; refine wpList_len_mv _ rfl _ 100 rfl 3 123 Try.underlying100 bq ppv [] rfl HMQ.out ?_)
          | fail)
        refine HADD.out.mono ?_
        rintro e w3 ⟨rfl, hl3, hk3⟩
        have HL3 : Hid (LdAt w3 g bp bq me ms 2 bal fr (nx + 1) P [⟨nx, 0, k, ch, ep, nd⟩]) := Lib.hid hl3
        have HR3 := Lib.hid (hk3.heap (fun e => by have := HG.out; rcases e with e | e | e <;> omega) HRA.out)
        have HK3 : Hid (Kept (LdB g bp bq) w w3) := Lib.hid ((HKA.out.mono (T := LdB g bp bq) (fun _ _ h => h.elim)).trans hk3 (fun _ _ h => h))
        clear hl3 hk3 c0 c1 c2 c3 c4 c5 c6 c7 d0 d1 d2 d3
        have HVO := Lib.hid (vote_any w3 g bp bq me ms 2 bal fr (nx + 1) nx 0 k ch ep nd P [⟨nx, 0, k, ch, ep, nd⟩] HL3.out (by unfold atV; simp) HWF.out)
        go_wp2_with fail
        refine HVO.out.mono ?_
        rintro e w4 ⟨rfl, hk4⟩
        have HL4 := Lib.hid (HL3.out.no hk4)
        have HR4 := Lib.hid (hk4.heap (fun h => h) HR3.out)
        have HK4 := Lib.hid (HK3.out.trans hk4 (fun _ _ h => h.elim))
        clear hk4
        obtain ⟨r0, r1, r2, r3, r4, r5⟩ := cells6v HR4.out
        obtain ⟨f0, f1, f2, f3, f4, f5⟩ := frz6v HR4.out
        go_wp2
        have hF := six_at HR4.out (.int .i64 nx) (.int .u64 bal) (.int .i64 k) (.int .i64 ch) (.int .u64 ep) (.int .i64 nd)
        have hK := HK4.out.six (b := w.heap.size + 1) (.inr (Nat.le_add_right _ _)) (.int .i64 nx) (.int .u64 bal) (.int .i64 k) (.int .i64 ch) (.int .u64 ep) (.int .i64 nd)
        have hL := HL4.out.kept ((Kept.refl (fun i => i = w.heap.size + 1) w4).six (b := w.heap.size + 1) (.inl rfl) (.int .i64 nx) (.int .u64 bal) (.int .i64 k) (.int .i64 ch) (.int .u64 ep) (.int .i64 nd)) (fun e => by have e : g = w.heap.size + 1 := e; have := HG.out; omega) (fun e => by have e : bp = w.heap.size + 1 := e; have := HG.out; omega) (fun e => by have e : bq = w.heap.size + 1 := e; have := HG.out; omega)
        clear r0 r1 r2 r3 r4 r5 f0 f1 f2 f3 f4 f5
        obtain ⟨r0, r1, r2, r3, r4, r5⟩ := cells6v hF
        clear hF
        unfold six at r0 r1 r2 r3 r4 r5 hK hL
        generalize hW : World.setCell _ _ _ = W2 at r0 r1 r2 r3 r4 r5 hK hL ⊢
        exact bodyPost_ret (v := .tuple #[pvt nx bal k ch ep nd, .int .i64 0]) (by simp [results, Try.results16, go_sem, r0, r1, r2, r3, r4, r5]) rfl (.inr ⟨HX.out, rfl, hL, hK⟩)
    · have hkb : (k != 0) = true := by simpa using hk0
      clear hk0
      go_wp2_with fail
      refine (proposes_none w1 g bp bq me ms 2 bal fr nx k ch ep nd P HL1.out).mono ?_
      rintro e w2 ⟨rfl, hk2⟩
      obtain ⟨hka, hla, hca, hra⟩ := HMID.out w2 hk2
      have HKA := Lib.hid hka
      have HLA := Lib.hid hla
      have HCA := Lib.hid hca
      have HRA := Lib.hid hra
      clear hka hla hca hra hk2 c0 c1 c2 c3 c4 c5 c6 c7 d0 d1 d2 d3
      go_upto_region 10 with fail
      obtain ⟨c0, c1, c2, c3, c4, c5, c6, c7⟩ := HLA.out.c
      have HMQ := Lib.hid HLA.out.mq
      by_cases hn : nx = 512
      · subst hn
        have HX : Hid (propX 0 512 = 9) := Lib.hid (by decide)
        obtain ⟨r0, r1, r2, r3, r4, r5⟩ := cells6v HRA.out
        obtain ⟨f0, f1, f2, f3, f4, f5⟩ := frz6v HRA.out
        go_wp2_with (at_len; refine wpList_len_mv _ rfl _ 100 rfl 3 123 Try.underlying100 bq ppv [] rfl HMQ.out ?_)
        have hF := six_at HRA.out (.int .i64 0) (.int .u64 0) (.int .i64 0) (.int .i64 0) (.int .u64 0) (.int .i64 0)
        have hK := HKA.out.six (b := w.heap.size + 1) (.inr (Nat.le_add_right _ _)) (.int .i64 0) (.int .u64 0) (.int .i64 0) (.int .i64 0) (.int .u64 0) (.int .i64 0)
        clear r0 r1 r2 r3 r4 r5 f0 f1 f2 f3 f4 f5 c0 c1 c2 c3 c4 c5 c6 c7
        obtain ⟨r0, r1, r2, r3, r4, r5⟩ := cells6v hF
        clear hF
        unfold six at r0 r1 r2 r3 r4 r5 hK
        generalize hW : World.setCell _ _ _ = W2 at r0 r1 r2 r3 r4 r5 hK ⊢
        exact bodyPost_ret (v := .tuple #[vtz, .int .i64 9]) (by simp [results, Try.results16, go_sem, r0, r1, r2, r3, r4, r5]) rfl (prop_err HX.out (by decide) H0.out hK)
      · have hnb : (nx == 512) = false := by simpa using hn
        have HX : Hid (propX 0 nx = 0) := Lib.hid (by unfold propX; rw [if_neg (by simp), if_neg hn])
        have hwf : (Lit.int .i64 nx).wf = true := WalkArith.wf_i64 (by omega)
        have HWF := Lib.hid hwf
        have HADD := Lib.hid (add_any w2 g bp bq me ms 2 bal fr nx k ch ep nd P [] HLA.out h0 (by omega) (by simp))
        obtain ⟨d0, d1, d2, d3⟩ := cc13 HCA.out
        clear hn hwf
        go_wp2_with (first
          | (at_len; refine wpList_len_mv _ rfl _ 100 rfl 3 123 Try.underlying100 bq ppv [] rfl HMQ.out ?_)
          | fail)
        refine HADD.out.mono ?_
        rintro e w3 ⟨rfl, hl3, hk3⟩
        have HL3 : Hid (LdAt w3 g bp bq me ms 2 bal fr (nx + 1) P [⟨nx, 0, k, ch, ep, nd⟩]) := Lib.hid hl3
        have HR3 := Lib.hid (hk3.heap (fun e => by have := HG.out; rcases e with e | e | e <;> omega) HRA.out)
        have HK3 : Hid (Kept (LdB g bp bq) w w3) := Lib.hid ((HKA.out.mono (T := LdB g bp bq) (fun _ _ h => h.elim)).trans hk3 (fun _ _ h => h))
        clear hl3 hk3 c0 c1 c2 c3 c4 c5 c6 c7 d0 d1 d2 d3
        have HVO := Lib.hid (vote_any w3 g bp bq me ms 2 bal fr (nx + 1) nx 0 k ch ep nd P [⟨nx, 0, k, ch, ep, nd⟩] HL3.out (by unfold atV; simp) HWF.out)
        go_wp2_with fail
        refine HVO.out.mono ?_
        rintro e w4 ⟨rfl, hk4⟩
        have HL4 := Lib.hid (HL3.out.no hk4)
        have HR4 := Lib.hid (hk4.heap (fun h => h) HR3.out)
        have HK4 := Lib.hid (HK3.out.trans hk4 (fun _ _ h => h.elim))
        clear hk4
        obtain ⟨r0, r1, r2, r3, r4, r5⟩ := cells6v HR4.out
        obtain ⟨f0, f1, f2, f3, f4, f5⟩ := frz6v HR4.out
        go_wp2
        have hF := six_at HR4.out (.int .i64 nx) (.int .u64 bal) (.int .i64 k) (.int .i64 ch) (.int .u64 ep) (.int .i64 nd)
        have hK := HK4.out.six (b := w.heap.size + 1) (.inr (Nat.le_add_right _ _)) (.int .i64 nx) (.int .u64 bal) (.int .i64 k) (.int .i64 ch) (.int .u64 ep) (.int .i64 nd)
        have hL := HL4.out.kept ((Kept.refl (fun i => i = w.heap.size + 1) w4).six (b := w.heap.size + 1) (.inl rfl) (.int .i64 nx) (.int .u64 bal) (.int .i64 k) (.int .i64 ch) (.int .u64 ep) (.int .i64 nd)) (fun e => by have e : g = w.heap.size + 1 := e; have := HG.out; omega) (fun e => by have e : bp = w.heap.size + 1 := e; have := HG.out; omega) (fun e => by have e : bq = w.heap.size + 1 := e; have := HG.out; omega)
        clear r0 r1 r2 r3 r4 r5 f0 f1 f2 f3 f4 f5
        obtain ⟨r0, r1, r2, r3, r4, r5⟩ := cells6v hF
        clear hF
        unfold six at r0 r1 r2 r3 r4 r5 hK hL
        generalize hW : World.setCell _ _ _ = W2 at r0 r1 r2 r3 r4 r5 hK hL ⊢
        exact bodyPost_ret (v := .tuple #[pvt nx bal k ch ep nd, .int .i64 0]) (by simp [results, Try.results16, go_sem, r0, r1, r2, r3, r4, r5]) rfl (.inr ⟨HX.out, rfl, hL, hK⟩)
  · have heb : (e0 != 0) = true := by simpa using he
    have HX : Hid (propX e0 nx = e0) := Lib.hid (if_pos he)
    have HE := Lib.hid he
    obtain ⟨r0, r1, r2, r3, r4, r5⟩ := cells6v HR1.out
    obtain ⟨f0, f1, f2, f3, f4, f5⟩ := frz6v HR1.out
    go_wp2
    have hF := six_at HR1.out (.int .i64 0) (.int .u64 0) (.int .i64 0) (.int .i64 0) (.int .u64 0) (.int .i64 0)
    have hK := HK1.out.six (b := w.heap.size + 1) (.inr (Nat.le_add_right _ _)) (.int .i64 0) (.int .u64 0) (.int .i64 0) (.int .i64 0) (.int .u64 0) (.int .i64 0)
    clear r0 r1 r2 r3 r4 r5 f0 f1 f2 f3 f4 f5
    obtain ⟨r0, r1, r2, r3, r4, r5⟩ := cells6v hF
    clear hF
    unfold six at r0 r1 r2 r3 r4 r5 hK
    generalize hW : World.setCell _ _ _ = W2 at r0 r1 r2 r3 r4 r5 hK ⊢
    exact bodyPost_ret (v := .tuple #[vtz, .int .i64 e0]) (by simp [results, Try.results16, go_sem, r0, r1, r2, r3, r4, r5]) rfl (prop_err HX.out HE.out H0.out hK)
end Go.Proofs.Ytidhaofojcdbaaa
