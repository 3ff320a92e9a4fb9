/-
  The chapter's Told.
-/
import Derived.Test.YtnnmkmipeoajjaaGreatDoorCrqC
namespace Go.Proofs.YtnnmkmipeoajjaaGreatDoor
open Go.RowKit
set_option linter.unusedVariables false
set_option linter.unusedSimpArgs false

def RToldP (w : World) (t : Int) (L : List Rq) (k : Int) (e : Ending) (w' : World) : Prop :=
  ∃ lv, e = .returned (.tuple #[rrv t lv, rqv (toldF L k).2.1, .bool (toldF L k).2.2]) ∧ RqOw 37 0 w' lv (toldF L k).1 ∧ Kept NoB w w'
def tokB (k : Int) (x : Rq) : Bool := x.t == k
theorem tok_step {L : List Rq} (hd : Dis L) {i : Nat} (h : i < L.length) {k : Int} (hy : L[i].t = k) : (L.take i).find? (tokB k) = none := by
  rw [List.find?_eq_none]
  intro x hx
  obtain ⟨j, hj, rfl⟩ := List.mem_iff_getElem.1 hx
  rw [List.length_take] at hj
  have := (hd.at_ (i := j) (j := i) (by omega) h).2
  simp only [List.getElem_take, tokB]
  intro e
  have : L[j].t = k := by simpa using e
  omega
theorem any_succ {L : List Rq} {p : Rq → Bool} {k : Nat} (h : k < L.length) : (L.take (k + 1)).any p = ((L.take k).any p || p L[k]) := by
  rw [List.take_add_one, List.getElem?_eq_getElem h, List.any_append]; simp
theorem find_keep {L : List Rq} {p : Rq → Bool} {k : Nat} (h : k < L.length) (hy : p L[k] = false) : (L.take (k + 1)).find? p = (L.take k).find? p := by
  rw [List.take_add_one, List.getElem?_eq_getElem h, List.find?_append]; simp [hy]
theorem find_last {L : List Rq} {p : Rq → Bool} {k : Nat} (h : k < L.length) (hno : (L.take k).find? p = none) (hy : p L[k] = true) : (L.take (k + 1)).find? p = some L[k] := by
  rw [List.take_add_one, List.getElem?_eq_getElem h, List.find?_append, hno]; simp [hy]
theorem toldF_eq (L : List Rq) (k : Int) : toldF L k = (notT k L, (L.find? (tokB k)).getD rq0, L.any (tokB k)) := rfl
theorem four22_at {W : World} {Y : Nat} {c0 d0 e0 f0 : Value} {t2 : TypeId} (hY : W.heap[Y]? = some (.cells #[c0, d0, e0, f0] t2 (0, 0))) (c d e f : Value) :
    ((((W.setCell ⟨Y, 0, none⟩ c).setCell ⟨Y, 1, none⟩ d).setCell ⟨Y, 2, none⟩ e).setCell ⟨Y, 3, none⟩ f).heap[Y]? = some (.cells #[c, d, e, f] t2 (0, 0)) := by
  have g2 := blkV_set (blkV_set (blkV_set (blkV_set hY 0 c) 1 d) 2 e) 3 f
  simpa using g2
theorem four22_kept (W : World) (Y : Nat) (c d e f : Value) : Kept (fun k => k = Y) W ((((W.setCell ⟨Y, 0, none⟩ c).setCell ⟨Y, 1, none⟩ d).setCell ⟨Y, 2, none⟩ e).setCell ⟨Y, 3, none⟩ f) :=
  ((((Kept.refl (fun k => k = Y) W).setCell (p := ⟨Y, 0, none⟩) (.inl rfl) _).setCell (p := ⟨Y, 1, none⟩) (.inl rfl) _).setCell (p := ⟨Y, 2, none⟩) (.inl rfl) _).setCell (p := ⟨Y, 3, none⟩) (.inl rfl) _
/-- Where the loop of Told stands. -/
structure TdSt (V : World) (y : Nat) (L : List Rq) (k : Int) (i : Nat) (rest : Value) (met : Value) (wr : World) : Prop where
  r : RqOw 37 V.heap.size wr rest (notT k (L.take i))
  m : met = .bool ((L.take i).any (tokB k))
  yc : ∀ z, z = ((L.take i).find? (tokB k)).getD rq0 → wr.heap[y]? = some (.cells #[.int .u64 z.t, .int .i64 z.c, .int .u64 z.n, .int .u32 z.k] 37 (0, 0))
  kp : Kept (fun j => j = y) V wr
set_option maxRecDepth 100000 in
set_option maxHeartbeats 1000000 in
theorem RTold_any (lv : Value) (t : Int) (L : List Rq) (k : Int) (w : World) (h : RqOw 37 0 w lv L) (hd : Dis L) (hl : L.length ≤ 1000) :
    Calls Tryz.prog 18 #[rrv t lv, .int .u64 k] w (RToldP w t L k) := by
  obtain ⟨la, lc, rfl⟩ := h.form
  obtain ⟨m, hm⟩ : ∃ m, m = L.length := ⟨_, rfl⟩
  rw [← hm] at h ⊢
  obtain ⟨U, hU⟩ : ∃ U, U = ((w.alloc (.cells #[.int .u64 t, .slice la m lc] 28)).alloc (.cells #[.int .u64 0, .slice none 0 0] 28)).alloc (.cells #[.int .u64 0, .int .i64 0, .int .u64 0, .int .u32 0] 37) := ⟨_, rfl⟩
  obtain ⟨v0, v1, v2⟩ := three22 w (.cells #[.int .u64 t, .slice la m lc] 28) (.cells #[.int .u64 0, .slice none 0 0] 28) (.cells #[.int .u64 0, .int .i64 0, .int .u64 0, .int .u32 0] 37)
  have hkU : Kept NoB w U := by rw [hU]; exact (((Kept.refl _ _).alloc _).alloc _).alloc _
  have hsU : U.heap.size = w.heap.size + 1 + 1 + 1 := by rw [hU]; simp
  rw [← hU] at v0 v1 v2
  obtain ⟨V, hV⟩ : ∃ V, V = U.alloc (.cells #[.int .u64 0, .int .i64 0, .int .u64 0, .int .u32 0] 37) := ⟨_, rfl⟩
  have v3 : V.heap[w.heap.size + 1 + 1 + 1]? = some (.cells #[.int .u64 0, .int .i64 0, .int .u64 0, .int .u32 0] 37 (0, 0)) := by rw [hV, ← hsU]; exact heap_alloc_new U _
  have hkUV : Kept NoB U V := by rw [hV]; exact (Kept.refl _ _).alloc _
  have hsV : V.heap.size = w.heap.size + 1 + 1 + 1 + 1 := by rw [hV]; simp; omega
  have HM := Lib.hid hm
  have H := Lib.hid h
  have HD := Lib.hid hd
  have HV := Lib.hid (show V = (((w.alloc (.cells #[.int .u64 t, .slice la m lc] 28)).alloc (.cells #[.int .u64 0, .slice none 0 0] 28)).alloc (.cells #[.int .u64 0, .int .i64 0, .int .u64 0, .int .u32 0] 37)).alloc (.cells #[.int .u64 0, .int .i64 0, .int .u64 0, .int .u32 0] 37) by rw [hV, hU])
  have HKV := Lib.hid (hkU.trans hkUV (fun _ _ h => h))
  have HSV := Lib.hid hsV
  have V0 := Lib.hid (hkUV.heap (fun h => h) v0)
  have V1 := Lib.hid (hkUV.heap (fun h => h) v1)
  have V2 := Lib.hid (hkUV.heap (fun h => h) v2)
  obtain ⟨y, hy⟩ : ∃ y, y = w.heap.size + 1 + 1 + 1 := ⟨_, rfl⟩
  rw [← hy] at v3
  have HST : Hid (TdSt V y L k 0 (.slice none 0 0) (.bool false) V) := Lib.hid ⟨RqOw.nil _ _ _, by simp, fun z hz => by subst hz; exact v3, Kept.refl _ _⟩
  have hne : w.heap.size + 1 ≠ w.heap.size + 1 + 1 := by omega
  have hz1 : ¬ y = w.heap.size + 1 := by omega
  have hz2 : ¬ y = w.heap.size + 1 + 1 := by omega
  have hz0 : ¬ y = w.heap.size := by omega
  have hw1 : ¬ w.heap.size + 1 = y := by omega
  have hw2 : ¬ w.heap.size + 1 + 1 = y := by omega
  have hw0 : ¬ w.heap.size = y := by omega
  have hyV : y < V.heap.size := by omega
  have HY := Lib.hid hy
  clear hm h hV hU hkU hkUV hsU hsV v0 v1 v2 v3 hd
  unfold rrv
  go_enter Tryz.func18, Tryz.ntmps18
  go_upto_region 3 with fail
  rw [← HV.out]
  rw [← HY.out]
  clear hy
  go_wp2
  go_loopw [7, 9, 10] (fun rest met iv wr => ∃ i : Nat, iv = .int .i64 i ∧ i ≤ m ∧ TdSt V y L k i rest met wr) (fun _ _ iv _ => m - (intOf iv).toNat)
  case atStart => exact ⟨0, rfl, Nat.zero_le _, HST.out⟩
  case round =>
    obtain ⟨i, rfl, hi, hs⟩ := hrel
    obtain ⟨ra, rc, rfl⟩ := hs.r.form
    obtain ⟨R, hR⟩ : ∃ R, R = notT k (L.take i) := ⟨_, rfl⟩
    obtain ⟨N, hN⟩ : ∃ N, N = R.length := ⟨_, rfl⟩
    have hrl : R.length ≤ 1000 := by rw [hR]; exact Nat.le_trans (notT_len _ _) (Nat.le_trans (List.length_take_le _ _) (by have := HM.out; omega))
    have hN1 : N ≤ 1000 := by rw [hN]; exact hrl
    have hsr := hs.r
    rw [← hR, ← hN] at hsr
    obtain ⟨mt, hmt⟩ : ∃ mt, mt = (L.take i).any (tokB k) := ⟨_, rfl⟩
    have hme := hs.m
    rw [← hmt] at hme
    subst hme
    rw [← hR, ← hN]
    obtain ⟨z, hz⟩ : ∃ z, z = ((L.take i).find? (tokB k)).getD rq0 := ⟨_, rfl⟩
    have hYc := hs.yc z hz
    have HR := Lib.hid hsr
    have HRE := Lib.hid hR
    have HNE := Lib.hid hN
    have HMT := Lib.hid hmt
    have HZ := Lib.hid hz
    have HK := Lib.hid hs.kp
    have W0 := Lib.hid (hs.kp.heap hw0 V0.out)
    have W1 := Lib.hid (hs.kp.heap hw1 V1.out)
    have W2 := Lib.hid (hs.kp.heap hw2 V2.out)
    have W3 := Lib.hid hYc
    obtain ⟨q0, q1, fq0, fq1⟩ := cells2q W0.out
    obtain ⟨zt, zc, zn, zk⟩ := z
    obtain ⟨p0, p1, p2, p3, fp0, fp1, fp2, fp3⟩ := cells4q hYc
    have hsz : V.heap.size ≤ wr.heap.size := hs.kp.size
    have hrow : ∀ j, (Value.slice la m lc).ownBlock = some j → j ≠ y := fun j hj e => by have := (H.out.base j hj).2; have := HY.out; omega
    have HL := Lib.hid ((H.out.no HKV.out).kept HK.out (fun j hj e => hrow j hj e))
    clear hs hR hN hrl hsr hmt hz hYc hrow HST
    by_cases hlt : i < m
    · have hi1 : (i : Int) < (m : Int) := by omega
      have hiL : i < L.length := by rw [← HM.out]; exact hlt
      obtain ⟨r, d, he, hd, hr, e0, e1, e2, e3⟩ := HL.out.cells i hiL
      injection he with he1 he2 he3
      clear he2
      subst he1 he3
      have hry : ¬ r = y := fun e => by have h1 := (H.out.base r rfl).2; have := HY.out; omega
      have hyr : ¬ y = r := fun e => hry e.symm
      obtain ⟨u, hu⟩ : ∃ u, u = L[i] := ⟨_, rfl⟩
      have HU := Lib.hid hu
      rw [← hu] at e0 e1 e2 e3
      obtain ⟨ut, uc, un, uk⟩ := u
      simp only at e0 e1 e2 e3
      clear hu
      by_cases hc : ut = k
      · have dc : (ut == k) = true := by simp [hc]
        have HP : Hid (tokB k L[i] = true) := Lib.hid (by rw [← HU.out]; simp [tokB, hc])
        have HF := Lib.hid (find_last hiL (tok_step HD.out hiL (by rw [← HU.out]; exact hc)) HP.out)
        have HSK := Lib.hid (show notT k (L.take (i + 1)) = R by rw [notT_take k L i hiL, ← HU.out, if_pos hc, List.append_nil]; exact HRE.out.symm)
        have HAN := Lib.hid (show (L.take (i + 1)).any (tokB k) = true by rw [any_succ hiL, HP.out]; simp)
        clear hc
        go_wp2
        go_roundw
        case rel =>
          refine ⟨i + 1, by go_num, by omega, ?_, by rw [HAN.out], fun z hz => ?_, HK.out.trans (four22_kept wr y _ _ _ _) (fun _ _ h => h)⟩
          · rw [HSK.out]; exact HR.out.kept (four22_kept wr y _ _ _ _) (fun j hj e => by have h1 := (HR.out.base j hj).1; have e : j = y := e; omega)
          · rw [HF.out, ← HU.out] at hz
            subst hz
            exact four22_at W3.out _ _ _ _
        case measure => simp [intOf]; omega
      · have dc : (ut == k) = false := by simpa using hc
        have HP : Hid (tokB k L[i] = false) := Lib.hid (by rw [← HU.out]; simp [tokB, hc])
        have HF := Lib.hid (find_keep hiL HP.out)
        have HSK := Lib.hid (show notT k (L.take (i + 1)) = R ++ [⟨ut, uc, un, uk⟩] by rw [notT_take k L i hiL, ← HU.out, if_neg hc, ← HRE.out])
        have HAN := Lib.hid (show (L.take (i + 1)).any (tokB k) = mt by rw [any_succ hiL, HP.out, HMT.out]; simp)
        clear hc
        go_wp2_with (at_builtin; refine wpList_append_rq Tryz.underlying26 info_rr22 _ rfl (.tmp 32) (.tmp 38) rfl V.heap.size (.slice ra N rc) R rfl (HR.out.no ((Kept.refl _ _).alloc _)) wr.heap.size ⟨ut, uc, un, uk⟩ rfl (heap_alloc_new wr _) (by rw [← HNE.out]; omega) (by simp; omega) (N + 1) (by rw [← HNE.out]) ?_; intro a' c' w3 hr3 hg3 hat3; have HR3 := Lib.hid hr3; have HK3 := Lib.hid (((Kept.refl NoB wr).alloc (.cells #[.int .u64 ut, .int .i64 uc, .int .u64 un, .int .u32 uk] 37)).mono (T := fun j => (Value.slice ra N rc).ownBlock = some j) (fun _ _ h => h.elim) |>.grown hg3 (fun j hj => .inl hj)); clear hr3 hg3 hat3)
        go_roundw
        case rel =>
          refine ⟨i + 1, by go_num, by omega, by rw [HSK.out]; exact HR3.out, by rw [HAN.out], fun z hz => ?_, HK.out.trans HK3.out (fun j hj h => by have := (HR.out.base j h).1; omega)⟩
          rw [HF.out, ← HZ.out] at hz
          subst hz
          exact HK3.out.heap (fun h => by have := (HR.out.base y h).1; omega) W3.out
        case measure => simp [intOf]; omega
    · have him : i = m := by omega
      have hd : ¬ (i : Int) < (m : Int) := by omega
      have hLt : L.take i = L := List.take_of_length_le (by rw [him]; exact Nat.le_of_eq HM.out.symm)
      have HA : Hid (toldF L k = (R, ⟨zt, zc, zn, zk⟩, mt)) := Lib.hid (by rw [toldF_eq, HRE.out, HZ.out, HMT.out, hLt])
      obtain ⟨x0, x1, fx0, fx1⟩ := cells2q W1.out
      obtain ⟨y0, y1, y2, y3, fy0, fy1, fy2, fy3⟩ := cells4q W2.out
      have hn01 : ¬ w.heap.size = w.heap.size + 1 := by omega
      have hn02 : ¬ w.heap.size = w.heap.size + 1 + 1 := by omega
      clear him hLt
      go_upto_region 12 with fail
      obtain ⟨W, hW⟩ : ∃ W, W = wr.setCell ⟨w.heap.size, 1, none⟩ (.slice ra N rc) := ⟨_, rfl⟩
      have hkW : Kept (fun j => j = w.heap.size) wr W := by rw [hW]; exact (Kept.refl (fun j => j = w.heap.size) wr).setCell (p := ⟨w.heap.size, 1, none⟩) (.inl rfl) _
      have hW0 : W.heap[w.heap.size]? = some (.cells #[.int .u64 t, .slice ra N rc] 28 (0, 0)) := by rw [hW]; have := blkV_set W0.out 1 (.slice ra N rc); simpa using this
      have W1' := Lib.hid (hkW.heap (fun e => by have e : w.heap.size + 1 = w.heap.size := e; omega) W1.out)
      have W2' := Lib.hid (hkW.heap (fun e => by have e : w.heap.size + 1 + 1 = w.heap.size := e; omega) W2.out)
      have W3' := Lib.hid (hkW.heap (fun e => by have e : y = w.heap.size := e; omega) W3.out)
      have HRW := Lib.hid (HR.out.kept hkW (fun j hj e => by have h1 := (HR.out.base j hj).1; have e : j = w.heap.size := e; have := HSV.out; omega))
      have HKW : Hid (Kept NoB w W) := Lib.hid ((HKV.out.trans HK.out (fun j hj e => by have e : j = y := e; have := HY.out; omega)).trans hkW (fun j hj e => by have e : j = w.heap.size := e; omega))
      rw [← hW]
      obtain ⟨q0, q1, fq0, fq1⟩ := cells2q hW0
      obtain ⟨p0, p1, p2, p3, fp0, fp1, fp2, fp3⟩ := cells4q W3'.out
      obtain ⟨x0, x1, fx0, fx1⟩ := cells2q W1'.out
      obtain ⟨y0, y1, y2, y3, fy0, fy1, fy2, fy3⟩ := cells4q W2'.out
      have HBN := Lib.hid (show ∀ j, (Value.slice ra N rc).ownBlock = some j → ¬ (j = w.heap.size + 1 ∨ j = w.heap.size + 1 + 1) from fun j hj e => by have h1 := (HR.out.base j hj).1; have := HSV.out; omega)
      clear hW hkW hW0
      go_region
      go_wp2
      obtain ⟨g1, g2⟩ := six22_at W1'.out W2'.out hne (.int .u64 t) (.slice ra N rc) (.int .u64 zt) (.int .i64 zc) (.int .u64 zn) (.int .u32 zk)
      obtain ⟨r0, r1, _⟩ := cells2qd g1
      obtain ⟨s0, s1, s2, s3, _⟩ := cells4qd g2
      have hk6 := six22_kept W (w.heap.size + 1) (w.heap.size + 1 + 1) (.int .u64 t) (.slice ra N rc) (.int .u64 zt) (.int .i64 zc) (.int .u64 zn) (.int .u32 zk)
      have HK6 := Lib.hid (hk6.drew)
      unfold six22 at r0 r1 s0 s1 s2 s3
      clear hk6
      refine bodyPost_ret (v := .tuple #[.agg #[.int .u64 t, .slice ra N rc], .agg #[.int .u64 zt, .int .i64 zc, .int .u64 zn, .int .u32 zk], .bool mt]) (by simp [results, Tryz.results18, go_sem, r0, r1, s0, s1, s2, s3]) rfl ?_
      unfold RToldP
      rw [HA.out]
      exact ⟨_, rfl, (HRW.out.mono (Nat.zero_le _)).kept HK6.out (fun j hj h => HBN.out j hj h), HKW.out.trans HK6.out (fun i hi h => by rcases h with h | h <;> omega)⟩
end Go.Proofs.YtnnmkmipeoajjaaGreatDoor
