/-
  The chapter's reads: plainly, and Ask, Told.
-/
import Derived.Test.YtnnmkmipeoajjaaGreatDoorCrqB
import Derived.Deep.RegionHeld3
namespace Go.Proofs.YtnnmkmipeoajjaaGreatDoor
open Go.RowKit
set_option linter.unusedVariables false
set_option linter.unusedSimpArgs false

/-- All but the reads of client c. -/
def notC (c : Int) (L : List Rq) : List Rq := L.filter (fun x => x.c != c)
def notT (t : Int) (L : List Rq) : List Rq := L.filter (fun x => x.t != t)
def sameA (c n k : Int) (x : Rq) : Bool := x.c == c && (x.n == n && x.k == k)
def badA (c n : Int) : Prop := c < 1 ∨ 6 < c ∨ n = 0
instance (c n : Int) : Decidable (badA c n) := by unfold badA; infer_instance
/-- What Ask does: last token, those that wait; the read, the error. -/
def askF (t : Int) (L : List Rq) (c n k : Int) : Int × List Rq × Rq × Int :=
  if badA c n then (t, L, rq0, 1)
  else match L.find? (sameA c n k) with
    | some x => (t, L, x, 0)
    | none => if 16 ≤ (notC c L).length then (t, L, rq0, 9) else (t + 1, notC c L ++ [⟨t + 1, c, n, k⟩], ⟨t + 1, c, n, k⟩, 0)
def toldF (L : List Rq) (t : Int) : List Rq × Rq × Bool := (notT t L, (L.find? (fun x => x.t == t)).getD rq0, L.any (fun x => x.t == t))

theorem notC_take (c : Int) (L : List Rq) (k : Nat) (h : k < L.length) : notC c (L.take (k + 1)) = notC c (L.take k) ++ (if L[k].c = c then [] else [L[k]]) := by
  unfold notC
  rw [List.take_add_one, List.getElem?_eq_getElem h, List.filter_append]
  by_cases e : L[k].c = c <;> simp [e]
theorem notT_take (c : Int) (L : List Rq) (k : Nat) (h : k < L.length) : notT c (L.take (k + 1)) = notT c (L.take k) ++ (if L[k].t = c then [] else [L[k]]) := by
  unfold notT
  rw [List.take_add_one, List.getElem?_eq_getElem h, List.filter_append]
  by_cases e : L[k].t = c <;> simp [e]
theorem notC_len (c : Int) (L : List Rq) : (notC c L).length ≤ L.length := List.length_filter_le _ _
theorem notT_len (c : Int) (L : List Rq) : (notT c L).length ≤ L.length := List.length_filter_le _ _
def rrv (t : Int) (lv : Value) : Value := .agg #[.int .u64 t, lv]
/-- What the chapter's Ask leaves. -/
def RAskP (w : World) (t : Int) (L : List Rq) (c n k : Int) (e : Ending) (w' : World) : Prop :=
  ∃ lv, e = .returned (.tuple #[rrv (askF t L c n k).1 lv, rqv (askF t L c n k).2.2.1, .int .i64 (askF t L c n k).2.2.2]) ∧ RqOw 37 0 w' lv (askF t L c n k).2.1 ∧ Kept NoB w w'
theorem find_take {L : List Rq} {p : Rq → Bool} {k : Nat} (h : k < L.length) (hno : (L.take k).find? p = none) (hy : p L[k] = true) : L.find? p = some L[k] := by
  have e : L = L.take k ++ L[k] :: L.drop (k + 1) := by rw [List.getElem_cons_drop, List.take_append_drop]
  conv => lhs; rw [e]
  rw [List.find?_append, hno, Option.none_or]
  simp only [List.find?_cons, hy]
theorem find_succ {L : List Rq} {p : Rq → Bool} {k : Nat} (h : k < L.length) (hno : (L.take k).find? p = none) (hy : p L[k] = false) : (L.take (k + 1)).find? p = none := by
  rw [List.take_add_one, List.getElem?_eq_getElem h, List.find?_append, hno]
  simp [hy]

theorem sameA_false {c n k : Int} {z : Rq} (h : ¬ (z.n = n ∧ z.k = k)) : sameA c n k z = false := by
  unfold sameA
  by_cases h1 : z.n = n
  · have h2 : z.k ≠ k := fun e => h ⟨h1, e⟩
    simp [h2]
  · simp [h1]
theorem sameA_else {c n k : Int} {z : Rq} (h : ¬ z.c = c) : sameA c n k z = false := by simp [sameA, h]
theorem sameA_yes {c n k : Int} {z : Rq} (h1 : z.c = c) (h2 : z.n = n) (h3 : z.k = k) : sameA c n k z = true := by simp [sameA, h1, h2, h3]
/-- Six cells of two blocks, stored one by one. -/
def six22 (W : World) (X Y : Nat) (a b c d e f : Value) : World :=
  (((((W.setCell ⟨X, 0, none⟩ a).setCell ⟨X, 1, none⟩ b).setCell ⟨Y, 0, none⟩ c).setCell ⟨Y, 1, none⟩ d).setCell ⟨Y, 2, none⟩ e).setCell ⟨Y, 3, none⟩ f
theorem six22_at {W : World} {X Y : Nat} {a0 b0 c0 d0 e0 f0 : Value} {t1 t2 : TypeId} (hX : W.heap[X]? = some (.cells #[a0, b0] t1 (0, 0))) (hY : W.heap[Y]? = some (.cells #[c0, d0, e0, f0] t2 (0, 0))) (hne : X ≠ Y) (a b c d e f : Value) :
    (six22 W X Y a b c d e f).heap[X]? = some (.cells #[a, b] t1 (0, 0)) ∧ (six22 W X Y a b c d e f).heap[Y]? = some (.cells #[c, d, e, f] t2 (0, 0)) := by
  have h1 := blkV_set (blkV_set hX 0 a) 1 b
  have h2 := blkV_set_other (blkV_set_other hY 0 a hne) 1 b hne
  have g1 := blkV_set_other (blkV_set_other (blkV_set_other (blkV_set_other h1 0 c (Ne.symm hne)) 1 d (Ne.symm hne)) 2 e (Ne.symm hne)) 3 f (Ne.symm hne)
  have g2 := blkV_set (blkV_set (blkV_set (blkV_set h2 0 c) 1 d) 2 e) 3 f
  exact ⟨by simpa [six22] using g1, by simpa [six22] using g2⟩
theorem six22_kept (W : World) (X Y : Nat) (a b c d e f : Value) : Kept (fun k => k = X ∨ k = Y) W (six22 W X Y a b c d e f) := by
  have s := Kept.refl (fun k => k = X ∨ k = Y) W
  exact (((((s.setCell (p := ⟨X, 0, none⟩) (.inl (.inl rfl)) _).setCell (p := ⟨X, 1, none⟩) (.inl (.inl rfl)) _).setCell (p := ⟨Y, 0, none⟩) (.inl (.inr rfl)) _).setCell (p := ⟨Y, 1, none⟩) (.inl (.inr rfl)) _).setCell (p := ⟨Y, 2, none⟩) (.inl (.inr rfl)) _).setCell (p := ⟨Y, 3, none⟩) (.inl (.inr rfl)) _
theorem cells2q {w : World} {b : Nat} {x y : Value} {t : TypeId} (h : w.heap[b]? = some (.cells #[x, y] t (0, 0))) : w.cell? ⟨b, 0, none⟩ = some x ∧ w.cell? ⟨b, 1, none⟩ = some y ∧ w.frozen? ⟨b, 0, none⟩ = false ∧ w.frozen? ⟨b, 1, none⟩ = false :=
  ⟨cell_of_row _ _ 0 _ _ _ h, cell_of_row _ _ 1 _ _ _ h, blkV_frozen h 0, blkV_frozen h 1⟩
theorem cells4q {w : World} {b : Nat} {x y z u : Value} {t : TypeId} (h : w.heap[b]? = some (.cells #[x, y, z, u] t (0, 0))) : w.cell? ⟨b, 0, none⟩ = some x ∧ w.cell? ⟨b, 1, none⟩ = some y ∧ w.cell? ⟨b, 2, none⟩ = some z ∧ w.cell? ⟨b, 3, none⟩ = some u ∧ w.frozen? ⟨b, 0, none⟩ = false ∧ w.frozen? ⟨b, 1, none⟩ = false ∧ w.frozen? ⟨b, 2, none⟩ = false ∧ w.frozen? ⟨b, 3, none⟩ = false :=
  ⟨cell_of_row _ _ 0 _ _ _ h, cell_of_row _ _ 1 _ _ _ h, cell_of_row _ _ 2 _ _ _ h, cell_of_row _ _ 3 _ _ _ h, blkV_frozen h 0, blkV_frozen h 1, blkV_frozen h 2, blkV_frozen h 3⟩
theorem cells2qd {w : World} {b : Nat} {x y : Value} {t : TypeId} (h : w.heap[b]? = some (.cells #[x, y] t (0, 0))) : w.drew.cell? ⟨b, 0, none⟩ = some x ∧ w.drew.cell? ⟨b, 1, none⟩ = some y ∧ w.drew.frozen? ⟨b, 0, none⟩ = false ∧ w.drew.frozen? ⟨b, 1, none⟩ = false := cells2q (w := w.drew) h
theorem cells4qd {w : World} {b : Nat} {x y z u : Value} {t : TypeId} (h : w.heap[b]? = some (.cells #[x, y, z, u] t (0, 0))) : w.drew.cell? ⟨b, 0, none⟩ = some x ∧ w.drew.cell? ⟨b, 1, none⟩ = some y ∧ w.drew.cell? ⟨b, 2, none⟩ = some z ∧ w.drew.cell? ⟨b, 3, none⟩ = some u ∧ w.drew.frozen? ⟨b, 0, none⟩ = false ∧ w.drew.frozen? ⟨b, 1, none⟩ = false ∧ w.drew.frozen? ⟨b, 2, none⟩ = false ∧ w.drew.frozen? ⟨b, 3, none⟩ = false := cells4q (w := w.drew) h
theorem three22 (w : World) (A B C : Obj) : (((w.alloc A).alloc B).alloc C).heap[w.heap.size]? = some A ∧ (((w.alloc A).alloc B).alloc C).heap[w.heap.size + 1]? = some B ∧ (((w.alloc A).alloc B).alloc C).heap[w.heap.size + 1 + 1]? = some C := by
  have h0 := heap_alloc_new w A
  have h1 := heap_alloc_new (w.alloc A) B
  have h2 := heap_alloc_new ((w.alloc A).alloc B) C
  simp only [World.size_alloc] at h1 h2
  exact ⟨blkV_alloc (blkV_alloc h0 B) C, blkV_alloc h1 C, h2⟩
theorem RAskP.drew {w W : World} {t : Int} {L : List Rq} {c n k : Int} {e : Ending} (h : RAskP w t L c n k e W) : RAskP w t L c n k e W.drew := by
  obtain ⟨lv, he, hr, hk⟩ := h
  exact ⟨lv, he, hr.no ((Kept.refl _ _).drew), hk.drew⟩
theorem rask_end {w W : World} {t : Int} {L : List Rq} {c n k : Int} {t' : Int} {L' : List Rq} {x : Rq} {er : Int} {lv a b c0 d e f : Value} (hA : askF t L c n k = (t', L', x, er)) (hr : RqOw 37 0 W lv L') (hk : Kept NoB w W) (hb : ∀ j, lv.ownBlock = some j → j ≠ w.heap.size + 1 ∧ j ≠ w.heap.size + 1 + 1) :
    RAskP w t L c n k (.returned (.tuple #[rrv t' lv, rqv x, .int .i64 er])) (six22 W (w.heap.size + 1) (w.heap.size + 1 + 1) a b c0 d e f) := by
  unfold RAskP
  rw [hA]
  have hk6 := six22_kept W (w.heap.size + 1) (w.heap.size + 1 + 1) a b c0 d e f
  exact ⟨lv, rfl, hr.kept hk6 (fun j hj h => by rcases h with h | h; exact (hb j hj).1 h; exact (hb j hj).2 h), hk.trans hk6 (fun i hi h => by rcases h with h | h <;> omega)⟩
set_option maxRecDepth 100000 in
set_option maxHeartbeats 1000000 in
theorem RAsk_any (lv : Value) (t : Int) (L : List Rq) (c n k : Int) (w : World) (h : RqOw 37 0 w lv L) (hl : L.length ≤ 1000) (ht0 : 0 ≤ t) (ht1 : t ≤ 1000) (hn : 0 ≤ n) (hk0 : 0 ≤ k) :
    Calls Tryz.prog 16 #[rrv t lv, .int .i64 c, .int .u64 n, .int .u32 k] w (RAskP w t L c n k) := by
  obtain ⟨la, lc, rfl⟩ := h.form
  have hbase := h.base
  obtain ⟨m, hm⟩ : ∃ m, m = L.length := ⟨_, rfl⟩
  rw [← hm] at h hbase ⊢
  obtain ⟨V, hV⟩ : ∃ V, V = ((w.alloc (.cells #[.int .u64 t, .slice la m lc] 28)).alloc (.cells #[.int .u64 0, .slice none 0 0] 28)).alloc (.cells #[.int .u64 0, .int .i64 0, .int .u64 0, .int .u32 0] 37) := ⟨_, rfl⟩
  obtain ⟨v0, v1, v2⟩ := three22 w (.cells #[.int .u64 t, .slice la m lc] 28) (.cells #[.int .u64 0, .slice none 0 0] 28) (.cells #[.int .u64 0, .int .i64 0, .int .u64 0, .int .u32 0] 37)
  have hkV : Kept NoB w V := by rw [hV]; exact (((Kept.refl _ _).alloc _).alloc _).alloc _
  have hsV : V.heap.size = w.heap.size + 1 + 1 + 1 := by rw [hV]; simp
  rw [← hV] at v0 v1 v2
  have HB0 := Lib.hid (show ∀ j, (Value.slice la m lc).ownBlock = some j → j ≠ w.heap.size + 1 ∧ j ≠ w.heap.size + 1 + 1 from fun j hj => by have := (hbase j hj).2; omega)
  have HM := Lib.hid hm
  have H := Lib.hid h
  have HV := Lib.hid hV
  have HKV := Lib.hid hkV
  have HSV := Lib.hid hsV
  have V0 := Lib.hid v0
  have V1 := Lib.hid v1
  have V2 := Lib.hid v2
  obtain ⟨q0, q1, _, _⟩ := cells2q v0
  obtain ⟨x0, x1, fx0, fx1⟩ := cells2q v1
  obtain ⟨y0, y1, y2, y3, fy0, fy1, fy2, fy3⟩ := cells4q v2
  have hne : w.heap.size + 1 ≠ w.heap.size + 1 + 1 := by omega
  clear hm h hV hkV hsV v0 v1 v2 hbase
  unfold rrv
  by_cases hb : badA c n
  · have HA : Hid (askF t L c n k = (t, L, rq0, 1)) := Lib.hid (by unfold askF; rw [if_pos hb])
    unfold badA at hb
    by_cases h1 : c < 1
    · have d1 : decide (c < 1) = true := decide_eq_true h1
      clear hb
      go_enter Tryz.func16, Tryz.ntmps16
      go_upto_region 1 with fail
      rw [← HV.out]
      go_wp2
      obtain ⟨g1, g2⟩ := six22_at V1.out V2.out hne (.int .u64 t) (.slice la m lc) (.int .u64 0) (.int .i64 0) (.int .u64 0) (.int .u32 0)
      obtain ⟨r0, r1, _⟩ := cells2q g1
      obtain ⟨s0, s1, s2, s3, _⟩ := cells4q g2
      unfold six22 at r0 r1 s0 s1 s2 s3
      refine bodyPost_ret (v := .tuple #[.agg #[(.int .u64 t), (.slice la m lc)], .agg #[.int .u64 0, .int .i64 0, .int .u64 0, .int .u32 0], (.int .i64 1)]) (by simp [results, Tryz.results16, go_sem, r0, r1, s0, s1, s2, s3]) rfl ?_
      exact rask_end (HA.out) (H.out.no HKV.out) HKV.out HB0.out
    · have d1 : decide (c < 1) = false := decide_eq_false h1
      by_cases h2 : 6 < c
      · have d2 : decide (6 < c) = true := decide_eq_true h2
        clear hb
        go_enter Tryz.func16, Tryz.ntmps16
        go_upto_region 1 with fail
        rw [← HV.out]
        go_wp2
        obtain ⟨g1, g2⟩ := six22_at V1.out V2.out hne (.int .u64 t) (.slice la m lc) (.int .u64 0) (.int .i64 0) (.int .u64 0) (.int .u32 0)
        obtain ⟨r0, r1, _⟩ := cells2q g1
        obtain ⟨s0, s1, s2, s3, _⟩ := cells4q g2
        unfold six22 at r0 r1 s0 s1 s2 s3
        refine bodyPost_ret (v := .tuple #[.agg #[(.int .u64 t), (.slice la m lc)], .agg #[.int .u64 0, .int .i64 0, .int .u64 0, .int .u32 0], (.int .i64 1)]) (by simp [results, Tryz.results16, go_sem, r0, r1, s0, s1, s2, s3]) rfl ?_
        exact rask_end (HA.out) (H.out.no HKV.out) HKV.out HB0.out
      · have d2 : decide (6 < c) = false := decide_eq_false h2
        have d3 : (n == 0) = true := by simp; omega
        clear hb
        go_enter Tryz.func16, Tryz.ntmps16
        go_upto_region 1 with fail
        rw [← HV.out]
        go_wp2
        obtain ⟨g1, g2⟩ := six22_at V1.out V2.out hne (.int .u64 t) (.slice la m lc) (.int .u64 0) (.int .i64 0) (.int .u64 0) (.int .u32 0)
        obtain ⟨r0, r1, _⟩ := cells2q g1
        obtain ⟨s0, s1, s2, s3, _⟩ := cells4q g2
        unfold six22 at r0 r1 s0 s1 s2 s3
        refine bodyPost_ret (v := .tuple #[.agg #[(.int .u64 t), (.slice la m lc)], .agg #[.int .u64 0, .int .i64 0, .int .u64 0, .int .u32 0], (.int .i64 1)]) (by simp [results, Tryz.results16, go_sem, r0, r1, s0, s1, s2, s3]) rfl ?_
        exact rask_end (HA.out) (H.out.no HKV.out) HKV.out HB0.out
  · have HNB := Lib.hid hb
    have d1 : decide (c < 1) = false := decide_eq_false (by unfold badA at hb; omega)
    have d2 : decide (6 < c) = false := decide_eq_false (by unfold badA at hb; omega)
    have d3 : (n == 0) = false := by simp; unfold badA at hb; omega
    clear hb
    go_enter Tryz.func16, Tryz.ntmps16
    go_upto_region 1 with fail
    rw [← HV.out]
    go_upto_region 3 with fail
    clear q0 q1 x0 x1 fx0 fx1 y0 y1 y2 y3 fy0 fy1 fy2 fy3
    go_wp2
    go_loopw [11, 12] (fun rest iv wr => ∃ i : Nat, iv = .int .i64 i ∧ i ≤ m ∧ RqOw 37 V.heap.size wr rest (notC c (L.take i)) ∧ Kept NoB V wr ∧ (L.take i).find? (sameA c n k) = none) (fun _ iv _ => m - (intOf iv).toNat)
    case atStart => exact ⟨0, rfl, Nat.zero_le _, RqOw.nil _ _ _, Kept.refl _ _, by simp⟩
    case round =>
      obtain ⟨i, rfl, hi, hr, hk, hno⟩ := hrel
      obtain ⟨ra, rc, rfl⟩ := hr.form
      have hrl : (notC c (L.take i)).length ≤ 1000 := Nat.le_trans (notC_len _ _) (Nat.le_trans (List.length_take_le _ _) (by have := HM.out; omega))
      obtain ⟨R, hR⟩ : ∃ R, R = notC c (L.take i) := ⟨_, rfl⟩
      rw [← hR] at hr hrl ⊢
      obtain ⟨N, hN⟩ : ∃ N, N = R.length := ⟨_, rfl⟩
      rw [← hN] at hr
      have HR := Lib.hid hr
      have HRE := Lib.hid hR
      have HK := Lib.hid hk
      have HNO := Lib.hid hno
      have HNE := Lib.hid hN
      have hN1 : N ≤ 1000 := by rw [hN]; exact hrl
      rw [← hN]
      have W0 := Lib.hid (hk.heap (fun h => h) V0.out)
      have W1 := Lib.hid (hk.heap (fun h => h) V1.out)
      have W2 := Lib.hid (hk.heap (fun h => h) V2.out)
      obtain ⟨q0, q1, _, _⟩ := cells2q W0.out
      have hsz : V.heap.size ≤ wr.heap.size := hk.size
      clear hr hR hk hno hN hrl
      by_cases hlt : i < m
      · have hi1 : (i : Int) < (m : Int) := by omega
        have hiL : i < L.length := by rw [← HM.out]; exact hlt
        obtain ⟨r, d, he, hd, hr, e0, e1, e2, e3⟩ := ((H.out.no HKV.out).no HK.out).cells i hiL
        injection he with he1 he2 he3
        clear he2
        subst he1 he3
        obtain ⟨z, hz⟩ : ∃ z, z = L[i] := ⟨_, rfl⟩
        have HZ := Lib.hid hz
        rw [← hz] at e0 e1 e2 e3
        obtain ⟨zt, zc, zn, zk⟩ := z
        simp only at e0 e1 e2 e3
        clear hz
        go_upto_region 8 with fail
        have hb13 := heap_alloc_new wr (.cells #[.int .u64 zt, .int .i64 zc, .int .u64 zn, .int .u32 zk] 37)
        obtain ⟨U, hU⟩ : ∃ U, U = wr.alloc (.cells #[.int .u64 zt, .int .i64 zc, .int .u64 zn, .int .u32 zk] 37) := ⟨_, rfl⟩
        have hkU : Kept NoB wr U := by rw [hU]; exact (Kept.refl _ _).alloc _
        rw [← hU] at hb13 ⊢
        obtain ⟨b0, b1, b2, b3, _⟩ := cells4q hb13
        have HB13 := Lib.hid hb13
        have HKU := Lib.hid (HK.out.trans hkU (fun _ _ h => h))
        have HRU := Lib.hid (HR.out.no hkU)
        have U0 := Lib.hid (hkU.heap (fun h => h) W0.out)
        have U1 := Lib.hid (hkU.heap (fun h => h) W1.out)
        have U2 := Lib.hid (hkU.heap (fun h => h) W2.out)
        have hszU : V.heap.size ≤ U.heap.size := Nat.le_trans hsz hkU.size
        obtain ⟨bx, hbx⟩ : ∃ bx, bx = wr.heap.size := ⟨_, rfl⟩
        rw [← hbx] at hb13 b0 b1 b2 b3 HB13 ⊢
        have hx1 : ¬ bx = w.heap.size + 1 := by have := HSV.out; omega
        have hx2 : ¬ bx = w.heap.size + 1 + 1 := by have := HSV.out; omega
        have hx0 : ¬ bx = w.heap.size := by have := HSV.out; omega
        have hy1 : ¬ w.heap.size + 1 = bx := by omega
        have hy2 : ¬ w.heap.size + 1 + 1 = bx := by omega
        have hy0 : ¬ w.heap.size = bx := by omega
        clear hb13 hU hkU e0 e1 e2 e3 hbx
        by_cases hc : zc = c
        · have dc : (zc != c) = false := by simp [hc]
          by_cases hs : zn = n ∧ zk = k
          · have d4 : (zn == n) = true := by simp [hs.1]
            have d5 : (zk == k) = true := by simp [hs.2]
            have HA : Hid (askF t L c n k = (t, L, ⟨zt, zc, zn, zk⟩, 0)) := Lib.hid (by
              unfold askF
              rw [if_neg HNB.out, find_take hiL HNO.out (by rw [← HZ.out]; exact sameA_yes hc hs.1 hs.2), ← HZ.out])
            obtain ⟨q0, q1, _, _⟩ := cells2q U0.out
            obtain ⟨x0, x1, fx0, fx1⟩ := cells2q U1.out
            obtain ⟨y0, y1, y2, y3, fy0, fy1, fy2, fy3⟩ := cells4q U2.out
            clear hs hc
            go_upto_region 11 with fail
            go_region
            go_wp2
            obtain ⟨g1, g2⟩ := six22_at U1.out U2.out hne (.int .u64 t) (.slice (some ⟨r, 0, none⟩) m lc) (.int .u64 zt) (.int .i64 zc) (.int .u64 zn) (.int .u32 zk)
            obtain ⟨r0, r1, _⟩ := cells2qd g1
            obtain ⟨s0, s1, s2, s3, _⟩ := cells4qd g2
            unfold six22 at r0 r1 s0 s1 s2 s3
            refine bodyPost_ret (v := .tuple #[.agg #[.int .u64 t, .slice (some ⟨r, 0, none⟩) m lc], .agg #[.int .u64 zt, .int .i64 zc, .int .u64 zn, .int .u32 zk], .int .i64 0]) (by simp [results, Tryz.results16, go_sem, r0, r1, s0, s1, s2, s3]) rfl ?_
            exact (rask_end HA.out ((H.out.no HKV.out).no HKU.out) (HKV.out.trans HKU.out (fun _ _ h => h)) HB0.out).drew
          · have HSK := Lib.hid (show notC c (L.take (i + 1)) = R by rw [notC_take c L i hiL, ← HZ.out, if_pos hc, List.append_nil]; exact HRE.out.symm)
            have HN2 := Lib.hid (find_succ hiL HNO.out (by rw [← HZ.out]; exact sameA_false hs))
            by_cases hs1 : zn = n
            · have d4 : (zn == n) = true := by simp [hs1]
              have d5 : (zk == k) = false := by simp; exact fun h => hs ⟨hs1, h⟩
              clear hs hs1 hc
              go_wp2
              go_roundw
              case rel => exact ⟨i + 1, by go_num, by omega, by rw [HSK.out]; exact HRU.out, HKU.out, HN2.out⟩
              case measure => simp [intOf]; omega
            · have d4 : (zn == n) = false := by simpa using hs1
              clear hs hs1 hc
              go_wp2
              go_roundw
              case rel => exact ⟨i + 1, by go_num, by omega, by rw [HSK.out]; exact HRU.out, HKU.out, HN2.out⟩
              case measure => simp [intOf]; omega
        · have dc : (zc != c) = true := by simpa using hc
          have HSK := Lib.hid (show notC c (L.take (i + 1)) = R ++ [⟨zt, zc, zn, zk⟩] by rw [notC_take c L i hiL, ← HZ.out, if_neg hc, ← HRE.out])
          have HN2 := Lib.hid (find_succ (p := sameA c n k) hiL HNO.out (by rw [← HZ.out]; exact sameA_else hc))
          clear hc
          go_wp2_with (at_builtin; refine wpList_append_rq Tryz.underlying26 info_rr22 _ rfl (.tmp 43) (.tmp 45) rfl V.heap.size (.slice ra N rc) R rfl (HRU.out.no ((Kept.refl _ _).alloc _)) U.heap.size ⟨zt, zc, zn, zk⟩ rfl (heap_alloc_new U _) (by rw [← HNE.out]; omega) (by simp; omega) (N + 1) (by rw [← HNE.out]) ?_; intro a' c' w3 hr3 hg3 hat3; have HR3 := Lib.hid hr3; have HK3 := Lib.hid ((HKU.out.alloc _).grown hg3 (fun j hj => .inr (HRU.out.base j hj).1)); clear hr3 hg3 hat3)
          go_roundw
          case rel => exact ⟨i + 1, by go_num, by omega, by rw [HSK.out]; exact HR3.out, HK3.out, HN2.out⟩
          case measure => simp [intOf]; omega
      · have him : i = m := by omega
        have hd : ¬ (i : Int) < (m : Int) := by omega
        have hLt : L.take i = L := List.take_of_length_le (by rw [him]; exact Nat.le_of_eq HM.out.symm)
        have HRL : Hid (R = notC c L) := Lib.hid (by rw [HRE.out, hLt])
        have HFN : Hid (L.find? (sameA c n k) = none) := Lib.hid (by have := HNO.out; rwa [hLt] at this)
        obtain ⟨x0, x1, fx0, fx1⟩ := cells2q W1.out
        obtain ⟨y0, y1, y2, y3, fy0, fy1, fy2, fy3⟩ := cells4q W2.out
        have HNL : Hid (N = (notC c L).length) := Lib.hid (by rw [HNE.out, HRL.out])
        clear him hLt
        by_cases hf : (16 : Int) ≤ N
        · have df : decide ((16 : Int) ≤ N) = true := decide_eq_true hf
          have df2 : 16 ≤ N := by omega
          have HA : Hid (askF t L c n k = (t, L, rq0, 9)) := Lib.hid (by unfold askF; rw [if_neg HNB.out, HFN.out]; show (if 16 ≤ (notC c L).length then _ else _) = _; rw [if_pos (by rw [← HNL.out]; exact df2)])
          go_wp2
          obtain ⟨g1, g2⟩ := six22_at W1.out W2.out hne (.int .u64 t) (.slice la m lc) (.int .u64 0) (.int .i64 0) (.int .u64 0) (.int .u32 0)
          obtain ⟨r0, r1, _⟩ := cells2q g1
          obtain ⟨s0, s1, s2, s3, _⟩ := cells4q g2
          unfold six22 at r0 r1 s0 s1 s2 s3
          refine bodyPost_ret (v := .tuple #[.agg #[(.int .u64 t), (.slice la m lc)], .agg #[.int .u64 0, .int .i64 0, .int .u64 0, .int .u32 0], (.int .i64 9)]) (by simp [results, Tryz.results16, go_sem, r0, r1, s0, s1, s2, s3]) rfl ?_
          exact rask_end HA.out ((H.out.no HKV.out).no HK.out) (HKV.out.trans HK.out (fun _ _ h => h)) HB0.out
        · have df : decide ((16 : Int) ≤ N) = false := decide_eq_false hf
          have df2 : ¬ 16 ≤ N := by omega
          have HA : Hid (askF t L c n k = (t + 1, R ++ [⟨t + 1, c, n, k⟩], ⟨t + 1, c, n, k⟩, 0)) := Lib.hid (by unfold askF; rw [if_neg HNB.out, HFN.out]; show (if 16 ≤ (notC c L).length then _ else _) = _; rw [if_neg (by rw [← HNL.out]; exact df2), HRL.out])
          have hbz : V.heap.size = w.heap.size + 1 + 1 + 1 := HSV.out
          go_upto_region 16 with (at_builtin; refine wpList_append_rq Tryz.underlying26 info_rr22 _ rfl (.tmp 71) (.tmp 73) rfl V.heap.size (.slice ra N rc) R rfl ((HR.out.no ((Kept.refl _ _).alloc _)).no ((Kept.refl _ _).alloc _)) (wr.heap.size + 1) ⟨t + 1, c, n, k⟩ (by first | rfl | simp) (by have := heap_alloc_new (wr.alloc (.cells #[.int .u64 (t + 1), .int .i64 c, .int .u64 n, .int .u32 k] 37)) (.cells #[.int .u64 (t + 1), .int .i64 c, .int .u64 n, .int .u32 k] 37); rwa [World.size_alloc] at this) (by rw [← HNE.out]; omega) (by simp; omega) (N + 1) (by rw [← HNE.out]) ?_; intro a' c' w3 hr3 hg3 hat3; have HR3 := Lib.hid hr3; have HK3 := Lib.hid (((HK.out.alloc (.cells #[.int .u64 (t + 1), .int .i64 c, .int .u64 n, .int .u32 k] 37)).alloc (.cells #[.int .u64 (t + 1), .int .i64 c, .int .u64 n, .int .u32 k] 37)).grown hg3 (fun j hj => .inr (HR.out.base j hj).1)); have hb3 := (hg3.block wr.heap.size (by simp; omega) (fun e => by have := (HR.out.base _ e.symm).2; omega)); have HB3 := Lib.hid hb3; clear hr3 hg3 hat3 hb3)
          have hb14 := HB3.out.trans ((heap_alloc_old (wr.alloc (.cells #[.int .u64 (t + 1), .int .i64 c, .int .u64 n, .int .u32 k] 37)) (.cells #[.int .u64 (t + 1), .int .i64 c, .int .u64 n, .int .u32 k] 37) (by simp)).trans (heap_alloc_new wr (.cells #[.int .u64 (t + 1), .int .i64 c, .int .u64 n, .int .u32 k] 37)))
          obtain ⟨b0, b1, b2, b3, _⟩ := cells4q hb14
          have U0 := Lib.hid (HK3.out.heap (fun h => h) V0.out)
          have U1 := Lib.hid (HK3.out.heap (fun h => h) V1.out)
          have U2 := Lib.hid (HK3.out.heap (fun h => h) V2.out)
          obtain ⟨q0, q1, _, _⟩ := cells2q U0.out
          obtain ⟨x0, x1, fx0, fx1⟩ := cells2q U1.out
          obtain ⟨y0, y1, y2, y3, fy0, fy1, fy2, fy3⟩ := cells4q U2.out
          obtain ⟨bx, hbx⟩ : ∃ bx, bx = wr.heap.size := ⟨_, rfl⟩
          rw [← hbx] at b0 b1 b2 b3 ⊢
          have hx1 : ¬ bx = w.heap.size + 1 := by omega
          have hx2 : ¬ bx = w.heap.size + 1 + 1 := by omega
          have hx0 : ¬ bx = w.heap.size := by omega
          have hy1 : ¬ w.heap.size + 1 = bx := by omega
          have hy2 : ¬ w.heap.size + 1 + 1 = bx := by omega
          have hy0 : ¬ w.heap.size = bx := by omega
          have HBN := Lib.hid (show ∀ j, (Value.slice a' (N + 1) c').ownBlock = some j → j ≠ w.heap.size + 1 ∧ j ≠ w.heap.size + 1 + 1 from fun j hj => by have := (HR3.out.base j hj).1; omega)
          clear hb14 hbx hbz
          go_region
          go_wp2
          obtain ⟨g1, g2⟩ := six22_at U1.out U2.out hne (.int .u64 (t + 1)) (.slice a' (N + 1) c') (.int .u64 (t + 1)) (.int .i64 c) (.int .u64 n) (.int .u32 k)
          obtain ⟨r0, r1, _⟩ := cells2qd g1
          obtain ⟨s0, s1, s2, s3, _⟩ := cells4qd g2
          unfold six22 at r0 r1 s0 s1 s2 s3
          refine bodyPost_ret (v := .tuple #[.agg #[.int .u64 (t + 1), .slice a' (N + 1) c'], .agg #[.int .u64 (t + 1), .int .i64 c, .int .u64 n, .int .u32 k], .int .i64 0]) (by simp [results, Tryz.results16, go_sem, r0, r1, s0, s1, s2, s3]) rfl ?_
          exact (rask_end HA.out (HR3.out.mono (Nat.zero_le _)) (HKV.out.trans HK3.out (fun _ _ h => h)) HBN.out).drew
end Go.Proofs.YtnnmkmipeoajjaaGreatDoor
