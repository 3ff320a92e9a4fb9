/-
  catenaryref16: Read.
-/
import Derived.Test.YtnmclhgljpcjcaaSesN
import Derived.Test.YtnmclhgljpcjcaaSesP
import Derived.Test.YtnmclhgljpcjcaaRefD
import Derived.Test.YtnmclhgljpcjcaaSesD
namespace Go.Proofs.Ytnmclhgljpcjcaa
open Go.RowKit
set_option linter.unusedVariables false
set_option linter.unusedSimpArgs false

theorem QOwn.last16 {B : Nat} {w : World} {a : Option Addr} {c : Nat} {L : List Rw} (h : QOwn B w (.slice a L.length c) L) (h0 : L ≠ []) : ∃ ob, a = some ⟨ob, 0, none⟩ ∧ w.cell? ⟨ob, (L.length - 1) * 5, none⟩ = some (.int .i64 (lastS L)) := by
  have hp := List.length_pos_iff.2 h0
  have hl : L.length - 1 < L.length := by omega
  obtain ⟨r, c', hv, _, h0', _⟩ := h.cells (L.length - 1) hl
  injection hv with hv _ _
  refine ⟨r, hv, ?_⟩
  rw [h0']
  unfold lastS
  rw [List.getD_eq_getElem?_getD, List.getElem?_eq_getElem hl, Option.getD_some]
/-- A reader of the chapter's, its two cells. -/
def RIn (w : World) (F : Nat → Prop) (a : Option Addr) (n c : Nat) (s : ISt) : Prop := RAt w F (.agg #[.slice a n c, .int .i64 s.err]) s
theorem RIn.of {w : World} {F : Nat → Prop} {v : Value} {s : ISt} (h : RAt w F v s) : ∃ a n c, v = .agg #[.slice a n c, .int .i64 s.err] ∧ RIn w F a n c s := by
  obtain ⟨h1, b, rfl, hb⟩ := h
  have hb' := hb
  obtain ⟨a, c, rfl, _⟩ := hb
  exact ⟨a, _, c, rfl, h1, _, rfl, hb'⟩
theorem RIn.no {w w' : World} {F : Nat → Prop} {a : Option Addr} {n c : Nat} {s : ISt} (h : RIn w F a n c s) (hk : Kept NoB w w') : RIn w' F a n c s := RAt.kept h hk (fun _ _ h => h)
theorem blkI_two {w : World} {b : Nat} {x y : Value} {t : TypeId} (h : w.heap[b]? = some (.cells #[x, y] t (0, 0))) (u v : Value) : ((w.setCell ⟨b, 0, none⟩ u).setCell ⟨b, 1, none⟩ v).heap[b]? = some (.cells #[u, v] t (0, 0)) := blkR_set (blkR_set h 0 u) 1 v
theorem cells2i {w : World} {b : Nat} {x y : Value} {t : TypeId} (h : w.heap[b]? = some (.cells #[x, y] t (0, 0))) : w.cell? ⟨b, 0, none⟩ = some x ∧ w.cell? ⟨b, 1, none⟩ = some y := ⟨cell_of_row _ _ 0 _ _ _ h, cell_of_row _ _ 1 _ _ _ h⟩
def RReadEnd (w : World) (F : Nat → Prop) (s : ISt) (e : Ending) (w' : World) : Prop :=
  ∃ a n c lv, e = .returned (.tuple #[.agg #[.slice a n c, .int .i64 (readS s).1.err], lv, .int .i64 (readS s).2.2]) ∧ RIn w' F a n c (readS s).1 ∧ RwRd w' (fun i => w.heap.size ≤ i) lv (readS s).2.1 ∧ Kept NoB w w'
def RrRel (w : World) (F : Nat → Prop) (n : Nat) (s1 : ISt) (ov gv kv : Value) (wr : World) : Prop :=
  ∃ (k : Nat) (a : Option Addr) (m c : Nat), k ≤ n ∧ kv = .int .u64 k ∧ gv = .bool (goodB (getRows k s1).2) ∧ RIn wr F a m c (getRows k s1).1 ∧ wr.heap[w.heap.size]? = some (.cells #[.slice a m c, .int .i64 (getRows k s1).1.err] 103 (0, 0)) ∧ wr.heap[w.heap.size + 1]? = some (.cells #[.slice none 0 0, .int .i64 0] 103 (0, 0)) ∧ QOwn (w.heap.size + 2) wr ov (getRows k s1).2 ∧ Kept NoB w wr
theorem goodB_snoc (M : List Rw) (x : Rw) : goodB (M ++ [x]) = (goodB M && decide (FineR x) && decide (M = [] ∨ lastS M < x.s)) := by
  unfold goodB
  rw [Bool.eq_iff_iff]
  simp only [decide_eq_true_eq, Bool.and_eq_true]
  rw [good_snoc]
  constructor
  · rintro ⟨h1, h2, h3⟩; exact ⟨⟨h1, h2⟩, h3⟩
  · rintro ⟨⟨h1, h2⟩, h3⟩; exact ⟨h1, h2, h3⟩
set_option maxRecDepth 100000 in
set_option maxHeartbeats 4000000 in
theorem RRead16 (w : World) (v : Value) (F : Nat → Prop) (s : ISt) (h : RAt w F v s) (hF : ∀ i, F i → i < w.heap.size) : Calls Try.prog 59 #[v] w (RReadEnd w F s) := by
  obtain ⟨a0, m0, c0, rfl, hr0⟩ := RIn.of h
  have hk2 := ((Kept.refl NoB w).alloc (.cells #[.slice a0 m0 c0, .int .i64 s.err] 103)).alloc (.cells #[.slice none 0 0, .int .i64 0] 103)
  have hb1 := blkR_alloc (heap_alloc_new w (.cells #[.slice a0 m0 c0, .int .i64 s.err] 103)) (.cells #[.slice none 0 0, .int .i64 0] 103)
  have hb2 := heap_alloc_new (w.alloc (.cells #[.slice a0 m0 c0, .int .i64 s.err] 103)) (.cells #[.slice none 0 0, .int .i64 0] 103)
  rw [show (w.alloc (.cells #[.slice a0 m0 c0, .int .i64 s.err] 103)).heap.size = w.heap.size + 1 by simp] at hb2
  obtain ⟨W, hW⟩ : ∃ W, W = (w.alloc (.cells #[.slice a0 m0 c0, .int .i64 s.err] 103)).alloc (.cells #[.slice none 0 0, .int .i64 0] 103) := ⟨_, rfl⟩
  rw [← hW] at hk2 hb1 hb2
  have HW := Lib.hid hW
  have HK := Lib.hid hk2
  have HB1 := Lib.hid hb1
  have HB2 := Lib.hid hb2
  have HSZ : Hid (W.heap.size = w.heap.size + 2) := Lib.hid (by rw [hW]; simp)
  have HF := Lib.hid hF
  have HU := Lib.hid (RUpto_any _ s 1 6 F W (hr0.no hk2) (fun i hi => Nat.lt_of_lt_of_le (hF i hi) hk2.size))
  have hn := upto_le16 s
  obtain ⟨N, hN⟩ := Int.eq_ofNat_of_zero_le hn.1
  obtain ⟨s1, hs1⟩ : ∃ s1, s1 = (s.upto 1 6).1 := ⟨_, rfl⟩
  have HRS : Hid (readS s = if (getRows N s1).1.err ≠ 0 then ((getRows N s1).1, [], (getRows N s1).1.err) else if goodB (getRows N s1).2 = true then ((getRows N s1).1, (getRows N s1).2, 0) else ((getRows N s1).1, [], 4)) := Lib.hid (by
    unfold readS
    rw [hN, ← hs1, Int.toNat_natCast])
  rw [hN] at hn
  rw [← hs1, hN] at HU
  have hNl : N ≤ 6 := by omega
  obtain ⟨d0, d1⟩ := cells2i hb1
  clear h hs1 hN hn hF hW hk2 hb1 hb2 hr0
  go_enter Try.func59, Try.ntmps59
  go_upto_region 1 with fail
  rw [← HW.out]
  go_wp2_with fail
  refine HU.out.mono ?_
  rintro e w1 ⟨v1, rfl, hr1, hk1⟩
  obtain ⟨a1, m1, c1, rfl, hi1⟩ := RIn.of hr1
  have HI1 := Lib.hid hi1
  have HK1 := Lib.hid hk1
  have hb1 := hk1.heap (fun h => h) HB1.out
  have hb2 := hk1.heap (fun h => h) HB2.out
  have HB1b := Lib.hid hb1
  have HB2b := Lib.hid hb2
  clear d0 d1
  obtain ⟨d0, d1⟩ := cells2i hb1
  have hz1 := blkR_frozen hb1
  clear hr1 hk1 hb1 hb2
  go_wp2_with fail
  have hne12 : ¬ w.heap.size = w.heap.size + 1 := by omega
  have hS1 : Kept (fun i => i = w.heap.size) w1 ((w1.setCell ⟨w.heap.size, 0, none⟩ (.slice a1 m1 c1)).setCell ⟨w.heap.size, 1, none⟩ (.int .i64 s1.err)) := ((Kept.refl (fun i => i = w.heap.size) w1).setCell (p := ⟨w.heap.size, 0, none⟩) (.inl (by show w.heap.size = _; rfl)) _).setCell (p := ⟨w.heap.size, 1, none⟩) (.inl (by show w.heap.size = _; rfl)) _
  have H0 : Hid (RrRel w F N s1 (.slice none 0 0) (.bool true) (.int .u64 0) ((w1.setCell ⟨w.heap.size, 0, none⟩ (.slice a1 m1 c1)).setCell ⟨w.heap.size, 1, none⟩ (.int .i64 s1.err))) := Lib.hid
    ⟨0, a1, m1, c1, Nat.zero_le _, rfl, rfl, RAt.kept HI1.out hS1 (fun i hi h => by have := HF.out i hi; omega), blkI_two HB1b.out _ _, hS1.heap (fun h : w.heap.size + 1 = w.heap.size => by omega) HB2b.out, QOwn.nil _ _, (HK.out.trans HK1.out (fun _ _ h => h)).trans hS1 (fun i hi h => by omega)⟩
  clear d0 d1 hz1 hS1 hne12
  go_loopw [6, 7, 8] (RrRel w F N s1) (fun _ _ i _ => N - (RowKit.intOf i).toNat)
  case atStart => exact H0.out
  case round =>
    obtain ⟨k, a, m, c, hk, rfl, rfl, hin, hb1, hb2, hq, hK⟩ := hrel
    have hk0 : (0 : Int) ≤ (k : Int) := by omega
    have HIN := Lib.hid hin
    have HB1r := Lib.hid hb1
    have HB2r := Lib.hid hb2
    have HQ := Lib.hid hq
    have HKr := Lib.hid hK
    obtain ⟨d0, d1⟩ := cells2i hb1
    have hz1 := blkR_frozen hb1
    clear hin hb1 hb2 hq hK
    by_cases hlt : k < N
    · have hk1 : (k : Int) < (N : Int) := by omega
      have HG1 : Hid (getRows (k + 1) s1 = ((getRow (getRows k s1).1).1, (getRows k s1).2 ++ [(getRow (getRows k s1).1).2])) := Lib.hid rfl
      obtain ⟨t0, ht0⟩ : ∃ t, t = (getRows k s1).1 := ⟨_, rfl⟩
      obtain ⟨M, hM⟩ : ∃ M, M = (getRows k s1).2 := ⟨_, rfl⟩
      have hMl : M.length = k := by rw [hM, getRows_len]
      rw [← ht0, ← hM] at HG1
      rw [← hM] at HQ ⊢
      obtain ⟨oa, oc, rfl⟩ := HQ.out.form
      rw [← ht0] at HIN HB1r d1
      have hB0 : IsB t0.l := by obtain ⟨_, _, _, hb⟩ := HIN.out; exact hb.isB
      obtain ⟨t1, ht1⟩ : ∃ t, t = (t0.get 1).1 := ⟨_, rfl⟩
      obtain ⟨v0, hv0⟩ : ∃ v, v = (t0.get 1).2 := ⟨_, rfl⟩
      obtain ⟨t2, ht2⟩ : ∃ t, t = (t1.get 8).1 := ⟨_, rfl⟩
      obtain ⟨v1, hv1⟩ : ∃ v, v = (t1.get 8).2 := ⟨_, rfl⟩
      obtain ⟨t3, ht3⟩ : ∃ t, t = (t2.get 8).1 := ⟨_, rfl⟩
      obtain ⟨v2, hv2⟩ : ∃ v, v = (t2.get 8).2 := ⟨_, rfl⟩
      obtain ⟨t4, ht4⟩ : ∃ t, t = (t3.get 1).1 := ⟨_, rfl⟩
      obtain ⟨v3, hv3⟩ : ∃ v, v = (t3.get 1).2 := ⟨_, rfl⟩
      obtain ⟨t5, ht5⟩ : ∃ t, t = (t4.get 8).1 := ⟨_, rfl⟩
      obtain ⟨v4, hv4⟩ : ∃ v, v = (t4.get 8).2 := ⟨_, rfl⟩
      have HGR : Hid (getRow t0 = (t5, ⟨v0, v1, v2, v3, v4⟩)) := Lib.hid (by unfold getRow; rw [← ht1, ← ht2, ← ht3, ← ht4, ← ht5, ← hv0, ← hv1, ← hv2, ← hv3, ← hv4])
      have hB3 : IsB t3.l := by
        have hB1 : IsB t1.l := by rw [ht1]; exact get_isB16 hB0 1
        have hB2 : IsB t2.l := by rw [ht2]; exact get_isB16 hB1 8
        rw [ht3]; exact get_isB16 hB2 8
      have hb3 := get1_le16 t3 hB3
      rw [← hv3] at hb3
      have hb30 := hb3.1
      have hb31 := hb3.2
      have hb0 := get1_le16 t0 hB0
      rw [← hv0] at hb0
      have hb00 := hb0.1
      have hb01 := hb0.2
      have hwa : IntKind.i64.wrap v0 = v0 := IntWalk.i64_in _ (by omega)
      have hwb : IntKind.i64.wrap v3 = v3 := IntWalk.i64_in _ (by omega)
      have HC0 : Hid (∀ w' a n c, RIn w' F a n c t0 → Kept NoB wr w' → Calls Try.prog 89 #[.agg #[.slice a n c, .int .i64 t0.err], .int .i64 1] w' fun r w'' => ∃ a' n' c', r = .returned (.tuple #[.agg #[.slice a' n' c', .int .i64 t1.err], .int .u64 v0]) ∧ RIn w'' F a' n' c' t1 ∧ Kept NoB w' w'') := Lib.hid (fun w' a n c h hk => by
        rw [hv0, ht1]
        refine (RGet_any _ t0 1 F w' h (fun i hi => by have := HF.out i hi; have := HKr.out.size; have := hk.size; omega)).mono ?_
        rintro r w'' ⟨v', rfl, h1, h2⟩
        obtain ⟨a', n', c', rfl, h3⟩ := RIn.of h1
        exact ⟨a', n', c', rfl, h3, h2⟩)
      have HC1 : Hid (∀ w' a n c, RIn w' F a n c t1 → Kept NoB wr w' → Calls Try.prog 89 #[.agg #[.slice a n c, .int .i64 t1.err], .int .i64 8] w' fun r w'' => ∃ a' n' c', r = .returned (.tuple #[.agg #[.slice a' n' c', .int .i64 t2.err], .int .u64 v1]) ∧ RIn w'' F a' n' c' t2 ∧ Kept NoB w' w'') := Lib.hid (fun w' a n c h hk => by
        rw [hv1, ht2]
        refine (RGet_any _ t1 8 F w' h (fun i hi => by have := HF.out i hi; have := HKr.out.size; have := hk.size; omega)).mono ?_
        rintro r w'' ⟨v', rfl, h1, h2⟩
        obtain ⟨a', n', c', rfl, h3⟩ := RIn.of h1
        exact ⟨a', n', c', rfl, h3, h2⟩)
      have HC2 : Hid (∀ w' a n c, RIn w' F a n c t2 → Kept NoB wr w' → Calls Try.prog 89 #[.agg #[.slice a n c, .int .i64 t2.err], .int .i64 8] w' fun r w'' => ∃ a' n' c', r = .returned (.tuple #[.agg #[.slice a' n' c', .int .i64 t3.err], .int .u64 v2]) ∧ RIn w'' F a' n' c' t3 ∧ Kept NoB w' w'') := Lib.hid (fun w' a n c h hk => by
        rw [hv2, ht3]
        refine (RGet_any _ t2 8 F w' h (fun i hi => by have := HF.out i hi; have := HKr.out.size; have := hk.size; omega)).mono ?_
        rintro r w'' ⟨v', rfl, h1, h2⟩
        obtain ⟨a', n', c', rfl, h3⟩ := RIn.of h1
        exact ⟨a', n', c', rfl, h3, h2⟩)
      have HC3 : Hid (∀ w' a n c, RIn w' F a n c t3 → Kept NoB wr w' → Calls Try.prog 89 #[.agg #[.slice a n c, .int .i64 t3.err], .int .i64 1] w' fun r w'' => ∃ a' n' c', r = .returned (.tuple #[.agg #[.slice a' n' c', .int .i64 t4.err], .int .u64 v3]) ∧ RIn w'' F a' n' c' t4 ∧ Kept NoB w' w'') := Lib.hid (fun w' a n c h hk => by
        rw [hv3, ht4]
        refine (RGet_any _ t3 1 F w' h (fun i hi => by have := HF.out i hi; have := HKr.out.size; have := hk.size; omega)).mono ?_
        rintro r w'' ⟨v', rfl, h1, h2⟩
        obtain ⟨a', n', c', rfl, h3⟩ := RIn.of h1
        exact ⟨a', n', c', rfl, h3, h2⟩)
      have HC4 : Hid (∀ w' a n c, RIn w' F a n c t4 → Kept NoB wr w' → Calls Try.prog 89 #[.agg #[.slice a n c, .int .i64 t4.err], .int .i64 8] w' fun r w'' => ∃ a' n' c', r = .returned (.tuple #[.agg #[.slice a' n' c', .int .i64 t5.err], .int .u64 v4]) ∧ RIn w'' F a' n' c' t5 ∧ Kept NoB w' w'') := Lib.hid (fun w' a n c h hk => by
        rw [hv4, ht5]
        refine (RGet_any _ t4 8 F w' h (fun i hi => by have := HF.out i hi; have := HKr.out.size; have := hk.size; omega)).mono ?_
        rintro r w'' ⟨v', rfl, h1, h2⟩
        obtain ⟨a', n', c', rfl, h3⟩ := RIn.of h1
        exact ⟨a', n', c', rfl, h3, h2⟩)
      have HSr : Hid (w.heap.size + 2 ≤ wr.heap.size) := Lib.hid (by have := HKr.out.size; have := heap_lt HB2r.out; omega)
      have HML := Lib.hid hMl
      clear hb3 hB3 hb0 hB0 ht0 hM ht1 ht2 ht3 ht4 ht5 hv0 hv1 hv2 hv3 hv4 hMl
      go_wp2_with fail
      refine (HC0.out wr _ _ _ HIN.out (Kept.refl _ _)).mono ?_
      rintro e x1 ⟨b1, n1, q1, rfl, hi1, hk1x⟩
      have HI1x := Lib.hid hi1
      have HKx1 := Lib.hid hk1x
      have HN9 := Lib.hid (heap_alloc_new x1 (.cells #[.slice b1 n1 q1, .int .i64 t1.err] 103))
      obtain ⟨y1, hy1⟩ : ∃ y, y = x1.alloc (.cells #[.slice b1 n1 q1, .int .i64 t1.err] 103) := ⟨_, rfl⟩
      rw [← hy1] at HN9
      have HKy1 : Hid (Kept NoB x1 y1) := Lib.hid (by rw [hy1]; exact (Kept.refl _ _).alloc _)
      have HY1 := Lib.hid hy1
      obtain ⟨f0, f1⟩ := cells2i HN9.out
      have hzf := blkR_frozen HN9.out
      have hq12 : ¬ w.heap.size = x1.heap.size := by have := HSr.out; have := hk1x.size; omega
      have hq21 : ¬ x1.heap.size = w.heap.size := fun h => hq12 h.symm
      have HKY1 := Lib.hid (hk1x.trans HKy1.out (fun _ _ h => h))
      have HIY1 := Lib.hid (hi1.no HKy1.out)
      obtain ⟨J, hJ⟩ : ∃ J, J = x1.heap.size := ⟨_, rfl⟩
      have HJ : Hid (wr.heap.size ≤ J) := Lib.hid (by rw [hJ]; exact hk1x.size)
      rw [← hJ] at HN9 f0 f1 hzf hq12 hq21
      have HJJ := Lib.hid hJ
      clear hi1 hk1x hy1 hJ
      go_upto_region 8 with fail
      rw [← HY1.out, ← HJJ.out]
      go_wp2_with fail
      refine (HC1.out y1 _ _ _ HIY1.out HKY1.out).mono ?_
      rintro e x2 ⟨b2, n2, q2, rfl, hi2, hkx2⟩
      have HIx2 := Lib.hid hi2
      have HKx2 := Lib.hid hkx2
      have hnx := hkx2.heap (fun h => h) HN9.out
      have HNX2 := Lib.hid hnx
      clear f0 f1 hzf
      obtain ⟨f0, f1⟩ := cells2i hnx
      have hzf := blkR_frozen hnx
      obtain ⟨y2, hy2⟩ : ∃ y, y = (x2.setCell ⟨J, 0, none⟩ (.slice b2 n2 q2)).setCell ⟨J, 1, none⟩ (.int .i64 t2.err) := ⟨_, rfl⟩
      have HY2 := Lib.hid hy2
      have HKJ2 : Hid (Kept (fun i => i = J) x2 y2) := Lib.hid (by rw [hy2]; exact ((Kept.refl (fun i => i = J) _).setCell (p := ⟨J, 0, none⟩) (.inl (by show J = J; rfl)) _).setCell (p := ⟨J, 1, none⟩) (.inl (by show J = J; rfl)) _)
      have HN92 : Hid (y2.heap[J]? = some (.cells #[.slice b2 n2 q2, .int .i64 t2.err] 103 (0, 0))) := Lib.hid (by rw [hy2]; exact blkI_two HNX2.out _ _)
      have HKY2 := Lib.hid ((HKY1.out.trans HKx2.out (fun _ _ h => h)).trans HKJ2.out (fun i hi h => by have := HJ.out; omega))
      have HIY2 : Hid (RIn y2 F b2 n2 q2 t2) := Lib.hid (RAt.kept HIx2.out HKJ2.out (fun i hi h => by have := HF.out i hi; have := HJ.out; have := HSr.out; omega))
      clear hi2 hkx2 hnx hy2
      go_upto_region 9 with fail
      rw [← HY2.out]
      clear f0 f1 hzf
      obtain ⟨f0, f1⟩ := cells2i HN92.out
      have hzf := blkR_frozen HN92.out
      go_wp2_with fail
      refine (HC2.out y2 _ _ _ HIY2.out HKY2.out).mono ?_
      rintro e x3 ⟨b3, n3, q3, rfl, hi3, hkx3⟩
      have HIx3 := Lib.hid hi3
      have HKx3 := Lib.hid hkx3
      have hnx := hkx3.heap (fun h => h) HN92.out
      have HNX3 := Lib.hid hnx
      clear f0 f1 hzf
      obtain ⟨f0, f1⟩ := cells2i hnx
      have hzf := blkR_frozen hnx
      obtain ⟨y3, hy3⟩ : ∃ y, y = (x3.setCell ⟨J, 0, none⟩ (.slice b3 n3 q3)).setCell ⟨J, 1, none⟩ (.int .i64 t3.err) := ⟨_, rfl⟩
      have HY3 := Lib.hid hy3
      have HKJ3 : Hid (Kept (fun i => i = J) x3 y3) := Lib.hid (by rw [hy3]; exact ((Kept.refl (fun i => i = J) _).setCell (p := ⟨J, 0, none⟩) (.inl (by show J = J; rfl)) _).setCell (p := ⟨J, 1, none⟩) (.inl (by show J = J; rfl)) _)
      have HN93 : Hid (y3.heap[J]? = some (.cells #[.slice b3 n3 q3, .int .i64 t3.err] 103 (0, 0))) := Lib.hid (by rw [hy3]; exact blkI_two HNX3.out _ _)
      have HKY3 := Lib.hid ((HKY2.out.trans HKx3.out (fun _ _ h => h)).trans HKJ3.out (fun i hi h => by have := HJ.out; omega))
      have HIY3 : Hid (RIn y3 F b3 n3 q3 t3) := Lib.hid (RAt.kept HIx3.out HKJ3.out (fun i hi h => by have := HF.out i hi; have := HJ.out; have := HSr.out; omega))
      clear hi3 hkx3 hnx hy3
      go_upto_region 10 with fail
      rw [← HY3.out]
      clear f0 f1 hzf
      obtain ⟨f0, f1⟩ := cells2i HN93.out
      have hzf := blkR_frozen HN93.out
      go_wp2_with fail
      refine (HC3.out y3 _ _ _ HIY3.out HKY3.out).mono ?_
      rintro e x4 ⟨b4, n4, q4, rfl, hi4, hkx4⟩
      have HIx4 := Lib.hid hi4
      have HKx4 := Lib.hid hkx4
      have hnx := hkx4.heap (fun h => h) HN93.out
      have HNX4 := Lib.hid hnx
      clear f0 f1 hzf
      obtain ⟨f0, f1⟩ := cells2i hnx
      have hzf := blkR_frozen hnx
      obtain ⟨y4, hy4⟩ : ∃ y, y = (x4.setCell ⟨J, 0, none⟩ (.slice b4 n4 q4)).setCell ⟨J, 1, none⟩ (.int .i64 t4.err) := ⟨_, rfl⟩
      have HY4 := Lib.hid hy4
      have HKJ4 : Hid (Kept (fun i => i = J) x4 y4) := Lib.hid (by rw [hy4]; exact ((Kept.refl (fun i => i = J) _).setCell (p := ⟨J, 0, none⟩) (.inl (by show J = J; rfl)) _).setCell (p := ⟨J, 1, none⟩) (.inl (by show J = J; rfl)) _)
      have HN94 : Hid (y4.heap[J]? = some (.cells #[.slice b4 n4 q4, .int .i64 t4.err] 103 (0, 0))) := Lib.hid (by rw [hy4]; exact blkI_two HNX4.out _ _)
      have HKY4 := Lib.hid ((HKY3.out.trans HKx4.out (fun _ _ h => h)).trans HKJ4.out (fun i hi h => by have := HJ.out; omega))
      have HIY4 : Hid (RIn y4 F b4 n4 q4 t4) := Lib.hid (RAt.kept HIx4.out HKJ4.out (fun i hi h => by have := HF.out i hi; have := HJ.out; have := HSr.out; omega))
      clear hi4 hkx4 hnx hy4
      go_upto_region 11 with fail
      rw [← HY4.out]
      clear f0 f1 hzf
      obtain ⟨f0, f1⟩ := cells2i HN94.out
      have hzf := blkR_frozen HN94.out
      go_wp2_with fail
      refine (HC4.out y4 _ _ _ HIY4.out HKY4.out).mono ?_
      rintro e x5 ⟨b5, n5, q5, rfl, hi5, hkx5⟩
      have HIx5 := Lib.hid hi5
      have HKx5 := Lib.hid hkx5
      have hnx := hkx5.heap (fun h => h) HN94.out
      have HNX5 := Lib.hid hnx
      clear f0 f1 hzf
      obtain ⟨f0, f1⟩ := cells2i hnx
      have hzf := blkR_frozen hnx
      obtain ⟨y5, hy5⟩ : ∃ y, y = (x5.setCell ⟨J, 0, none⟩ (.slice b5 n5 q5)).setCell ⟨J, 1, none⟩ (.int .i64 t5.err) := ⟨_, rfl⟩
      have HY5 := Lib.hid hy5
      have HKJ5 : Hid (Kept (fun i => i = J) x5 y5) := Lib.hid (by rw [hy5]; exact ((Kept.refl (fun i => i = J) _).setCell (p := ⟨J, 0, none⟩) (.inl (by show J = J; rfl)) _).setCell (p := ⟨J, 1, none⟩) (.inl (by show J = J; rfl)) _)
      have HN95 : Hid (y5.heap[J]? = some (.cells #[.slice b5 n5 q5, .int .i64 t5.err] 103 (0, 0))) := Lib.hid (by rw [hy5]; exact blkI_two HNX5.out _ _)
      have HKY5 := Lib.hid ((HKY4.out.trans HKx5.out (fun _ _ h => h)).trans HKJ5.out (fun i hi h => by have := HJ.out; omega))
      have HIY5 : Hid (RIn y5 F b5 n5 q5 t5) := Lib.hid (RAt.kept HIx5.out HKJ5.out (fun i hi h => by have := HF.out i hi; have := HJ.out; have := HSr.out; omega))
      clear hi5 hkx5 hnx hy5
      go_upto_region 12 with fail
      rw [← HY5.out]
      clear f0 f1 hzf
      obtain ⟨f0, f1⟩ := cells2i HN95.out
      have hzf := blkR_frozen HN95.out
      have hb1y := HKY5.out.heap (fun h => h) HB1r.out
      have HB1y := Lib.hid hb1y
      clear d0 d1
      obtain ⟨d0, d1⟩ := cells2i hb1y
      have hz1y := blkR_frozen hb1y
      clear hb1y
      go_upto_region 13 with fail
      obtain ⟨y6, hy6⟩ : ∃ y, y = (y5.setCell ⟨w.heap.size, 0, none⟩ (.slice b5 n5 q5)).setCell ⟨w.heap.size, 1, none⟩ (.int .i64 t5.err) := ⟨_, rfl⟩
      rw [← hy6]
      have HKB : Hid (Kept (fun i => i = w.heap.size) y5 y6) := Lib.hid (by rw [hy6]; exact ((Kept.refl (fun i => i = w.heap.size) _).setCell (p := ⟨w.heap.size, 0, none⟩) (.inl (by show w.heap.size = _; rfl)) _).setCell (p := ⟨w.heap.size, 1, none⟩) (.inl (by show w.heap.size = _; rfl)) _)
      have HB16 : Hid (y6.heap[w.heap.size]? = some (.cells #[.slice b5 n5 q5, .int .i64 t5.err] 103 (0, 0))) := Lib.hid (by rw [hy6]; exact blkI_two HB1y.out _ _)
      have HB26 := Lib.hid (HKB.out.heap (fun h : w.heap.size + 1 = w.heap.size => by omega) (HKY5.out.heap (fun h => h) HB2r.out))
      have HI6 : Hid (RIn y6 F b5 n5 q5 t5) := Lib.hid (RAt.kept HIY5.out HKB.out (fun i hi h => by have := HF.out i hi; omega))
      have HQ6 := Lib.hid ((HQ.out.no HKY5.out).kept HKB.out (fun i hi h => by have := (HQ.out.base i hi).1; omega))
      have HK6 := Lib.hid ((HKr.out.trans HKY5.out (fun _ _ h => h)).trans HKB.out (fun i hi h => by omega))
      clear d0 d1 f0 f1 hzf hz1 hz1y hy6 hq12 hq21
      have HX7 := Lib.hid (heap_alloc_new y6 (.cells #[.int .i64 v0, .int .u64 v1, .int .u64 v2, .int .i64 v3, .int .u64 v4] 74))
      obtain ⟨y7, hy7⟩ : ∃ y, y = y6.alloc (.cells #[.int .i64 v0, .int .u64 v1, .int .u64 v2, .int .i64 v3, .int .u64 v4] 74) := ⟨_, rfl⟩
      have HK67 : Hid (Kept NoB y6 y7) := Lib.hid (by rw [hy7]; exact (Kept.refl _ _).alloc _)
      rw [← hy7] at HX7
      have HY7 := Lib.hid hy7
      clear hy7
      go_upto_region 14 with fail
      rw [← HY7.out]
      have HQ7 := Lib.hid (HQ6.out.no HK67.out)
      have HK7 := Lib.hid (HK6.out.trans HK67.out (fun _ _ h => h))
      have HFI := Lib.hid (fun w' => RFine_any v0 v1 v2 v3 v4 w')
      obtain ⟨bf, hbf⟩ : ∃ b, b = decide (FineR ⟨v0, v1, v2, v3, v4⟩) := ⟨_, rfl⟩
      rw [← hbf] at HFI
      have HBF := Lib.hid hbf
      clear hbf
      cases bf
      · have HTEN : Hid (∀ w', Kept NoB y7 w' → w'.cell? ⟨y6.heap.size, 0, none⟩ = some (.int .i64 v0) ∧ w'.cell? ⟨y6.heap.size, 1, none⟩ = some (.int .u64 v1) ∧ w'.cell? ⟨y6.heap.size, 2, none⟩ = some (.int .u64 v2) ∧ w'.cell? ⟨y6.heap.size, 3, none⟩ = some (.int .i64 v3) ∧ w'.cell? ⟨y6.heap.size, 4, none⟩ = some (.int .u64 v4)) := Lib.hid (fun w' hk => ⟨cell_of_row _ _ 0 _ _ _ (hk.heap (fun h => h) HX7.out), cell_of_row _ _ 1 _ _ _ (hk.heap (fun h => h) HX7.out), cell_of_row _ _ 2 _ _ _ (hk.heap (fun h => h) HX7.out), cell_of_row _ _ 3 _ _ _ (hk.heap (fun h => h) HX7.out), cell_of_row _ _ 4 _ _ _ (hk.heap (fun h => h) HX7.out)⟩)
        have HKe := Lib.hid (Kept.refl NoB y7).drew
        have HT := Lib.hid (HTEN.out _ HKe.out)
        refine wp_region_noPanic ?_
        refine wp_region_held_drew (S := (fun w' => w'.cell? ⟨y6.heap.size, 0, none⟩ = some (.int .i64 v0) ∧ w'.cell? ⟨y6.heap.size, 1, none⟩ = some (.int .u64 v1) ∧ w'.cell? ⟨y6.heap.size, 2, none⟩ = some (.int .u64 v2) ∧ w'.cell? ⟨y6.heap.size, 3, none⟩ = some (.int .i64 v3) ∧ w'.cell? ⟨y6.heap.size, 4, none⟩ = some (.int .u64 v4))) (by kernel_rfl) ?_ (fun hHeld => ?_)
        · (try dsimp only); with_reducible exact HT.out
        refine wpAnyH_take (i := 0) (oi := { dst := some 60, op := Op.load 74 (Operand.tmp 15), type := 74, pos := "ref.go:100", after := #[], guard := none }) (v := ?_) rfl (by kernel_rfl) (by kernel_rfl) (by kernel_rfl) (fun _ _ _ h => h) (Or.inl ⟨by rfl, ?_⟩) (by assumption) ?_
        rotate_left
        · (intro w hSw; (try dsimp only at hSw); go_simp; try with_reducible rfl)
        try simp only [Act.put, List.setIfInBounds_toArray, List.set_cons_zero, List.set_cons_succ]
        refine wpAnyH_ready (rs := [1]) (by kernel_rfl) (by simp) ?_
        refine AllReadyH.cons (o := { dst := some 61, op := Op.call { callee := Callee.value (Operand.func 50), args := #[Operand.tmp 60], argTypes := #[74] }, type := 4, pos := "ref.go:100", after := #[{ on := 0, ground := Ground.data }], guard := none }) rfl (fun K hK => ?_) AllReadyH.nil
        go_simp
        (with_reducible refine (HFI.out _).mono ?_)
        rintro e z ⟨rfl, hkz⟩
        replace HKe := Lib.hid (HKe.out.trans hkz (fun _ _ h => h))
        clear hkz
        replace HT := Lib.hid (HTEN.out _ HKe.out)
        first | (with_reducible refine hK.out _ _ ?_ (fun hHeld => ?_)) | (go_wp2_with fail; with_reducible refine hK.out _ _ ?_ (fun hHeld => ?_))
        · (try dsimp only); with_reducible exact HT.out
        clear hK K
        try simp only [Act.put, List.setIfInBounds_toArray, List.set_cons_zero, List.set_cons_succ]
        refine wpAnyH_take (i := 2) (oi := { dst := some 62, op := Op.unOp UnOp.not 4 (Operand.tmp 61), type := 4, pos := "ref.go:100", after := #[{ on := 1, ground := Ground.data }], guard := none }) (v := ?_) rfl (by kernel_rfl) (by kernel_rfl) (by kernel_rfl) (fun _ _ _ h => h) (Or.inl ⟨by rfl, ?_⟩) (by assumption) ?_
        rotate_left
        · (intro w hSw; (try dsimp only at hSw); go_simp; try with_reducible rfl)
        try simp only [Act.put, List.setIfInBounds_toArray, List.set_cons_zero, List.set_cons_succ]
        refine wpAnyH_take (i := 3) (oi := { dst := some 63, op := Op.move (Operand.tmp 62), type := 4, pos := "ref.go:100", after := #[{ on := 2, ground := Ground.data }, { on := 1, ground := Ground.chain }], guard := none }) (v := ?_) rfl (by kernel_rfl) (by kernel_rfl) (by kernel_rfl) (fun _ _ _ h => h) (Or.inl ⟨by rfl, ?_⟩) (by assumption) ?_
        rotate_left
        · (intro w hSw; (try dsimp only at hSw); go_simp; try with_reducible rfl)
        try simp only [Act.put, List.setIfInBounds_toArray, List.set_cons_zero, List.set_cons_succ]
        refine wpAnyH_take (i := 4) (oi := { dst := some 64, op := Op.move (Operand.tmp 6), type := 68, pos := "ref.go:100", after := #[{ on := 3, ground := Ground.guard }], guard := some (3, false) }) (v := undef) rfl (by kernel_rfl) (by kernel_rfl) (by kernel_rfl) (fun _ _ _ h => h) (Or.inr ⟨by rfl, rfl⟩) (by assumption) ?_
        try simp only [Act.put, List.setIfInBounds_toArray, List.set_cons_zero, List.set_cons_succ]
        refine wpAnyH_take (i := 5) (oi := { dst := some 65, op := Op.call { callee := Callee.builtin Builtin.len, args := #[Operand.tmp 64], argTypes := #[68] }, type := 3, pos := "ref.go:100", after := #[{ on := 4, ground := Ground.data }, { on := 3, ground := Ground.guard }], guard := some (3, false) }) (v := undef) rfl (by kernel_rfl) (by kernel_rfl) (by kernel_rfl) (fun _ _ _ h => h) (Or.inr ⟨by rfl, rfl⟩) (by assumption) ?_
        try simp only [Act.put, List.setIfInBounds_toArray, List.set_cons_zero, List.set_cons_succ]
        refine wpAnyH_take (i := 6) (oi := { dst := some 66, op := Op.binOp BinOp.gtr 3 (Operand.tmp 65) (Operand.const (Value.int IntKind.i64 0)) 3, type := 4, pos := "ref.go:100", after := #[{ on := 5, ground := Ground.data }, { on := 3, ground := Ground.guard }], guard := some (3, false) }) (v := undef) rfl (by kernel_rfl) (by kernel_rfl) (by kernel_rfl) (fun _ _ _ h => h) (Or.inr ⟨by rfl, rfl⟩) (by assumption) ?_
        try simp only [Act.put, List.setIfInBounds_toArray, List.set_cons_zero, List.set_cons_succ]
        refine wpAnyH_take (i := 7) (oi := { dst := some 67, op := Op.move (Operand.tmp 66), type := 4, pos := "ref.go:100", after := #[{ on := 6, ground := Ground.data }, { on := 3, ground := Ground.chain }, { on := 3, ground := Ground.guard }], guard := some (3, false) }) (v := undef) rfl (by kernel_rfl) (by kernel_rfl) (by kernel_rfl) (fun _ _ _ h => h) (Or.inr ⟨by rfl, rfl⟩) (by assumption) ?_
        try simp only [Act.put, List.setIfInBounds_toArray, List.set_cons_zero, List.set_cons_succ]
        refine wpAnyH_take (i := 8) (oi := { dst := some 68, op := Op.move (Operand.tmp 6), type := 68, pos := "ref.go:100", after := #[{ on := 7, ground := Ground.guard }], guard := some (7, true) }) (v := undef) rfl (by kernel_rfl) (by kernel_rfl) (by kernel_rfl) (fun _ _ _ h => h) (Or.inr ⟨by rfl, rfl⟩) (by assumption) ?_
        try simp only [Act.put, List.setIfInBounds_toArray, List.set_cons_zero, List.set_cons_succ]
        refine wpAnyH_take (i := 9) (oi := { dst := some 69, op := Op.move (Operand.tmp 6), type := 68, pos := "ref.go:100", after := #[{ on := 7, ground := Ground.guard }], guard := some (7, true) }) (v := undef) rfl (by kernel_rfl) (by kernel_rfl) (by kernel_rfl) (fun _ _ _ h => h) (Or.inr ⟨by rfl, rfl⟩) (by assumption) ?_
        try simp only [Act.put, List.setIfInBounds_toArray, List.set_cons_zero, List.set_cons_succ]
        refine wpAnyH_take (i := 10) (oi := { dst := some 70, op := Op.call { callee := Callee.builtin Builtin.len, args := #[Operand.tmp 69], argTypes := #[68] }, type := 3, pos := "ref.go:100", after := #[{ on := 9, ground := Ground.data }, { on := 7, ground := Ground.guard }], guard := some (7, true) }) (v := undef) rfl (by kernel_rfl) (by kernel_rfl) (by kernel_rfl) (fun _ _ _ h => h) (Or.inr ⟨by rfl, rfl⟩) (by assumption) ?_
        try simp only [Act.put, List.setIfInBounds_toArray, List.set_cons_zero, List.set_cons_succ]
        refine wpAnyH_take (i := 11) (oi := { dst := some 71, op := Op.binOp BinOp.sub 3 (Operand.tmp 70) (Operand.const (Value.int IntKind.i64 1)) 3, type := 3, pos := "ref.go:100", after := #[{ on := 10, ground := Ground.data }, { on := 7, ground := Ground.guard }], guard := some (7, true) }) (v := undef) rfl (by kernel_rfl) (by kernel_rfl) (by kernel_rfl) (fun _ _ _ h => h) (Or.inr ⟨by rfl, rfl⟩) (by assumption) ?_
        try simp only [Act.put, List.setIfInBounds_toArray, List.set_cons_zero, List.set_cons_succ]
        refine wpAnyH_take (i := 12) (oi := { dst := some 72, op := Op.indexAddr 68 (Operand.tmp 68) (Operand.tmp 71), type := 0, pos := "ref.go:100", after := #[{ on := 8, ground := Ground.data }, { on := 11, ground := Ground.data }, { on := 7, ground := Ground.guard }], guard := some (7, true) }) (v := undef) rfl (by kernel_rfl) (by kernel_rfl) (by kernel_rfl) (fun _ _ _ h => h) (Or.inr ⟨by rfl, rfl⟩) (by assumption) ?_
        try simp only [Act.put, List.setIfInBounds_toArray, List.set_cons_zero, List.set_cons_succ]
        refine wpAnyH_take (i := 13) (oi := { dst := some 73, op := Op.fieldAddr 74 (Operand.tmp 72) 0, type := 0, pos := "ref.go:100", after := #[{ on := 12, ground := Ground.data }, { on := 7, ground := Ground.guard }], guard := some (7, true) }) (v := undef) rfl (by kernel_rfl) (by kernel_rfl) (by kernel_rfl) (fun _ _ _ h => h) (Or.inr ⟨by rfl, rfl⟩) (by assumption) ?_
        try simp only [Act.put, List.setIfInBounds_toArray, List.set_cons_zero, List.set_cons_succ]
        refine wpAnyH_take (i := 14) (oi := { dst := some 74, op := Op.load 3 (Operand.tmp 73), type := 3, pos := "ref.go:100", after := #[{ on := 13, ground := Ground.data }, { on := 7, ground := Ground.guard }], guard := some (7, true) }) (v := undef) rfl (by kernel_rfl) (by kernel_rfl) (by kernel_rfl) (fun _ _ _ h => h) (Or.inr ⟨by rfl, rfl⟩) (by assumption) ?_
        try simp only [Act.put, List.setIfInBounds_toArray, List.set_cons_zero, List.set_cons_succ]
        refine wpAnyH_take (i := 15) (oi := { dst := some 75, op := Op.fieldAddr 74 (Operand.tmp 15) 0, type := 0, pos := "ref.go:100", after := #[{ on := 7, ground := Ground.guard }], guard := some (7, true) }) (v := undef) rfl (by kernel_rfl) (by kernel_rfl) (by kernel_rfl) (fun _ _ _ h => h) (Or.inr ⟨by rfl, rfl⟩) (by assumption) ?_
        try simp only [Act.put, List.setIfInBounds_toArray, List.set_cons_zero, List.set_cons_succ]
        refine wpAnyH_take (i := 16) (oi := { dst := some 76, op := Op.load 3 (Operand.tmp 75), type := 3, pos := "ref.go:100", after := #[{ on := 15, ground := Ground.data }, { on := 7, ground := Ground.guard }], guard := some (7, true) }) (v := undef) rfl (by kernel_rfl) (by kernel_rfl) (by kernel_rfl) (fun _ _ _ h => h) (Or.inr ⟨by rfl, rfl⟩) (by assumption) ?_
        try simp only [Act.put, List.setIfInBounds_toArray, List.set_cons_zero, List.set_cons_succ]
        refine wpAnyH_take (i := 17) (oi := { dst := some 77, op := Op.binOp BinOp.geq 3 (Operand.tmp 74) (Operand.tmp 76) 3, type := 4, pos := "ref.go:100", after := #[{ on := 14, ground := Ground.data }, { on := 16, ground := Ground.data }, { on := 7, ground := Ground.guard }], guard := some (7, true) }) (v := undef) rfl (by kernel_rfl) (by kernel_rfl) (by kernel_rfl) (fun _ _ _ h => h) (Or.inr ⟨by rfl, rfl⟩) (by assumption) ?_
        try simp only [Act.put, List.setIfInBounds_toArray, List.set_cons_zero, List.set_cons_succ]
        refine wpAnyH_take (i := 18) (oi := { dst := some 78, op := Op.pick (Operand.tmp 67) (Operand.tmp 77) (Operand.const (Value.bool false)), type := 4, pos := "ref.go:100", after := #[{ on := 7, ground := Ground.data }, { on := 17, ground := Ground.data }, { on := 3, ground := Ground.guard }], guard := some (3, false) }) (v := undef) rfl (by kernel_rfl) (by kernel_rfl) (by kernel_rfl) (fun _ _ _ h => h) (Or.inr ⟨by rfl, rfl⟩) (by assumption) ?_
        try simp only [Act.put, List.setIfInBounds_toArray, List.set_cons_zero, List.set_cons_succ]
        refine wpAnyH_take (i := 19) (oi := { dst := some 79, op := Op.pick (Operand.tmp 63) (Operand.const (Value.bool true)) (Operand.tmp 78), type := 4, pos := "ref.go:100", after := #[{ on := 3, ground := Ground.data }, { on := 18, ground := Ground.data }], guard := none }) (v := ?_) rfl (by kernel_rfl) (by kernel_rfl) (by kernel_rfl) (fun _ _ _ h => h) (Or.inl ⟨by rfl, ?_⟩) (by assumption) ?_
        rotate_left
        · (intro w hSw; (try dsimp only at hSw); go_simp; try with_reducible rfl)
        try simp only [Act.put, List.setIfInBounds_toArray, List.set_cons_zero, List.set_cons_succ]
        refine wpAnyH_done (by kernel_rfl) ?_ _
        refine NoPanic.normal ?_
        have HXz := Lib.hid (HKe.out.heap (fun h => h) HX7.out)
        obtain ⟨e0, e1, e2, e3, e4⟩ := cells5r (v := ⟨v0, v1, v2, v3, v4⟩) HXz.out
        simp only at e0 e1 e2 e3 e4
        have HKz := Lib.hid ((Kept.refl NoB z).alloc (.cells #[.int .i64 v0, .int .u64 v1, .int .u64 v2, .int .i64 v3, .int .u64 v4] 74))
        have HQz := Lib.hid ((HQ7.out.no HKe.out).no HKz.out)
        have HZ := Lib.hid (heap_alloc_new z (.cells #[.int .i64 v0, .int .u64 v1, .int .u64 v2, .int .i64 v3, .int .u64 v4] 74))
        have HKt := Lib.hid (HKe.out.trans HKz.out (fun _ _ h => h))
        have HKw := Lib.hid (HK7.out.trans HKt.out (fun _ _ h => h))
        have HSt := Lib.hid (show w.heap.size + 2 ≤ z.heap.size by have := HSr.out; have := HKY5.out.size; have := HKB.out.size; have := HK67.out.size; have := HKe.out.size; omega)
        have hMk : M.length ≤ 6 := by have := HML.out; omega
        go_wp2_with (at_builtin; refine wpList_append_qr _ rfl _ _ rfl (w.heap.size + 2) (.slice oa M.length oc) M rfl HQz.out z.heap.size ⟨v0, v1, v2, v3, v4⟩ rfl HZ.out (by first | omega | simp) (by have := HSt.out; have := HKz.out.size; omega) ?_; intro a' c' w' hown' hgrow' hat')
        have hkg : Kept (fun i => (Value.slice oa M.length oc).ownBlock = some i) (z.alloc (.cells #[.int .i64 v0, .int .u64 v1, .int .u64 v2, .int .i64 v3, .int .u64 v4] 74)) w' := (Kept.refl _ _).grown hgrow' (fun i hi => .inl hi)
        have hng : ∀ i, i < w.heap.size + 2 → ¬ (Value.slice oa M.length oc).ownBlock = some i := fun i hi h => by have := (HQz.out.base i h).1; omega
        refine ⟨⟨k + 1, b5, n5, q5, by omega, by go_num, by rw [HG1.out, HGR.out, goodB_snoc, ← HBF.out]; simp, ?_, ?_, ?_, ?_, ?_⟩, by simp [RowKit.intOf]; omega⟩
        · rw [HG1.out, HGR.out]
          exact RAt.kept (((HI6.out.no HK67.out).no HKt.out)) hkg (fun i hi => hng i (by have := HF.out i hi; omega))
        · rw [HG1.out, HGR.out]
          exact hkg.heap (hng _ (by omega)) (HKt.out.heap (fun h => h) (HK67.out.heap (fun h => h) HB16.out))
        · exact hkg.heap (hng _ (by omega)) (HKt.out.heap (fun h => h) (HK67.out.heap (fun h => h) HB26.out))
        · rw [HG1.out, HGR.out]
          exact hown'
        · exact HKw.out.trans hkg (fun i hi h => absurd h (hng i (by omega)))
      · by_cases hM0 : M = []
        · subst hM0
          rw [show ([] : List Rw).length = 0 from rfl] at HQ7 ⊢
          have HTEN : Hid (∀ w', Kept NoB y7 w' → w'.cell? ⟨y6.heap.size, 0, none⟩ = some (.int .i64 v0) ∧ w'.cell? ⟨y6.heap.size, 1, none⟩ = some (.int .u64 v1) ∧ w'.cell? ⟨y6.heap.size, 2, none⟩ = some (.int .u64 v2) ∧ w'.cell? ⟨y6.heap.size, 3, none⟩ = some (.int .i64 v3) ∧ w'.cell? ⟨y6.heap.size, 4, none⟩ = some (.int .u64 v4)) := Lib.hid (fun w' hk => ⟨cell_of_row _ _ 0 _ _ _ (hk.heap (fun h => h) HX7.out), cell_of_row _ _ 1 _ _ _ (hk.heap (fun h => h) HX7.out), cell_of_row _ _ 2 _ _ _ (hk.heap (fun h => h) HX7.out), cell_of_row _ _ 3 _ _ _ (hk.heap (fun h => h) HX7.out), cell_of_row _ _ 4 _ _ _ (hk.heap (fun h => h) HX7.out)⟩)
          have HKe := Lib.hid (Kept.refl NoB y7).drew
          have HT := Lib.hid (HTEN.out _ HKe.out)
          refine wp_region_noPanic ?_
          refine wp_region_held_drew (S := (fun w' => w'.cell? ⟨y6.heap.size, 0, none⟩ = some (.int .i64 v0) ∧ w'.cell? ⟨y6.heap.size, 1, none⟩ = some (.int .u64 v1) ∧ w'.cell? ⟨y6.heap.size, 2, none⟩ = some (.int .u64 v2) ∧ w'.cell? ⟨y6.heap.size, 3, none⟩ = some (.int .i64 v3) ∧ w'.cell? ⟨y6.heap.size, 4, none⟩ = some (.int .u64 v4))) (by kernel_rfl) ?_ (fun hHeld => ?_)
          · (try dsimp only); with_reducible exact HT.out
          refine wpAnyH_take (i := 0) (oi := { dst := some 60, op := Op.load 74 (Operand.tmp 15), type := 74, pos := "ref.go:100", after := #[], guard := none }) (v := ?_) rfl (by kernel_rfl) (by kernel_rfl) (by kernel_rfl) (fun _ _ _ h => h) (Or.inl ⟨by rfl, ?_⟩) (by assumption) ?_
          rotate_left
          · (intro w hSw; (try dsimp only at hSw); go_simp; try with_reducible rfl)
          try simp only [Act.put, List.setIfInBounds_toArray, List.set_cons_zero, List.set_cons_succ]
          refine wpAnyH_ready (rs := [1]) (by kernel_rfl) (by simp) ?_
          refine AllReadyH.cons (o := { dst := some 61, op := Op.call { callee := Callee.value (Operand.func 50), args := #[Operand.tmp 60], argTypes := #[74] }, type := 4, pos := "ref.go:100", after := #[{ on := 0, ground := Ground.data }], guard := none }) rfl (fun K hK => ?_) AllReadyH.nil
          go_simp
          (with_reducible refine (HFI.out _).mono ?_)
          rintro e z ⟨rfl, hkz⟩
          replace HKe := Lib.hid (HKe.out.trans hkz (fun _ _ h => h))
          clear hkz
          replace HT := Lib.hid (HTEN.out _ HKe.out)
          first | (with_reducible refine hK.out _ _ ?_ (fun hHeld => ?_)) | (go_wp2_with fail; with_reducible refine hK.out _ _ ?_ (fun hHeld => ?_))
          · (try dsimp only); with_reducible exact HT.out
          clear hK K
          try simp only [Act.put, List.setIfInBounds_toArray, List.set_cons_zero, List.set_cons_succ]
          refine wpAnyH_take (i := 2) (oi := { dst := some 62, op := Op.unOp UnOp.not 4 (Operand.tmp 61), type := 4, pos := "ref.go:100", after := #[{ on := 1, ground := Ground.data }], guard := none }) (v := ?_) rfl (by kernel_rfl) (by kernel_rfl) (by kernel_rfl) (fun _ _ _ h => h) (Or.inl ⟨by rfl, ?_⟩) (by assumption) ?_
          rotate_left
          · (intro w hSw; (try dsimp only at hSw); go_simp; try with_reducible rfl)
          try simp only [Act.put, List.setIfInBounds_toArray, List.set_cons_zero, List.set_cons_succ]
          refine wpAnyH_take (i := 3) (oi := { dst := some 63, op := Op.move (Operand.tmp 62), type := 4, pos := "ref.go:100", after := #[{ on := 2, ground := Ground.data }, { on := 1, ground := Ground.chain }], guard := none }) (v := ?_) rfl (by kernel_rfl) (by kernel_rfl) (by kernel_rfl) (fun _ _ _ h => h) (Or.inl ⟨by rfl, ?_⟩) (by assumption) ?_
          rotate_left
          · (intro w hSw; (try dsimp only at hSw); go_simp; try with_reducible rfl)
          try simp only [Act.put, List.setIfInBounds_toArray, List.set_cons_zero, List.set_cons_succ]
          refine wpAnyH_take (i := 4) (oi := { dst := some 64, op := Op.move (Operand.tmp 6), type := 68, pos := "ref.go:100", after := #[{ on := 3, ground := Ground.guard }], guard := some (3, false) }) (v := ?_) rfl (by kernel_rfl) (by kernel_rfl) (by kernel_rfl) (fun _ _ _ h => h) (Or.inl ⟨by rfl, ?_⟩) (by assumption) ?_
          rotate_left
          · (intro w hSw; (try dsimp only at hSw); go_simp; try with_reducible rfl)
          try simp only [Act.put, List.setIfInBounds_toArray, List.set_cons_zero, List.set_cons_succ]
          refine wpAnyH_take (i := 5) (oi := { dst := some 65, op := Op.call { callee := Callee.builtin Builtin.len, args := #[Operand.tmp 64], argTypes := #[68] }, type := 3, pos := "ref.go:100", after := #[{ on := 4, ground := Ground.data }, { on := 3, ground := Ground.guard }], guard := some (3, false) }) (v := ?_) rfl (by kernel_rfl) (by kernel_rfl) (by kernel_rfl) (fun _ _ _ h => h) (Or.inl ⟨by rfl, ?_⟩) (by assumption) ?_
          rotate_left
          · (intro w hSw; (try dsimp only at hSw); go_simp; try with_reducible rfl)
          try simp only [Act.put, List.setIfInBounds_toArray, List.set_cons_zero, List.set_cons_succ]
          refine wpAnyH_take (i := 6) (oi := { dst := some 66, op := Op.binOp BinOp.gtr 3 (Operand.tmp 65) (Operand.const (Value.int IntKind.i64 0)) 3, type := 4, pos := "ref.go:100", after := #[{ on := 5, ground := Ground.data }, { on := 3, ground := Ground.guard }], guard := some (3, false) }) (v := ?_) rfl (by kernel_rfl) (by kernel_rfl) (by kernel_rfl) (fun _ _ _ h => h) (Or.inl ⟨by rfl, ?_⟩) (by assumption) ?_
          rotate_left
          · (intro w hSw; (try dsimp only at hSw); go_simp; try with_reducible rfl)
          try simp only [Act.put, List.setIfInBounds_toArray, List.set_cons_zero, List.set_cons_succ]
          refine wpAnyH_take (i := 7) (oi := { dst := some 67, op := Op.move (Operand.tmp 66), type := 4, pos := "ref.go:100", after := #[{ on := 6, ground := Ground.data }, { on := 3, ground := Ground.chain }, { on := 3, ground := Ground.guard }], guard := some (3, false) }) (v := ?_) rfl (by kernel_rfl) (by kernel_rfl) (by kernel_rfl) (fun _ _ _ h => h) (Or.inl ⟨by rfl, ?_⟩) (by assumption) ?_
          rotate_left
          · (intro w hSw; (try dsimp only at hSw); go_simp; try with_reducible rfl)
          try simp only [Act.put, List.setIfInBounds_toArray, List.set_cons_zero, List.set_cons_succ]
          refine wpAnyH_take (i := 8) (oi := { dst := some 68, op := Op.move (Operand.tmp 6), type := 68, pos := "ref.go:100", after := #[{ on := 7, ground := Ground.guard }], guard := some (7, true) }) (v := undef) rfl (by kernel_rfl) (by kernel_rfl) (by kernel_rfl) (fun _ _ _ h => h) (Or.inr ⟨by rfl, rfl⟩) (by assumption) ?_
          try simp only [Act.put, List.setIfInBounds_toArray, List.set_cons_zero, List.set_cons_succ]
          refine wpAnyH_take (i := 9) (oi := { dst := some 69, op := Op.move (Operand.tmp 6), type := 68, pos := "ref.go:100", after := #[{ on := 7, ground := Ground.guard }], guard := some (7, true) }) (v := undef) rfl (by kernel_rfl) (by kernel_rfl) (by kernel_rfl) (fun _ _ _ h => h) (Or.inr ⟨by rfl, rfl⟩) (by assumption) ?_
          try simp only [Act.put, List.setIfInBounds_toArray, List.set_cons_zero, List.set_cons_succ]
          refine wpAnyH_take (i := 10) (oi := { dst := some 70, op := Op.call { callee := Callee.builtin Builtin.len, args := #[Operand.tmp 69], argTypes := #[68] }, type := 3, pos := "ref.go:100", after := #[{ on := 9, ground := Ground.data }, { on := 7, ground := Ground.guard }], guard := some (7, true) }) (v := undef) rfl (by kernel_rfl) (by kernel_rfl) (by kernel_rfl) (fun _ _ _ h => h) (Or.inr ⟨by rfl, rfl⟩) (by assumption) ?_
          try simp only [Act.put, List.setIfInBounds_toArray, List.set_cons_zero, List.set_cons_succ]
          refine wpAnyH_take (i := 11) (oi := { dst := some 71, op := Op.binOp BinOp.sub 3 (Operand.tmp 70) (Operand.const (Value.int IntKind.i64 1)) 3, type := 3, pos := "ref.go:100", after := #[{ on := 10, ground := Ground.data }, { on := 7, ground := Ground.guard }], guard := some (7, true) }) (v := undef) rfl (by kernel_rfl) (by kernel_rfl) (by kernel_rfl) (fun _ _ _ h => h) (Or.inr ⟨by rfl, rfl⟩) (by assumption) ?_
          try simp only [Act.put, List.setIfInBounds_toArray, List.set_cons_zero, List.set_cons_succ]
          refine wpAnyH_take (i := 12) (oi := { dst := some 72, op := Op.indexAddr 68 (Operand.tmp 68) (Operand.tmp 71), type := 0, pos := "ref.go:100", after := #[{ on := 8, ground := Ground.data }, { on := 11, ground := Ground.data }, { on := 7, ground := Ground.guard }], guard := some (7, true) }) (v := undef) rfl (by kernel_rfl) (by kernel_rfl) (by kernel_rfl) (fun _ _ _ h => h) (Or.inr ⟨by rfl, rfl⟩) (by assumption) ?_
          try simp only [Act.put, List.setIfInBounds_toArray, List.set_cons_zero, List.set_cons_succ]
          refine wpAnyH_take (i := 13) (oi := { dst := some 73, op := Op.fieldAddr 74 (Operand.tmp 72) 0, type := 0, pos := "ref.go:100", after := #[{ on := 12, ground := Ground.data }, { on := 7, ground := Ground.guard }], guard := some (7, true) }) (v := undef) rfl (by kernel_rfl) (by kernel_rfl) (by kernel_rfl) (fun _ _ _ h => h) (Or.inr ⟨by rfl, rfl⟩) (by assumption) ?_
          try simp only [Act.put, List.setIfInBounds_toArray, List.set_cons_zero, List.set_cons_succ]
          refine wpAnyH_take (i := 14) (oi := { dst := some 74, op := Op.load 3 (Operand.tmp 73), type := 3, pos := "ref.go:100", after := #[{ on := 13, ground := Ground.data }, { on := 7, ground := Ground.guard }], guard := some (7, true) }) (v := undef) rfl (by kernel_rfl) (by kernel_rfl) (by kernel_rfl) (fun _ _ _ h => h) (Or.inr ⟨by rfl, rfl⟩) (by assumption) ?_
          try simp only [Act.put, List.setIfInBounds_toArray, List.set_cons_zero, List.set_cons_succ]
          refine wpAnyH_take (i := 15) (oi := { dst := some 75, op := Op.fieldAddr 74 (Operand.tmp 15) 0, type := 0, pos := "ref.go:100", after := #[{ on := 7, ground := Ground.guard }], guard := some (7, true) }) (v := undef) rfl (by kernel_rfl) (by kernel_rfl) (by kernel_rfl) (fun _ _ _ h => h) (Or.inr ⟨by rfl, rfl⟩) (by assumption) ?_
          try simp only [Act.put, List.setIfInBounds_toArray, List.set_cons_zero, List.set_cons_succ]
          refine wpAnyH_take (i := 16) (oi := { dst := some 76, op := Op.load 3 (Operand.tmp 75), type := 3, pos := "ref.go:100", after := #[{ on := 15, ground := Ground.data }, { on := 7, ground := Ground.guard }], guard := some (7, true) }) (v := undef) rfl (by kernel_rfl) (by kernel_rfl) (by kernel_rfl) (fun _ _ _ h => h) (Or.inr ⟨by rfl, rfl⟩) (by assumption) ?_
          try simp only [Act.put, List.setIfInBounds_toArray, List.set_cons_zero, List.set_cons_succ]
          refine wpAnyH_take (i := 17) (oi := { dst := some 77, op := Op.binOp BinOp.geq 3 (Operand.tmp 74) (Operand.tmp 76) 3, type := 4, pos := "ref.go:100", after := #[{ on := 14, ground := Ground.data }, { on := 16, ground := Ground.data }, { on := 7, ground := Ground.guard }], guard := some (7, true) }) (v := undef) rfl (by kernel_rfl) (by kernel_rfl) (by kernel_rfl) (fun _ _ _ h => h) (Or.inr ⟨by rfl, rfl⟩) (by assumption) ?_
          try simp only [Act.put, List.setIfInBounds_toArray, List.set_cons_zero, List.set_cons_succ]
          refine wpAnyH_take (i := 18) (oi := { dst := some 78, op := Op.pick (Operand.tmp 67) (Operand.tmp 77) (Operand.const (Value.bool false)), type := 4, pos := "ref.go:100", after := #[{ on := 7, ground := Ground.data }, { on := 17, ground := Ground.data }, { on := 3, ground := Ground.guard }], guard := some (3, false) }) (v := ?_) rfl (by kernel_rfl) (by kernel_rfl) (by kernel_rfl) (fun _ _ _ h => h) (Or.inl ⟨by rfl, ?_⟩) (by assumption) ?_
          rotate_left
          · (intro w hSw; (try dsimp only at hSw); go_simp; try with_reducible rfl)
          try simp only [Act.put, List.setIfInBounds_toArray, List.set_cons_zero, List.set_cons_succ]
          refine wpAnyH_take (i := 19) (oi := { dst := some 79, op := Op.pick (Operand.tmp 63) (Operand.const (Value.bool true)) (Operand.tmp 78), type := 4, pos := "ref.go:100", after := #[{ on := 3, ground := Ground.data }, { on := 18, ground := Ground.data }], guard := none }) (v := ?_) rfl (by kernel_rfl) (by kernel_rfl) (by kernel_rfl) (fun _ _ _ h => h) (Or.inl ⟨by rfl, ?_⟩) (by assumption) ?_
          rotate_left
          · (intro w hSw; (try dsimp only at hSw); go_simp; try with_reducible rfl)
          try simp only [Act.put, List.setIfInBounds_toArray, List.set_cons_zero, List.set_cons_succ]
          refine wpAnyH_done (by kernel_rfl) ?_ _
          refine NoPanic.normal ?_
          have HXz := Lib.hid (HKe.out.heap (fun h => h) HX7.out)
          obtain ⟨e0, e1, e2, e3, e4⟩ := cells5r (v := ⟨v0, v1, v2, v3, v4⟩) HXz.out
          simp only at e0 e1 e2 e3 e4
          have HKz := Lib.hid ((Kept.refl NoB z).alloc (.cells #[.int .i64 v0, .int .u64 v1, .int .u64 v2, .int .i64 v3, .int .u64 v4] 74))
          have HQz := Lib.hid ((HQ7.out.no HKe.out).no HKz.out)
          have HZ := Lib.hid (heap_alloc_new z (.cells #[.int .i64 v0, .int .u64 v1, .int .u64 v2, .int .i64 v3, .int .u64 v4] 74))
          have HKt := Lib.hid (HKe.out.trans HKz.out (fun _ _ h => h))
          have HKw := Lib.hid (HK7.out.trans HKt.out (fun _ _ h => h))
          have HSt := Lib.hid (show w.heap.size + 2 ≤ z.heap.size by have := HSr.out; have := HKY5.out.size; have := HKB.out.size; have := HK67.out.size; have := HKe.out.size; omega)
          have hMk : 0 ≤ 6 := by have := HML.out; omega
          go_wp2_with (at_builtin; refine wpList_append_qr _ rfl _ _ rfl (w.heap.size + 2) (.slice oa 0 oc) ([] : List Rw) rfl HQz.out z.heap.size ⟨v0, v1, v2, v3, v4⟩ rfl HZ.out (by first | omega | simp) (by have := HSt.out; have := HKz.out.size; omega) ?_; intro a' c' w' hown' hgrow' hat')
          have hkg : Kept (fun i => (Value.slice oa 0 oc).ownBlock = some i) (z.alloc (.cells #[.int .i64 v0, .int .u64 v1, .int .u64 v2, .int .i64 v3, .int .u64 v4] 74)) w' := (Kept.refl _ _).grown hgrow' (fun i hi => .inl hi)
          have hng : ∀ i, i < w.heap.size + 2 → ¬ (Value.slice oa 0 oc).ownBlock = some i := fun i hi h => by have := (HQz.out.base i h).1; omega
          refine ⟨⟨k + 1, b5, n5, q5, by omega, by go_num, by rw [HG1.out, HGR.out, goodB_snoc, ← HBF.out]; simp, ?_, ?_, ?_, ?_, ?_⟩, by simp [RowKit.intOf]; omega⟩
          · rw [HG1.out, HGR.out]
            exact RAt.kept (((HI6.out.no HK67.out).no HKt.out)) hkg (fun i hi => hng i (by have := HF.out i hi; omega))
          · rw [HG1.out, HGR.out]
            exact hkg.heap (hng _ (by omega)) (HKt.out.heap (fun h => h) (HK67.out.heap (fun h => h) HB16.out))
          · exact hkg.heap (hng _ (by omega)) (HKt.out.heap (fun h => h) (HK67.out.heap (fun h => h) HB26.out))
          · rw [HG1.out, HGR.out]
            exact hown'
          · exact HKw.out.trans hkg (fun i hi h => absurd h (hng i (by omega)))
        · have hMp : 0 < M.length := List.length_pos_iff.2 hM0
          obtain ⟨ob, hob, hqc⟩ := HQ7.out.last16 hM0
          obtain ⟨ls, hls⟩ : ∃ l, l = lastS M := ⟨_, rfl⟩
          rw [← hls] at hqc
          have HLS := Lib.hid hls
          subst hob
          have hMs : (0 : Int) < (M.length : Int) := by omega
          have hM6 : (M.length : Int) ≤ 6 := by have := HML.out; omega
          have hwm : IntKind.i64.wrap ((M.length : Int) - 1) = (M.length : Int) - 1 := IntWalk.i64_in _ (by omega)
          have hwm0 : (0 : Int) ≤ (M.length : Int) - 1 := by omega
          have hwm1 : (M.length : Int) - 1 < (M.length : Int) := by omega
          have hwmt : ((M.length : Int) - 1).toNat = M.length - 1 := by omega
          have hM1 : (1 : Int) ≤ (M.length : Int) := by omega
          have HM0 := Lib.hid hM0
          have HTEN : Hid (∀ w', Kept NoB y7 w' → w'.cell? ⟨y6.heap.size, 0, none⟩ = some (.int .i64 v0) ∧ w'.cell? ⟨y6.heap.size, 1, none⟩ = some (.int .u64 v1) ∧ w'.cell? ⟨y6.heap.size, 2, none⟩ = some (.int .u64 v2) ∧ w'.cell? ⟨y6.heap.size, 3, none⟩ = some (.int .i64 v3) ∧ w'.cell? ⟨y6.heap.size, 4, none⟩ = some (.int .u64 v4) ∧ w'.cell? ⟨ob, (M.length - 1) * 5, none⟩ = some (.int .i64 ls)) := Lib.hid (fun w' hk => ⟨cell_of_row _ _ 0 _ _ _ (hk.heap (fun h => h) HX7.out), cell_of_row _ _ 1 _ _ _ (hk.heap (fun h => h) HX7.out), cell_of_row _ _ 2 _ _ _ (hk.heap (fun h => h) HX7.out), cell_of_row _ _ 3 _ _ _ (hk.heap (fun h => h) HX7.out), cell_of_row _ _ 4 _ _ _ (hk.heap (fun h => h) HX7.out), hk.cell (p := ⟨ob, (M.length - 1) * 5, none⟩) (fun h => h) hqc⟩)
          clear hls hqc hM0
          by_cases hge : v0 ≤ ls
          · have hgb : decide (v0 ≤ ls) = true := decide_eq_true hge
            have HGE := Lib.hid hge
            clear hge
            have HKe := Lib.hid (Kept.refl NoB y7).drew
            have HT := Lib.hid (HTEN.out _ HKe.out)
            go_region_held3 (fun w' => w'.cell? ⟨y6.heap.size, 0, none⟩ = some (.int .i64 v0) ∧ w'.cell? ⟨y6.heap.size, 1, none⟩ = some (.int .u64 v1) ∧ w'.cell? ⟨y6.heap.size, 2, none⟩ = some (.int .u64 v2) ∧ w'.cell? ⟨y6.heap.size, 3, none⟩ = some (.int .i64 v3) ∧ w'.cell? ⟨y6.heap.size, 4, none⟩ = some (.int .u64 v4) ∧ w'.cell? ⟨ob, (M.length - 1) * 5, none⟩ = some (.int .i64 ls))
              (with_reducible exact HT.out)
              ((go_at_call 50; (with_reducible refine (HFI.out _).mono ?_); rintro e z ⟨rfl, hkz⟩; replace HKe := Lib.hid (HKe.out.trans hkz (fun _ _ h => h)); replace HT := Lib.hid (HTEN.out _ HKe.out); clear hkz))
            have HXz := Lib.hid (HKe.out.heap (fun h => h) HX7.out)
            obtain ⟨e0, e1, e2, e3, e4⟩ := cells5r (v := ⟨v0, v1, v2, v3, v4⟩) HXz.out
            simp only at e0 e1 e2 e3 e4
            have HKz := Lib.hid ((Kept.refl NoB z).alloc (.cells #[.int .i64 v0, .int .u64 v1, .int .u64 v2, .int .i64 v3, .int .u64 v4] 74))
            have HQz := Lib.hid ((HQ7.out.no HKe.out).no HKz.out)
            have HZ := Lib.hid (heap_alloc_new z (.cells #[.int .i64 v0, .int .u64 v1, .int .u64 v2, .int .i64 v3, .int .u64 v4] 74))
            have HKt := Lib.hid (HKe.out.trans HKz.out (fun _ _ h => h))
            have HKw := Lib.hid (HK7.out.trans HKt.out (fun _ _ h => h))
            have HSt := Lib.hid (show w.heap.size + 2 ≤ z.heap.size by have := HSr.out; have := HKY5.out.size; have := HKB.out.size; have := HK67.out.size; have := HKe.out.size; omega)
            have hMk : M.length ≤ 6 := by have := HML.out; omega
            go_wp2_with (at_builtin; refine wpList_append_qr _ rfl _ _ rfl (w.heap.size + 2) (.slice (some ⟨ob, 0, none⟩) M.length oc) M rfl HQz.out z.heap.size ⟨v0, v1, v2, v3, v4⟩ rfl HZ.out (by first | omega | simp) (by have := HSt.out; have := HKz.out.size; omega) ?_; intro a' c' w' hown' hgrow' hat')
            have hkg : Kept (fun i => (Value.slice (some ⟨ob, 0, none⟩) M.length oc).ownBlock = some i) (z.alloc (.cells #[.int .i64 v0, .int .u64 v1, .int .u64 v2, .int .i64 v3, .int .u64 v4] 74)) w' := (Kept.refl _ _).grown hgrow' (fun i hi => .inl hi)
            have hng : ∀ i, i < w.heap.size + 2 → ¬ (Value.slice (some ⟨ob, 0, none⟩) M.length oc).ownBlock = some i := fun i hi h => by have := (HQz.out.base i h).1; omega
            refine ⟨⟨k + 1, b5, n5, q5, by omega, by go_num, by rw [HG1.out, HGR.out, goodB_snoc, ← HBF.out, ← HLS.out, decide_eq_false (fun h => by rcases h with h | h; exact HM0.out h; have h' : ls < v0 := h; have := HGE.out; omega)]; simp, ?_, ?_, ?_, ?_, ?_⟩, by simp [RowKit.intOf]; omega⟩
            · rw [HG1.out, HGR.out]
              exact RAt.kept (((HI6.out.no HK67.out).no HKt.out)) hkg (fun i hi => hng i (by have := HF.out i hi; omega))
            · rw [HG1.out, HGR.out]
              exact hkg.heap (hng _ (by omega)) (HKt.out.heap (fun h => h) (HK67.out.heap (fun h => h) HB16.out))
            · exact hkg.heap (hng _ (by omega)) (HKt.out.heap (fun h => h) (HK67.out.heap (fun h => h) HB26.out))
            · rw [HG1.out, HGR.out]
              exact hown'
            · exact HKw.out.trans hkg (fun i hi h => absurd h (hng i (by omega)))
          · have hgb : decide (v0 ≤ ls) = false := decide_eq_false hge
            have HGE := Lib.hid hge
            clear hge
            have HKe := Lib.hid (Kept.refl NoB y7).drew
            have HT := Lib.hid (HTEN.out _ HKe.out)
            go_region_held3 (fun w' => w'.cell? ⟨y6.heap.size, 0, none⟩ = some (.int .i64 v0) ∧ w'.cell? ⟨y6.heap.size, 1, none⟩ = some (.int .u64 v1) ∧ w'.cell? ⟨y6.heap.size, 2, none⟩ = some (.int .u64 v2) ∧ w'.cell? ⟨y6.heap.size, 3, none⟩ = some (.int .i64 v3) ∧ w'.cell? ⟨y6.heap.size, 4, none⟩ = some (.int .u64 v4) ∧ w'.cell? ⟨ob, (M.length - 1) * 5, none⟩ = some (.int .i64 ls))
              (with_reducible exact HT.out)
              ((go_at_call 50; (with_reducible refine (HFI.out _).mono ?_); rintro e z ⟨rfl, hkz⟩; replace HKe := Lib.hid (HKe.out.trans hkz (fun _ _ h => h)); replace HT := Lib.hid (HTEN.out _ HKe.out); clear hkz))
            have HXz := Lib.hid (HKe.out.heap (fun h => h) HX7.out)
            obtain ⟨e0, e1, e2, e3, e4⟩ := cells5r (v := ⟨v0, v1, v2, v3, v4⟩) HXz.out
            simp only at e0 e1 e2 e3 e4
            have HKz := Lib.hid ((Kept.refl NoB z).alloc (.cells #[.int .i64 v0, .int .u64 v1, .int .u64 v2, .int .i64 v3, .int .u64 v4] 74))
            have HQz := Lib.hid ((HQ7.out.no HKe.out).no HKz.out)
            have HZ := Lib.hid (heap_alloc_new z (.cells #[.int .i64 v0, .int .u64 v1, .int .u64 v2, .int .i64 v3, .int .u64 v4] 74))
            have HKt := Lib.hid (HKe.out.trans HKz.out (fun _ _ h => h))
            have HKw := Lib.hid (HK7.out.trans HKt.out (fun _ _ h => h))
            have HSt := Lib.hid (show w.heap.size + 2 ≤ z.heap.size by have := HSr.out; have := HKY5.out.size; have := HKB.out.size; have := HK67.out.size; have := HKe.out.size; omega)
            have hMk : M.length ≤ 6 := by have := HML.out; omega
            go_wp2_with (at_builtin; refine wpList_append_qr _ rfl _ _ rfl (w.heap.size + 2) (.slice (some ⟨ob, 0, none⟩) M.length oc) M rfl HQz.out z.heap.size ⟨v0, v1, v2, v3, v4⟩ rfl HZ.out (by first | omega | simp) (by have := HSt.out; have := HKz.out.size; omega) ?_; intro a' c' w' hown' hgrow' hat')
            have hkg : Kept (fun i => (Value.slice (some ⟨ob, 0, none⟩) M.length oc).ownBlock = some i) (z.alloc (.cells #[.int .i64 v0, .int .u64 v1, .int .u64 v2, .int .i64 v3, .int .u64 v4] 74)) w' := (Kept.refl _ _).grown hgrow' (fun i hi => .inl hi)
            have hng : ∀ i, i < w.heap.size + 2 → ¬ (Value.slice (some ⟨ob, 0, none⟩) M.length oc).ownBlock = some i := fun i hi h => by have := (HQz.out.base i h).1; omega
            refine ⟨⟨k + 1, b5, n5, q5, by omega, by go_num, by rw [HG1.out, HGR.out, goodB_snoc, ← HBF.out, ← HLS.out, decide_eq_true (Or.inr (show ls < v0 by have := HGE.out; omega))]; simp, ?_, ?_, ?_, ?_, ?_⟩, by simp [RowKit.intOf]; omega⟩
            · rw [HG1.out, HGR.out]
              exact RAt.kept (((HI6.out.no HK67.out).no HKt.out)) hkg (fun i hi => hng i (by have := HF.out i hi; omega))
            · rw [HG1.out, HGR.out]
              exact hkg.heap (hng _ (by omega)) (HKt.out.heap (fun h => h) (HK67.out.heap (fun h => h) HB16.out))
            · exact hkg.heap (hng _ (by omega)) (HKt.out.heap (fun h => h) (HK67.out.heap (fun h => h) HB26.out))
            · rw [HG1.out, HGR.out]
              exact hown'
            · exact HKw.out.trans hkg (fun i hi h => absurd h (hng i (by omega)))
    · obtain rfl : k = N := by omega
      obtain ⟨M, hM⟩ : ∃ M, M = (getRows k s1).2 := ⟨_, rfl⟩
      obtain ⟨t5, ht5⟩ : ∃ t, t = (getRows k s1).1 := ⟨_, rfl⟩
      rw [← hM] at HQ HRS ⊢
      rw [← ht5] at HRS HIN HB1r d1
      obtain ⟨oa, oc, rfl⟩ := HQ.out.form
      obtain ⟨l5, er⟩ := t5
      simp only at HRS HIN HB1r d1
      obtain ⟨z0, z1⟩ := cells2i HB2r.out
      have hz2 := blkR_frozen HB2r.out
      have hne1 : ¬ w.heap.size = w.heap.size + 1 := by omega
      have hne2 : ¬ w.heap.size + 1 = w.heap.size := by omega
      obtain ⟨gb, hgb⟩ : ∃ b, b = goodB M := ⟨_, rfl⟩
      rw [← hgb] at HRS ⊢
      clear hM ht5 hgb
      by_cases he : er = 0
      · subst he
        have hz00 : ((0 : Int) != 0) = false := by decide
        cases gb
        · have HFIN : Hid (readS s = (⟨l5, 0⟩, [], 4)) := Lib.hid (by rw [HRS.out, if_neg (by simp), if_neg (by simp)])
          go_wp2
          have hkS : Kept (fun i => i = w.heap.size + 1) wr ((wr.setCell ⟨w.heap.size + 1, 0, none⟩ (.slice a m c)).setCell ⟨w.heap.size + 1, 1, none⟩ (.int .i64 0)) := ((Kept.refl (fun i => i = w.heap.size + 1) _).setCell (p := ⟨w.heap.size + 1, 0, none⟩) (.inl (by show w.heap.size + 1 = _; rfl)) _).setCell (p := ⟨w.heap.size + 1, 1, none⟩) (.inl (by show w.heap.size + 1 = _; rfl)) _
          have hfin := blkI_two HB2r.out (.slice a m c) (.int .i64 0)
          clear d0 d1 z0 z1
          obtain ⟨z0, z1⟩ := cells2i hfin
          have hrd : RwRd ((wr.setCell ⟨w.heap.size + 1, 0, none⟩ (.slice a m c)).setCell ⟨w.heap.size + 1, 1, none⟩ (.int .i64 0)) (fun i => w.heap.size ≤ i) (.slice none 0 0) (readS s).2.1 := by
            rw [HFIN.out]
            exact RwRd.nil _ _
          have hri : RIn ((wr.setCell ⟨w.heap.size + 1, 0, none⟩ (.slice a m c)).setCell ⟨w.heap.size + 1, 1, none⟩ (.int .i64 0)) F a m c (readS s).1 := by
            rw [HFIN.out]
            exact RAt.kept HIN.out hkS (fun i hi h => by have := HF.out i hi; omega)
          have hkk := HKr.out.trans hkS (fun i hi h => by omega)
          generalize hW3 : World.setCell _ _ _ = W3 at z0 z1 hrd hri hkk ⊢
          exact bodyPost_ret (v := .tuple #[.agg #[.slice a m c, .int .i64 0], .slice none 0 0, .int .i64 4]) (by simp [results, Try.results59, go_sem, z0, z1]) rfl ⟨a, m, c, _, by rw [HFIN.out], hri, hrd, hkk⟩
        · have HFIN : Hid (readS s = (⟨l5, 0⟩, M, 0)) := Lib.hid (by rw [HRS.out, if_neg (by simp), if_pos rfl])
          go_wp2
          have hkS : Kept (fun i => i = w.heap.size + 1) wr ((wr.setCell ⟨w.heap.size + 1, 0, none⟩ (.slice a m c)).setCell ⟨w.heap.size + 1, 1, none⟩ (.int .i64 0)) := ((Kept.refl (fun i => i = w.heap.size + 1) _).setCell (p := ⟨w.heap.size + 1, 0, none⟩) (.inl (by show w.heap.size + 1 = _; rfl)) _).setCell (p := ⟨w.heap.size + 1, 1, none⟩) (.inl (by show w.heap.size + 1 = _; rfl)) _
          have hfin := blkI_two HB2r.out (.slice a m c) (.int .i64 0)
          clear d0 d1 z0 z1
          obtain ⟨z0, z1⟩ := cells2i hfin
          have hrd : RwRd ((wr.setCell ⟨w.heap.size + 1, 0, none⟩ (.slice a m c)).setCell ⟨w.heap.size + 1, 1, none⟩ (.int .i64 0)) (fun i => w.heap.size ≤ i) (.slice oa M.length oc) (readS s).2.1 := by
            rw [HFIN.out]
            exact (HQ.out.kept hkS (fun i hi h => by have := (HQ.out.base i hi).1; omega)).rd (fun i hi => by have := (HQ.out.base i hi).1; omega)
          have hri : RIn ((wr.setCell ⟨w.heap.size + 1, 0, none⟩ (.slice a m c)).setCell ⟨w.heap.size + 1, 1, none⟩ (.int .i64 0)) F a m c (readS s).1 := by
            rw [HFIN.out]
            exact RAt.kept HIN.out hkS (fun i hi h => by have := HF.out i hi; omega)
          have hkk := HKr.out.trans hkS (fun i hi h => by omega)
          generalize hW3 : World.setCell _ _ _ = W3 at z0 z1 hrd hri hkk ⊢
          exact bodyPost_ret (v := .tuple #[.agg #[.slice a m c, .int .i64 0], .slice oa M.length oc, .int .i64 0]) (by simp [results, Try.results59, go_sem, z0, z1]) rfl ⟨a, m, c, _, by rw [HFIN.out], hri, hrd, hkk⟩
      · have heb : (er != 0) = true := by simpa using he
        have HFIN : Hid (readS s = (⟨l5, er⟩, [], er)) := Lib.hid (by rw [HRS.out, if_pos he])
        clear he
        go_wp2
        go_region
        all_goals
          go_wp2
          have hkS : Kept (fun i => i = w.heap.size + 1) wr ((wr.setCell ⟨w.heap.size + 1, 0, none⟩ (.slice a m c)).setCell ⟨w.heap.size + 1, 1, none⟩ (.int .i64 er)) := ((Kept.refl (fun i => i = w.heap.size + 1) _).setCell (p := ⟨w.heap.size + 1, 0, none⟩) (.inl (by show w.heap.size + 1 = _; rfl)) _).setCell (p := ⟨w.heap.size + 1, 1, none⟩) (.inl (by show w.heap.size + 1 = _; rfl)) _
          have hfin := blkI_two HB2r.out (.slice a m c) (.int .i64 er)
          clear d0 d1 z0 z1
          obtain ⟨z0, z1⟩ := cells2i hfin
          have hrd : RwRd ((wr.setCell ⟨w.heap.size + 1, 0, none⟩ (.slice a m c)).setCell ⟨w.heap.size + 1, 1, none⟩ (.int .i64 er)) (fun i => w.heap.size ≤ i) (.slice none 0 0) (readS s).2.1 := by
            rw [HFIN.out]
            exact RwRd.nil _ _
          have hri : RIn ((wr.setCell ⟨w.heap.size + 1, 0, none⟩ (.slice a m c)).setCell ⟨w.heap.size + 1, 1, none⟩ (.int .i64 er)) F a m c (readS s).1 := by
            rw [HFIN.out]
            exact RAt.kept HIN.out hkS (fun i hi h => by have := HF.out i hi; omega)
          have hkk := HKr.out.trans hkS (fun i hi h => by omega)
          generalize hW3 : World.setCell _ _ _ = W3 at z0 z1 hrd hri hkk ⊢
          have hdr : Kept NoB W3 W3.drew := (Kept.refl _ _).drew
          exact bodyPost_ret (v := .tuple #[.agg #[.slice a m c, .int .i64 er], .slice none 0 0, .int .i64 er]) (by simp [results, Try.results59, go_sem, z0, z1]) rfl ⟨a, m, c, _, by rw [HFIN.out], hri.no hdr, hrd.no hdr, hkk.trans hdr (fun _ _ h => h)⟩
end Go.Proofs.Ytnmclhgljpcjcaa
