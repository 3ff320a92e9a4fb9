/-
  catenaryref09: Get.
-/
import Derived.Test.YtbdenjmnohhhiaaDoorCnfBD
import Derived.Test.YtbdenjmnohhhiaaDoorCnfJ
import Derived.Test.YtbdenjmnohhhiaaDoorRefD
namespace Go.Proofs.YtbdenjmnohhhiaaDoor
open Go.RowKit
set_option linter.unusedVariables false
set_option linter.unusedSimpArgs false

/-- A reader of the chapter's, its two cells. -/
def RIn (w : World) (F : Nat → Prop) (a : Option Addr) (n c : Nat) (s : ISt) : Prop := RAt w F (.agg #[.slice a n c, .int .i64 s.err]) s
theorem RIn.of {w : World} {F : Nat → Prop} {v : Value} {s : ISt} (h : RAt w F v s) : ∃ a n c, v = .agg #[.slice a n c, .int .i64 s.err] ∧ RIn w F a n c s := by
  obtain ⟨h1, b, rfl, hb⟩ := h
  have hb' := hb
  obtain ⟨a, c, rfl, _⟩ := hb
  exact ⟨a, _, c, rfl, h1, _, rfl, hb'⟩
theorem RIn.no {w w' : World} {F : Nat → Prop} {a : Option Addr} {n c : Nat} {s : ISt} (h : RIn w F a n c s) (hk : Kept NoB w w') : RIn w' F a n c s := RAt.kept h hk (fun _ _ h => h)
theorem RIn.isB {w : World} {F : Nat → Prop} {a : Option Addr} {n c : Nat} {s : ISt} (h : RIn w F a n c s) : IsB s.l := by obtain ⟨_, _, _, hb⟩ := h; exact hb.isB
theorem cells2i {w : World} {b : Nat} {x y : Value} {t : TypeId} (h : w.heap[b]? = some (.cells #[x, y] t (0, 0))) : w.cell? ⟨b, 0, none⟩ = some x ∧ w.cell? ⟨b, 1, none⟩ = some y := ⟨cell_of_row _ _ 0 _ _ _ h, cell_of_row _ _ 1 _ _ _ h⟩
theorem in9_set {w : World} {b : Nat} {x y : Value} {t : TypeId} (h : w.heap[b]? = some (.cells #[x, y] t (0, 0))) (u v : Value) : ((w.setCell ⟨b, 0, none⟩ u).setCell ⟨b, 1, none⟩ v).heap[b]? = some (.cells #[u, v] t (0, 0)) := blk9_set (blk9_set h 0 u) 1 v
theorem in9_kept (w : World) (b : Nat) (u v : Value) : Kept (fun i => i = b) w ((w.setCell ⟨b, 0, none⟩ u).setCell ⟨b, 1, none⟩ v) := ((Kept.refl (fun i => i = b) w).setCell (p := ⟨b, 0, none⟩) (.inl (by show b = b; rfl)) _).setCell (p := ⟨b, 1, none⟩) (.inl (by show b = b; rfl)) _
theorem balloc9 {w : World} {g : Nat} {o : Obj} (h : w.heap[g]? = some o) (x : Obj) : (w.alloc x).heap[g]? = some o := (heap_alloc_old w x (heap_lt h)).trans h
/-- What both stores leave, in either order. -/
def Two9 (w W : World) (g1 g2 : Nat) (p q y0 y1 y2 y3 y4 : Value) (t1 t2 : TypeId) : Prop :=
  W.heap[g1]? = some (.cells #[p, q] t1 (0, 0)) ∧ W.heap[g2]? = some (.cells #[y0, y1, y2, y3, y4] t2 (0, 0)) ∧ Kept (fun i => i = g1 ∨ i = g2) w W
theorem two12 {w : World} {g1 g2 : Nat} {p q y0 y1 y2 y3 y4 : Value} {t1 t2 : TypeId} (h1 : w.heap[g1]? = some (.cells #[p, q] t1 (0, 0))) (h2 : w.heap[g2]? = some (.cells #[y0, y1, y2, y3, y4] t2 (0, 0))) (hne : g1 ≠ g2) (p' q' z0 z1 z2 z3 z4 : Value) :
    Two9 w ((((((( w.setCell ⟨g1, 0, none⟩ p').setCell ⟨g1, 1, none⟩ q').setCell ⟨g2, 0, none⟩ z0).setCell ⟨g2, 1, none⟩ z1).setCell ⟨g2, 2, none⟩ z2).setCell ⟨g2, 3, none⟩ z3).setCell ⟨g2, 4, none⟩ z4) g1 g2 p' q' z0 z1 z2 z3 z4 t1 t2 :=
  ⟨(cf9_kept _ g2 z0 z1 z2 z3 z4).heap (fun h => hne h) (in9_set h1 p' q'), cf9_set ((in9_kept w g1 p' q').heap (fun h => hne h.symm) h2) z0 z1 z2 z3 z4, ((in9_kept w g1 p' q').mono (fun _ _ h => .inl h)).trans (cf9_kept _ g2 z0 z1 z2 z3 z4) (fun _ _ h => .inr h)⟩
theorem two21 {w : World} {g1 g2 : Nat} {p q y0 y1 y2 y3 y4 : Value} {t1 t2 : TypeId} (h1 : w.heap[g1]? = some (.cells #[p, q] t1 (0, 0))) (h2 : w.heap[g2]? = some (.cells #[y0, y1, y2, y3, y4] t2 (0, 0))) (hne : g1 ≠ g2) (p' q' z0 z1 z2 z3 z4 : Value) :
    Two9 w ((((((( w.setCell ⟨g2, 0, none⟩ z0).setCell ⟨g2, 1, none⟩ z1).setCell ⟨g2, 2, none⟩ z2).setCell ⟨g2, 3, none⟩ z3).setCell ⟨g2, 4, none⟩ z4).setCell ⟨g1, 0, none⟩ p').setCell ⟨g1, 1, none⟩ q') g1 g2 p' q' z0 z1 z2 z3 z4 t1 t2 :=
  ⟨in9_set ((cf9_kept w g2 z0 z1 z2 z3 z4).heap (fun h => hne h) h1) p' q', (in9_kept _ g1 p' q').heap (fun h => hne h.symm) (cf9_set h2 z0 z1 z2 z3 z4), ((cf9_kept w g2 z0 z1 z2 z3 z4).mono (fun _ _ h => .inr h)).trans (in9_kept _ g1 p' q') (fun _ _ h => .inl h)⟩
def RGetEnd (w : World) (F : Nat → Prop) (s : ISt) (e : Ending) (w' : World) : Prop :=
  ∃ a n c cv, e = .returned (.tuple #[.agg #[.slice a n c, .int .i64 (readC s).1.err], cv, .int .i64 (readC s).2.2]) ∧ RIn w' F a n c (readC s).1 ∧ CfV w' (fun i => w.heap.size ≤ i) cv (readC s).2.1 ∧ Kept NoB w w'
def RgRel (w W : World) (G : Nat) (v0 v1 v3 : Int) (fr : Bool) (bs : List Int) (kv : Value) (wr : World) : Prop :=
  ∃ (k : Nat) (a : Option Addr) (c : Nat), k ≤ bs.length ∧ kv = .int .i64 k ∧ IOwn (G + 1) wr (.slice a k c) (bs.take k) ∧
    wr.heap[G]? = some (.cells #[.int .i64 v0, .int .u64 v1, .slice a k c, .bool fr, .int .i64 v3] 25 (0, 0)) ∧ Kept (fun i => G ≤ i) W wr
set_option maxRecDepth 100000 in
set_option maxHeartbeats 8000000 in
theorem RGet9_any (w : World) (v : Value) (F : Nat → Prop) (s : ISt) (h : RAt w F v s) (hF : ∀ i, F i → i < w.heap.size) : Calls Tryd.prog 16 #[v] w (RGetEnd w F s) := by
  obtain ⟨a0, n0, q0, rfl, hr0⟩ := RIn.of h
  have hk3 := (((Kept.refl NoB w).alloc (.cells #[.slice a0 n0 q0, .int .i64 s.err] 46)).alloc (.cells #[.slice none 0 0, .int .i64 0] 46)).alloc (.cells #[.int .i64 0, .int .u64 0, .slice none 0 0, .bool false, .int .i64 0] 25)
  have hb1 := balloc9 (balloc9 (heap_alloc_new w (.cells #[.slice a0 n0 q0, .int .i64 s.err] 46)) (.cells #[.slice none 0 0, .int .i64 0] 46)) (.cells #[.int .i64 0, .int .u64 0, .slice none 0 0, .bool false, .int .i64 0] 25)
  have hb2 := balloc9 (heap_alloc_new (w.alloc (.cells #[.slice a0 n0 q0, .int .i64 s.err] 46)) (.cells #[.slice none 0 0, .int .i64 0] 46)) (.cells #[.int .i64 0, .int .u64 0, .slice none 0 0, .bool false, .int .i64 0] 25)
  have hb3 := heap_alloc_new ((w.alloc (.cells #[.slice a0 n0 q0, .int .i64 s.err] 46)).alloc (.cells #[.slice none 0 0, .int .i64 0] 46)) (.cells #[.int .i64 0, .int .u64 0, .slice none 0 0, .bool false, .int .i64 0] 25)
  rw [show (w.alloc (.cells #[.slice a0 n0 q0, .int .i64 s.err] 46)).heap.size = w.heap.size + 1 by simp] at hb2
  rw [show ((w.alloc (.cells #[.slice a0 n0 q0, .int .i64 s.err] 46)).alloc (.cells #[.slice none 0 0, .int .i64 0] 46)).heap.size = w.heap.size + 2 by simp] at hb3
  obtain ⟨y0, hy0⟩ : ∃ W, W = ((w.alloc (.cells #[.slice a0 n0 q0, .int .i64 s.err] 46)).alloc (.cells #[.slice none 0 0, .int .i64 0] 46)).alloc (.cells #[.int .i64 0, .int .u64 0, .slice none 0 0, .bool false, .int .i64 0] 25) := ⟨_, rfl⟩
  rw [← hy0] at hk3 hb1 hb2 hb3
  have HY0 := Lib.hid hy0
  have HKY0 := Lib.hid hk3
  have HB0 := Lib.hid hb1
  have HP0 := Lib.hid hb2
  have HQ0 := Lib.hid hb3
  have HIY0 := Lib.hid (hr0.no hk3)
  have HF := Lib.hid hF
  have HS0B := Lib.hid hr0.isB
  obtain ⟨s1, hs1⟩ : ∃ t, t = (s.get 1).1 := ⟨_, rfl⟩
  obtain ⟨v0, hv0⟩ : ∃ t, t = (s.get 1).2 := ⟨_, rfl⟩
  obtain ⟨s2, hs2⟩ : ∃ t, t = (s1.get 8).1 := ⟨_, rfl⟩
  obtain ⟨v1, hv1⟩ : ∃ t, t = (s1.get 8).2 := ⟨_, rfl⟩
  obtain ⟨s3, hs3⟩ : ∃ t, t = (s2.upto 1 1).1 := ⟨_, rfl⟩
  obtain ⟨fr, hfr⟩ : ∃ t, t = ((s2.upto 1 1).2 == 1) := ⟨_, rfl⟩
  obtain ⟨s4, hs4⟩ : ∃ t, t = (s3.get 1).1 := ⟨_, rfl⟩
  obtain ⟨v3, hv3⟩ : ∃ t, t = (s3.get 1).2 := ⟨_, rfl⟩
  obtain ⟨s5, hs5⟩ : ∃ t, t = (s4.get 1).1 := ⟨_, rfl⟩
  obtain ⟨n, hn⟩ : ∃ t, t = (s4.get 1).2 := ⟨_, rfl⟩
  have HGC : Hid (getCf s = ((s5.raw n).1, ⟨v0, v1, (s5.raw n).2, fr, v3⟩)) := Lib.hid (by unfold getCf; rw [← hs1, ← hs2, ← hs3, ← hs4, ← hs5, ← hv0, ← hv1, ← hv3, ← hn, ← hfr])
  have HC0 : Hid (∀ w' a m c, RIn w' F a m c s → Kept NoB w w' → Calls Tryd.prog 33 #[.agg #[.slice a m c, .int .i64 s.err], .int .i64 1] w' fun r w'' => ∃ a' n' c', r = .returned (.tuple #[.agg #[.slice a' n' c', .int .i64 s1.err], .int .u64 v0]) ∧ RIn w'' F a' n' c' s1 ∧ Kept NoB w' w'') := Lib.hid (fun w' a m c h hk => by
    rw [hv0, hs1]
    refine (RGet_any _ s 1 F w' h (fun i hi => by have := HF.out i hi; have := hk.size; omega)).mono ?_
    rintro r w'' ⟨v', rfl, h1, h2⟩
    obtain ⟨a', n', c', rfl, h3⟩ := RIn.of h1
    exact ⟨a', n', c', rfl, h3, h2⟩)
  have HC1 : Hid (∀ w' a m c, RIn w' F a m c s1 → Kept NoB w w' → Calls Tryd.prog 33 #[.agg #[.slice a m c, .int .i64 s1.err], .int .i64 8] w' fun r w'' => ∃ a' n' c', r = .returned (.tuple #[.agg #[.slice a' n' c', .int .i64 s2.err], .int .u64 v1]) ∧ RIn w'' F a' n' c' s2 ∧ Kept NoB w' w'') := Lib.hid (fun w' a m c h hk => by
    rw [hv1, hs2]
    refine (RGet_any _ s1 8 F w' h (fun i hi => by have := HF.out i hi; have := hk.size; omega)).mono ?_
    rintro r w'' ⟨v', rfl, h1, h2⟩
    obtain ⟨a', n', c', rfl, h3⟩ := RIn.of h1
    exact ⟨a', n', c', rfl, h3, h2⟩)
  have HC2 : Hid (∀ w' a m c, RIn w' F a m c s2 → Kept NoB w w' → Calls Tryd.prog 34 #[.agg #[.slice a m c, .int .i64 s2.err]] w' fun r w'' => ∃ a' n' c', r = .returned (.tuple #[.agg #[.slice a' n' c', .int .i64 s3.err], .bool fr]) ∧ RIn w'' F a' n' c' s3 ∧ Kept NoB w' w'') := Lib.hid (fun w' a m c h hk => by
    rw [hfr, hs3]
    refine (RBool_any _ s2 F w' h (fun i hi => by have := HF.out i hi; have := hk.size; omega)).mono ?_
    rintro r w'' ⟨v', rfl, h1, h2⟩
    obtain ⟨a', n', c', rfl, h3⟩ := RIn.of h1
    exact ⟨a', n', c', rfl, h3, h2⟩)
  have HC3 : Hid (∀ w' a m c, RIn w' F a m c s3 → Kept NoB w w' → Calls Tryd.prog 33 #[.agg #[.slice a m c, .int .i64 s3.err], .int .i64 1] w' fun r w'' => ∃ a' n' c', r = .returned (.tuple #[.agg #[.slice a' n' c', .int .i64 s4.err], .int .u64 v3]) ∧ RIn w'' F a' n' c' s4 ∧ Kept NoB w' w'') := Lib.hid (fun w' a m c h hk => by
    rw [hv3, hs4]
    refine (RGet_any _ s3 1 F w' h (fun i hi => by have := HF.out i hi; have := hk.size; omega)).mono ?_
    rintro r w'' ⟨v', rfl, h1, h2⟩
    obtain ⟨a', n', c', rfl, h3⟩ := RIn.of h1
    exact ⟨a', n', c', rfl, h3, h2⟩)
  have HC4 : Hid (∀ w' a m c, RIn w' F a m c s4 → Kept NoB w w' → Calls Tryd.prog 33 #[.agg #[.slice a m c, .int .i64 s4.err], .int .i64 1] w' fun r w'' => ∃ a' n' c', r = .returned (.tuple #[.agg #[.slice a' n' c', .int .i64 s5.err], .int .u64 n]) ∧ RIn w'' F a' n' c' s5 ∧ Kept NoB w' w'') := Lib.hid (fun w' a m c h hk => by
    rw [hn, hs5]
    refine (RGet_any _ s4 1 F w' h (fun i hi => by have := HF.out i hi; have := hk.size; omega)).mono ?_
    rintro r w'' ⟨v', rfl, h1, h2⟩
    obtain ⟨a', n', c', rfl, h3⟩ := RIn.of h1
    exact ⟨a', n', c', rfl, h3, h2⟩)
  have hb0 : 0 ≤ v0 ∧ v0 ≤ 255 := by rw [hv0]; exact get1_le9 s HS0B.out
  have HE1 : Hid (IsB s1.l → 0 ≤ v1 ∧ v1 ≤ topE) := Lib.hid (fun h => by rw [hv1]; exact get8_fit9 _ h)
  have HE3 : Hid (IsB s3.l → 0 ≤ v3 ∧ v3 ≤ 255) := Lib.hid (fun h => by rw [hv3]; exact get1_le9 _ h)
  have HE4 : Hid (IsB s4.l → 0 ≤ n ∧ n ≤ 255) := Lib.hid (fun h => by rw [hn]; exact get1_le9 _ h)
  have hwa : IntKind.i64.wrap v0 = v0 := IntWalk.i64_in _ (by omega)
  have HV0 := Lib.hid hb0
  obtain ⟨f0, f1⟩ := cells2i hb1
  have hzf := frz9 hb1
  clear h hF hy0 hk3 hb1 hb2 hb3 hr0 hs1 hv0 hs2 hv1 hs3 hfr hs4 hv3 hs5 hn hb0
  go_enter Tryd.func16, Tryd.ntmps16
  go_upto_region 1 with fail
  rw [← HY0.out]
  go_wp2_with fail
  refine (HC0.out y0 _ _ _ HIY0.out HKY0.out).mono ?_
  rintro e x1 ⟨b1, n1, q1, rfl, hi, hkx⟩
  have HIx1 := Lib.hid hi
  have HKx1 := Lib.hid hkx
  have hnx := hkx.heap (fun h => h) HB0.out
  have HNX1 := Lib.hid hnx
  have HPX1 := Lib.hid (hkx.heap (fun h => h) HP0.out)
  have HQX1 := Lib.hid (hkx.heap (fun h => h) HQ0.out)
  clear f0 f1 hzf hi hkx
  obtain ⟨f0, f1⟩ := cells2i hnx
  have hzf := frz9 hnx
  obtain ⟨y1, hy1⟩ : ∃ y, y = (x1.setCell ⟨w.heap.size, 0, none⟩ (.slice b1 n1 q1)).setCell ⟨w.heap.size, 1, none⟩ (.int .i64 s1.err) := ⟨_, rfl⟩
  have HY1 := Lib.hid hy1
  have HKJ1 : Hid (Kept (fun i => i = w.heap.size) x1 y1) := Lib.hid (by rw [hy1]; exact in9_kept _ _ _ _)
  have HB1 : Hid (y1.heap[w.heap.size]? = some (.cells #[.slice b1 n1 q1, .int .i64 s1.err] 46 (0, 0))) := Lib.hid (by rw [hy1]; exact in9_set HNX1.out _ _)
  have HP1 := Lib.hid (HKJ1.out.heap (fun h : w.heap.size + 1 = w.heap.size => by omega) HPX1.out)
  have HQ1 := Lib.hid (HKJ1.out.heap (fun h : w.heap.size + 2 = w.heap.size => by omega) HQX1.out)
  have HKY1 := Lib.hid ((HKY0.out.trans HKx1.out (fun _ _ h => h)).trans HKJ1.out (fun i hi h => by omega))
  have HIY1 : Hid (RIn y1 F b1 n1 q1 s1) := Lib.hid (RAt.kept HIx1.out HKJ1.out (fun i hi h => by have := HF.out i hi; omega))
  clear hnx hy1
  go_upto_region 2 with fail
  rw [← HY1.out]
  clear f0 f1 hzf
  obtain ⟨f0, f1⟩ := cells2i HB1.out
  have hzf := frz9 HB1.out
  go_wp2_with fail
  refine (HC1.out y1 _ _ _ HIY1.out HKY1.out).mono ?_
  rintro e x2 ⟨b2, n2, q2, rfl, hi, hkx⟩
  have HIx2 := Lib.hid hi
  have HKx2 := Lib.hid hkx
  have hnx := hkx.heap (fun h => h) HB1.out
  have HNX2 := Lib.hid hnx
  have HPX2 := Lib.hid (hkx.heap (fun h => h) HP1.out)
  have HQX2 := Lib.hid (hkx.heap (fun h => h) HQ1.out)
  clear f0 f1 hzf hi hkx
  obtain ⟨f0, f1⟩ := cells2i hnx
  have hzf := frz9 hnx
  obtain ⟨y2, hy2⟩ : ∃ y, y = (x2.setCell ⟨w.heap.size, 0, none⟩ (.slice b2 n2 q2)).setCell ⟨w.heap.size, 1, none⟩ (.int .i64 s2.err) := ⟨_, rfl⟩
  have HY2 := Lib.hid hy2
  have HKJ2 : Hid (Kept (fun i => i = w.heap.size) x2 y2) := Lib.hid (by rw [hy2]; exact in9_kept _ _ _ _)
  have HB2 : Hid (y2.heap[w.heap.size]? = some (.cells #[.slice b2 n2 q2, .int .i64 s2.err] 46 (0, 0))) := Lib.hid (by rw [hy2]; exact in9_set HNX2.out _ _)
  have HP2 := Lib.hid (HKJ2.out.heap (fun h : w.heap.size + 1 = w.heap.size => by omega) HPX2.out)
  have HQ2 := Lib.hid (HKJ2.out.heap (fun h : w.heap.size + 2 = w.heap.size => by omega) HQX2.out)
  have HKY2 := Lib.hid ((HKY1.out.trans HKx2.out (fun _ _ h => h)).trans HKJ2.out (fun i hi h => by omega))
  have HIY2 : Hid (RIn y2 F b2 n2 q2 s2) := Lib.hid (RAt.kept HIx2.out HKJ2.out (fun i hi h => by have := HF.out i hi; omega))
  clear hnx hy2
  go_upto_region 3 with fail
  rw [← HY2.out]
  clear f0 f1 hzf
  obtain ⟨f0, f1⟩ := cells2i HB2.out
  have hzf := frz9 HB2.out
  go_wp2_with fail
  refine (HC2.out y2 _ _ _ HIY2.out HKY2.out).mono ?_
  rintro e x3 ⟨b3, n3, q3, rfl, hi, hkx⟩
  have HIx3 := Lib.hid hi
  have HKx3 := Lib.hid hkx
  have hnx := hkx.heap (fun h => h) HB2.out
  have HNX3 := Lib.hid hnx
  have HPX3 := Lib.hid (hkx.heap (fun h => h) HP2.out)
  have HQX3 := Lib.hid (hkx.heap (fun h => h) HQ2.out)
  clear f0 f1 hzf hi hkx
  obtain ⟨f0, f1⟩ := cells2i hnx
  have hzf := frz9 hnx
  obtain ⟨y3, hy3⟩ : ∃ y, y = (x3.setCell ⟨w.heap.size, 0, none⟩ (.slice b3 n3 q3)).setCell ⟨w.heap.size, 1, none⟩ (.int .i64 s3.err) := ⟨_, rfl⟩
  have HY3 := Lib.hid hy3
  have HKJ3 : Hid (Kept (fun i => i = w.heap.size) x3 y3) := Lib.hid (by rw [hy3]; exact in9_kept _ _ _ _)
  have HB3 : Hid (y3.heap[w.heap.size]? = some (.cells #[.slice b3 n3 q3, .int .i64 s3.err] 46 (0, 0))) := Lib.hid (by rw [hy3]; exact in9_set HNX3.out _ _)
  have HP3 := Lib.hid (HKJ3.out.heap (fun h : w.heap.size + 1 = w.heap.size => by omega) HPX3.out)
  have HQ3 := Lib.hid (HKJ3.out.heap (fun h : w.heap.size + 2 = w.heap.size => by omega) HQX3.out)
  have HKY3 := Lib.hid ((HKY2.out.trans HKx3.out (fun _ _ h => h)).trans HKJ3.out (fun i hi h => by omega))
  have HIY3 : Hid (RIn y3 F b3 n3 q3 s3) := Lib.hid (RAt.kept HIx3.out HKJ3.out (fun i hi h => by have := HF.out i hi; omega))
  clear hnx hy3
  go_upto_region 4 with fail
  rw [← HY3.out]
  clear f0 f1 hzf
  obtain ⟨f0, f1⟩ := cells2i HB3.out
  have hzf := frz9 HB3.out
  go_wp2_with fail
  refine (HC3.out y3 _ _ _ HIY3.out HKY3.out).mono ?_
  rintro e x4 ⟨b4, n4, q4, rfl, hi, hkx⟩
  have HIx4 := Lib.hid hi
  have HKx4 := Lib.hid hkx
  have hnx := hkx.heap (fun h => h) HB3.out
  have HNX4 := Lib.hid hnx
  have HPX4 := Lib.hid (hkx.heap (fun h => h) HP3.out)
  have HQX4 := Lib.hid (hkx.heap (fun h => h) HQ3.out)
  clear f0 f1 hzf hi hkx
  obtain ⟨f0, f1⟩ := cells2i hnx
  have hzf := frz9 hnx
  obtain ⟨y4, hy4⟩ : ∃ y, y = (x4.setCell ⟨w.heap.size, 0, none⟩ (.slice b4 n4 q4)).setCell ⟨w.heap.size, 1, none⟩ (.int .i64 s4.err) := ⟨_, rfl⟩
  have HY4 := Lib.hid hy4
  have HKJ4 : Hid (Kept (fun i => i = w.heap.size) x4 y4) := Lib.hid (by rw [hy4]; exact in9_kept _ _ _ _)
  have HB4 : Hid (y4.heap[w.heap.size]? = some (.cells #[.slice b4 n4 q4, .int .i64 s4.err] 46 (0, 0))) := Lib.hid (by rw [hy4]; exact in9_set HNX4.out _ _)
  have HP4 := Lib.hid (HKJ4.out.heap (fun h : w.heap.size + 1 = w.heap.size => by omega) HPX4.out)
  have HQ4 := Lib.hid (HKJ4.out.heap (fun h : w.heap.size + 2 = w.heap.size => by omega) HQX4.out)
  have HKY4 := Lib.hid ((HKY3.out.trans HKx4.out (fun _ _ h => h)).trans HKJ4.out (fun i hi h => by omega))
  have HIY4 : Hid (RIn y4 F b4 n4 q4 s4) := Lib.hid (RAt.kept HIx4.out HKJ4.out (fun i hi h => by have := HF.out i hi; omega))
  clear hnx hy4
  go_upto_region 5 with fail
  rw [← HY4.out]
  clear f0 f1 hzf
  obtain ⟨f0, f1⟩ := cells2i HB4.out
  have hzf := frz9 HB4.out
  go_wp2_with fail
  refine (HC4.out y4 _ _ _ HIY4.out HKY4.out).mono ?_
  rintro e x5 ⟨b5, n5, q5, rfl, hi, hkx⟩
  have HIx5 := Lib.hid hi
  have HKx5 := Lib.hid hkx
  have hnx := hkx.heap (fun h => h) HB4.out
  have HNX5 := Lib.hid hnx
  have HPX5 := Lib.hid (hkx.heap (fun h => h) HP4.out)
  have HQX5 := Lib.hid (hkx.heap (fun h => h) HQ4.out)
  clear f0 f1 hzf hi hkx
  obtain ⟨f0, f1⟩ := cells2i hnx
  have hzf := frz9 hnx
  obtain ⟨y5, hy5⟩ : ∃ y, y = (x5.setCell ⟨w.heap.size, 0, none⟩ (.slice b5 n5 q5)).setCell ⟨w.heap.size, 1, none⟩ (.int .i64 s5.err) := ⟨_, rfl⟩
  have HY5 := Lib.hid hy5
  have HKJ5 : Hid (Kept (fun i => i = w.heap.size) x5 y5) := Lib.hid (by rw [hy5]; exact in9_kept _ _ _ _)
  have HB5 : Hid (y5.heap[w.heap.size]? = some (.cells #[.slice b5 n5 q5, .int .i64 s5.err] 46 (0, 0))) := Lib.hid (by rw [hy5]; exact in9_set HNX5.out _ _)
  have HP5 := Lib.hid (HKJ5.out.heap (fun h : w.heap.size + 1 = w.heap.size => by omega) HPX5.out)
  have HQ5 := Lib.hid (HKJ5.out.heap (fun h : w.heap.size + 2 = w.heap.size => by omega) HQX5.out)
  have HKY5 := Lib.hid ((HKY4.out.trans HKx5.out (fun _ _ h => h)).trans HKJ5.out (fun i hi h => by omega))
  have HIY5 : Hid (RIn y5 F b5 n5 q5 s5) := Lib.hid (RAt.kept HIx5.out HKJ5.out (fun i hi h => by have := HF.out i hi; omega))
  clear hnx hy5
  go_upto_region 6 with fail
  rw [← HY5.out]
  clear f0 f1 hzf
  obtain ⟨f0, f1⟩ := cells2i HB5.out
  have hzf := frz9 HB5.out
  obtain ⟨hn0, hn1⟩ := HE4.out HIY4.out.isB
  obtain ⟨N, rfl⟩ := Int.eq_ofNat_of_zero_le hn0
  have HRS := Lib.hid (readC_is s s5 v0 v1 v3 fr N HGC.out)
  obtain ⟨s6, hs6⟩ : ∃ t, t = stK s5 N := ⟨_, rfl⟩
  obtain ⟨bs, hbs⟩ : ∃ t, t = nsK s5 N := ⟨_, rfl⟩
  have HC5 : Hid (∀ w' a m c, RIn w' F a m c s5 → Kept NoB w w' → Calls Tryd.prog 35 #[.agg #[.slice a m c, .int .i64 s5.err], .int .i64 (N : Int)] w' fun r w'' => ∃ a' n' c' ba bc, r = .returned (.tuple #[.agg #[.slice a' n' c', .int .i64 s6.err], .slice ba bs.length bc]) ∧ RIn w'' F a' n' c' s6 ∧ BSl w'' F (.slice ba bs.length bc) bs ∧ Kept NoB w' w'') := Lib.hid (fun w' a m c h hk => by
    rw [hs6, hbs]
    refine (RRaw_any _ s5 (N : Int) F w' h (fun i hi => by have := HF.out i hi; have := hk.size; omega) (by omega)).mono ?_
    rintro r w'' ⟨v', b, rfl, h1, hb, h2⟩
    obtain ⟨a', n', c', rfl, h3⟩ := RIn.of h1
    have hb' := hb
    obtain ⟨ba, bc, rfl, _⟩ := hb
    exact ⟨a', n', c', ba, bc, rfl, h3, hb', h2⟩)
  rw [← hs6, ← hbs] at HRS
  have HBL : Hid (bs.length ≤ 255) := Lib.hid (by rw [hbs]; have := s5.raw_len (N : Int); unfold nsK; omega)
  have hwN : IntKind.i64.wrap (N : Int) = (N : Int) := IntWalk.i64_in _ (by omega)
  clear hn0 hs6 hbs
  go_wp2_with fail
  refine (HC5.out y5 _ _ _ HIY5.out HKY5.out).mono ?_
  rintro e x6 ⟨b6, n6, q6, ba, bc, rfl, hi, hbv, hkx⟩
  have HIx6 := Lib.hid hi
  have HKx6 := Lib.hid hkx
  have HBVx := Lib.hid hbv
  have hnx := hkx.heap (fun h => h) HB5.out
  have HNX6 := Lib.hid hnx
  have HPX6 := Lib.hid (hkx.heap (fun h => h) HP5.out)
  have HQX6 := Lib.hid (hkx.heap (fun h => h) HQ5.out)
  clear f0 f1 hzf hi hkx hbv
  obtain ⟨f0, f1⟩ := cells2i hnx
  have hzf := frz9 hnx
  obtain ⟨y6, hy6⟩ : ∃ y, y = (x6.setCell ⟨w.heap.size, 0, none⟩ (.slice b6 n6 q6)).setCell ⟨w.heap.size, 1, none⟩ (.int .i64 s6.err) := ⟨_, rfl⟩
  have HY6 := Lib.hid hy6
  have HKJ6 : Hid (Kept (fun i => i = w.heap.size) x6 y6) := Lib.hid (by rw [hy6]; exact in9_kept _ _ _ _)
  have HB6 : Hid (y6.heap[w.heap.size]? = some (.cells #[.slice b6 n6 q6, .int .i64 s6.err] 46 (0, 0))) := Lib.hid (by rw [hy6]; exact in9_set HNX6.out _ _)
  have HP6 := Lib.hid (HKJ6.out.heap (fun h : w.heap.size + 1 = w.heap.size => by omega) HPX6.out)
  have HQ6 := Lib.hid (HKJ6.out.heap (fun h : w.heap.size + 2 = w.heap.size => by omega) HQX6.out)
  have HKY6 := Lib.hid ((HKY5.out.trans HKx6.out (fun _ _ h => h)).trans HKJ6.out (fun i hi h => by omega))
  have HIY6 : Hid (RIn y6 F b6 n6 q6 s6) := Lib.hid (RAt.kept HIx6.out HKJ6.out (fun i hi h => by have := HF.out i hi; omega))
  have HBV := Lib.hid (HBVx.out.kept HKJ6.out (fun i hi h => by have := HF.out i hi; omega))
  clear hnx hy6
  go_upto_region 7 with fail
  rw [← HY6.out]
  clear f0 f1 hzf
  obtain ⟨f0, f1⟩ := cells2i HB6.out
  have hzf := frz9 HB6.out
  obtain ⟨lx, er⟩ := s6
  simp only at HRS HB6 f1
  obtain ⟨p0, p1⟩ := cells2i HP6.out
  obtain ⟨r0, r1, r2, r3, r4⟩ := cells5 HQ6.out
  have pz := frz9 HP6.out
  have rz := frz9 HQ6.out
  have hn12 : ¬ w.heap.size + 1 = w.heap.size := by omega
  have hn13 : ¬ w.heap.size + 2 = w.heap.size := by omega
  have hn23 : ¬ w.heap.size + 2 = w.heap.size + 1 := by omega
  have hn32 : ¬ w.heap.size + 1 = w.heap.size + 2 := by omega
  by_cases he : er = 0
  · subst he
    have hz0 : ((0 : Int) != 0) = false := by decide
    obtain ⟨hv10, hv11⟩ := HE1.out HIY1.out.isB
    obtain ⟨hb30, hb31⟩ := HE3.out HIY3.out.isB
    have hwb : IntKind.i64.wrap v3 = v3 := IntWalk.i64_in _ (by omega)
    have HN9 := Lib.hid (heap_alloc_new y6 (.cells #[.int .i64 v0, .int .u64 v1, .slice none 0 0, .bool fr, .int .i64 v3] 25))
    obtain ⟨y7, hy7⟩ : ∃ y, y = y6.alloc (.cells #[.int .i64 v0, .int .u64 v1, .slice none 0 0, .bool fr, .int .i64 v3] 25) := ⟨_, rfl⟩
    have HYK : Hid (Kept NoB y6 y7) := Lib.hid (by rw [hy7]; exact (Kept.refl NoB y6).alloc _)
    have HY7 := Lib.hid hy7
    rw [← hy7] at HN9
    obtain ⟨G, hG⟩ : ∃ G, G = y6.heap.size := ⟨_, rfl⟩
    rw [← hG] at HN9
    have HGG := Lib.hid hG
    have HGZ : Hid (w.heap.size + 2 < G) := Lib.hid (by rw [hG]; exact heap_lt HQ6.out)
    have HB7 := Lib.hid (HYK.out.heap (fun h => h) HB6.out)
    have HP7 := Lib.hid (HYK.out.heap (fun h => h) HP6.out)
    have HQ7 := Lib.hid (HYK.out.heap (fun h => h) HQ6.out)
    have HKY7 := Lib.hid (HKY6.out.trans HYK.out (fun _ _ h => h))
    have HIY7 := Lib.hid (HIY6.out.no HYK.out)
    have HBV7 := Lib.hid (HBV.out.kept HYK.out (fun _ _ h => h))
    clear hy7 hG
    go_upto_region 10 with fail
    rw [← HY7.out, ← HGG.out]
    generalize Value.tuple #[.agg #[.slice b1 n1 q1, .int .i64 s1.err], .int .u64 v0] = T1
    generalize Value.tuple #[.agg #[.slice b2 n2 q2, .int .i64 s2.err], .int .u64 v1] = T2
    generalize Value.tuple #[.agg #[.slice b3 n3 q3, .int .i64 s3.err], .bool fr] = T3
    generalize Value.tuple #[.agg #[.slice b4 n4 q4, .int .i64 s4.err], .int .u64 v3] = T4
    generalize Value.tuple #[.agg #[.slice b5 n5 q5, .int .i64 s5.err], .int .u64 (N : Int)] = T5
    generalize Value.tuple #[.agg #[.slice b6 n6 q6, .int .i64 0], .slice ba bs.length bc] = T6
    generalize Value.agg #[.slice b1 n1 q1, .int .i64 s1.err] = A1
    generalize Value.agg #[.slice b2 n2 q2, .int .i64 s2.err] = A2
    generalize Value.agg #[.slice b3 n3 q3, .int .i64 s3.err] = A3
    generalize Value.agg #[.slice b4 n4 q4, .int .i64 s4.err] = A4
    generalize Value.agg #[.slice b5 n5 q5, .int .i64 s5.err] = A5
    generalize Value.agg #[.slice b6 n6 q6, .int .i64 0] = A6
    generalize Value.agg #[.slice a0 n0 q0, .int .i64 s.err] = A0
    have H0 : Hid (RgRel w y7 G v0 v1 v3 fr bs (.int .i64 0) y7) := Lib.hid ⟨0, none, 0, Nat.zero_le _, rfl, IOwn.nil _ _, HN9.out, Kept.refl _ _⟩
    clear f0 f1 hzf p0 p1 r0 r1 r2 r3 r4 pz rz
    go_wp2_with fail
    go_loopw [12] (RgRel w y7 G v0 v1 v3 fr bs) (fun i _ => bs.length - (RowKit.intOf i).toNat)
    case atStart => exact H0.out
    case round =>
      obtain ⟨k, a, c, hk, rfl, hown, hcf, hK⟩ := hrel
      have hk0 : (0 : Int) ≤ (k : Int) := by omega
      have HOW := Lib.hid hown
      have HCF := Lib.hid hcf
      have HK := Lib.hid hK
      have HKR := Lib.hid hk
      have HBASE := Lib.hid (fun i hi => (World.ownsRow.lt HOW.out i hi).1)
      have HBVr := Lib.hid (HBV7.out.kept hK (fun i hi h => by have := HF.out i hi; have := HGZ.out; have h : G ≤ i := h; omega))
      by_cases hlt : k < bs.length
      · have hk1 : (k : Int) < (bs.length : Int) := by omega
        have HLT0 := Lib.hid hlt
        have hbl255 : (bs.length : Int) ≤ 255 := by have := HBL.out; omega
        have HTK := Lib.hid (List.take_succ_eq_append_getElem hlt)
        have hbx := HBVr.out.isB _ (List.getElem_mem hlt)
        obtain ⟨ba', bc', hbe, _, _, _, hrd⟩ := HBVr.out
        injection hbe with hbe1 _ hbe2
        subst hbe1 hbe2
        obtain ⟨bb, bo, rfl, _, _, hcell⟩ := hrd.at_ hlt
        obtain ⟨x, hx⟩ : ∃ x, x = bs[k]'hlt := ⟨_, rfl⟩
        rw [getD_at hlt] at hcell
        rw [← hx] at HTK hbx hcell
        have hwx : IntKind.i64.wrap x = x := IntWalk.i64_in _ (by omega)
        have c2 := cell_of_row wr G 2 _ _ _ hcf
        have hz2 := frz9 hcf 2
        have c2a := cell_alloc c2 (.cells #[.int .i64 x] 3)
        have c2b := cell_alloc (cell_drew c2) (.cells #[.int .i64 x] 3)
        have HLT : Hid ((bs.take k).length = k) := Lib.hid (by rw [List.length_take, Nat.min_eq_left hk])
        have HBLk : Hid (k ≤ 255) := Lib.hid (by have := HBL.out; omega)
        have HN4 := Lib.hid (show (wr.alloc (.cells #[.int .i64 x] 3)).drew.heap[wr.heap.size]? = _ from heap_alloc_new wr (.cells #[.int .i64 x] 3))
        have HA4 := Lib.hid (((Kept.refl NoB wr).alloc (.cells #[.int .i64 x] 3)).drew)
        have own4 := Lib.hid (row_keptI HOW.out HA4.out (fun _ _ h => h))
        have HSZ4 := Lib.hid (show G + 1 ≤ (wr.alloc (.cells #[.int .i64 x] 3)).drew.heap.size by have := heap_lt HCF.out; have := HA4.out.size; omega)
        clear hown hcf hK hrd hx hk
        go_wp2_with fail
        go_region_law (first
          | (refine step_append_one9 _ (by rfl) _ _ (by rfl) (G + 1) (.slice a k c) (bs.take k) (by rfl) own4.out wr.heap.size x (by rfl) HN4.out (by have := HLT.out; have := HBLk.out; omega) HSZ4.out (k + 1) (by rw [HLT.out]) ?_; intro a5 c5 w5 hown5 hgrow5; have HG5 : Hid (Kept (fun i => G + 1 ≤ i) (wr.alloc (.cells #[.int .i64 x] 3)).drew w5) := Lib.hid ((Kept.refl _ _).grown hgrow5 (fun i hi => .inl (HBASE.out i hi))); have HOW5 := Lib.hid hown5; have HCF5 := Lib.hid (HG5.out.heap (by show ¬ G + 1 ≤ G; omega) (HA4.out.heap (fun h => h) HCF.out)); have j2 := cell_of_row w5 G 2 _ _ _ HCF5.out; have j2z := frz9 HCF5.out 2; clear hown5 hgrow5)
          | fail)
        all_goals
          go_wp2_with fail
          have HS : Kept (fun i => i = G) w5 (w5.setCell ⟨G, 2, none⟩ (.slice a5 (k + 1) c5)) := (Kept.refl (fun i => i = G) w5).setCell (p := ⟨G, 2, none⟩) (.inl (by show G = G; rfl)) _
          have HB5' := fun i hi => (World.ownsRow.lt HOW5.out i hi).1
          have hk45 : Kept (fun i => G ≤ i) wr (w5.setCell ⟨G, 2, none⟩ (.slice a5 (k + 1) c5)) := ((HA4.out.mono (T := fun i => G ≤ i) (fun _ _ h => absurd h (fun h => h))).trans HG5.out (fun i _ h => by show G ≤ i; have h : G + 1 ≤ i := h; omega)).trans HS (fun i _ h => by show G ≤ i; have h : i = G := h; omega)
          have hkr := HKR.out
          have hlt0 : k + 1 ≤ bs.length := HLT0.out
          exact ⟨⟨k + 1, a5, c5, hlt0, by go_num, by rw [HTK.out]; exact row_keptI HOW5.out HS (fun i hi h => by have := HB5' i hi; omega), blk9_set HCF5.out 2 _, HK.out.trans hk45 (fun _ _ h => h)⟩, by simp [RowKit.intOf]; omega⟩
      · obtain rfl : k = bs.length := by omega
        rw [List.take_length] at hown HOW
        have HNSL := Lib.hid (show NSl wr (fun i => w.heap.size ≤ i) (.slice a bs.length c) bs from HOW.out.nsl (fun i hi => by have := HBASE.out i hi; have := HGZ.out; show w.heap.size ≤ i; omega))
        have HRT := Lib.hid (RRight_any (.agg #[.int .i64 v0, .int .u64 v1, .slice a bs.length c, .bool fr, .int .i64 v3]) ⟨v0, v1, bs, fr, v3⟩ (fun i => w.heap.size ≤ i) wr ⟨_, rfl, HNSL.out, hv10, hv11, by show bs.length ≤ 1000; have := HBL.out; omega⟩)
        obtain ⟨r, hr⟩ : ∃ r, r = rgtB ⟨v0, v1, bs, fr, v3⟩ := ⟨_, rfl⟩
        rw [← hr] at HRT HRS
        obtain ⟨x0, x1, x2, x3, x4⟩ := cells5 HCF.out
        clear hown hcf hK hr hk
        go_wp2_with fail
        refine HRT.out.mono ?_
        rintro e w3 ⟨rfl, hk3⟩
        have HK3 : Hid (Kept (fun i => G ≤ i) y7 w3) := Lib.hid (HK.out.trans hk3 (fun _ _ h => absurd h (fun h => h)))
        have HB3 := Lib.hid (HK3.out.heap (by show ¬ G ≤ w.heap.size; have := HGZ.out; omega) HB7.out)
        have HP3 := Lib.hid (HK3.out.heap (by show ¬ G ≤ w.heap.size + 1; have := HGZ.out; omega) HP7.out)
        have HQ3 := Lib.hid (HK3.out.heap (by show ¬ G ≤ w.heap.size + 2; have := HGZ.out; omega) HQ7.out)
        have HC3 := Lib.hid (hk3.heap (fun h => h) HCF.out)
        have HI3 := Lib.hid (show RIn w3 F b6 n6 q6 ⟨lx, 0⟩ from RAt.kept HIY7.out HK3.out (fun i hi h => by have := HF.out i hi; have := HGZ.out; have h : G ≤ i := h; omega))
        have HKW3 := Lib.hid (HKY7.out.trans HK3.out (fun i hi h => by have := HGZ.out; have h : G ≤ i := h; omega))
        have HOW3 := Lib.hid (row_keptI HOW.out hk3 (fun _ _ h => h))
        clear x0 x1 x2 x3 x4 hk3
        obtain ⟨x0, x1, x2, x3, x4⟩ := cells5 HC3.out
        obtain ⟨f0, f1⟩ := cells2i HB3.out
        obtain ⟨p0, p1⟩ := cells2i HP3.out
        obtain ⟨r0, r1, r2, r3, r4⟩ := cells5 HQ3.out
        have pz := frz9 HP3.out
        have rz := frz9 HQ3.out
        have hnG : ¬ w.heap.size + 1 = G := by have := HGZ.out; omega
        have hnG2 : ¬ w.heap.size + 2 = G := by have := HGZ.out; omega
        cases r
        · have HFIN : Hid (readC s = (⟨lx, 0⟩, cf0, 4)) := Lib.hid (by rw [HRS.out, if_neg (by simp), if_neg (by simp)])
          go_wp2_with fail
          have hT := two12 HP3.out HQ3.out (by omega) (.slice b6 n6 q6) (.int .i64 0) (.int .i64 0) (.int .u64 0) (.slice none 0 0) (.bool false) (.int .i64 0)
          clear p0 p1 r0 r1 r2 r3 r4 f0 f1 x0 x1 x2 x3 x4
          generalize hW3 : World.setCell _ _ _ = W3 at hT ⊢
          obtain ⟨t1, t2, t3⟩ := hT
          obtain ⟨p0, p1⟩ := cells2i t1
          obtain ⟨z0, z1, z2, z3, z4⟩ := cells5 t2
          exact bodyPost_ret (v := .tuple #[.agg #[.slice b6 n6 q6, .int .i64 0], .agg #[.int .i64 0, .int .u64 0, .slice none 0 0, .bool false, .int .i64 0], .int .i64 4]) (by simp [results, Tryd.results16, go_sem, p0, p1, z0, z1, z2, z3, z4]) rfl ⟨b6, n6, q6, _, by rw [HFIN.out], by rw [HFIN.out]; exact RAt.kept HI3.out t3 (fun i hi h => by have := HF.out i hi; omega), by rw [HFIN.out]; exact ⟨_, rfl, NSl.nil _ _, Int.le_refl _, by show (0 : Int) ≤ topE; decide, Nat.zero_le _⟩, HKW3.out.trans t3 (fun i hi h => by omega)⟩
        · have HFIN : Hid (readC s = (⟨lx, 0⟩, ⟨v0, v1, bs, fr, v3⟩, 0)) := Lib.hid (by rw [HRS.out, if_neg (by simp), if_pos rfl])
          go_wp2_with fail
          go_region
          all_goals
            go_wp2_with fail
            first
              | (have hT := two12 HP3.out HQ3.out (by omega) (.slice b6 n6 q6) (.int .i64 0) (.int .i64 v0) (.int .u64 v1) (.slice a bs.length c) (.bool fr) (.int .i64 v3)
                 clear p0 p1 r0 r1 r2 r3 r4 f0 f1 x0 x1 x2 x3 x4
                 generalize hW3 : World.setCell _ _ _ = W3 at hT ⊢
                 obtain ⟨t1, t2, t3⟩ := hT
                 obtain ⟨p0, p1⟩ := cells2i t1
                 obtain ⟨z0, z1, z2, z3, z4⟩ := cells5 t2
                 have hdr : Kept NoB W3 W3.drew := (Kept.refl _ _).drew
                 have hnn := (row_keptI HOW3.out t3 (fun i hi h => by have := (World.ownsRow.lt HOW3.out i hi).1; have := HGZ.out; omega)).nsl (F := fun i => w.heap.size ≤ i) (fun i hi => by have := (World.ownsRow.lt HOW3.out i hi).1; have := HGZ.out; show w.heap.size ≤ i; omega)
                 exact bodyPost_ret (v := .tuple #[.agg #[.slice b6 n6 q6, .int .i64 0], .agg #[.int .i64 v0, .int .u64 v1, .slice a bs.length c, .bool fr, .int .i64 v3], .int .i64 0]) (by simp [results, Tryd.results16, go_sem, p0, p1, z0, z1, z2, z3, z4]) rfl ⟨b6, n6, q6, _, by rw [HFIN.out], by rw [HFIN.out]; exact (show RIn W3 F b6 n6 q6 ⟨lx, 0⟩ from RAt.kept HI3.out t3 (fun i hi h => by have := HF.out i hi; omega)).no hdr, by rw [HFIN.out]; exact ⟨_, rfl, hnn.kept hdr (fun _ _ _ h => h), hv10, hv11, by show bs.length ≤ 1000; have := HBL.out; omega⟩, (HKW3.out.trans t3 (fun i hi h => by omega)).trans hdr (fun _ _ h => h)⟩)
              | (have hT := two21 HP3.out HQ3.out (by omega) (.slice b6 n6 q6) (.int .i64 0) (.int .i64 v0) (.int .u64 v1) (.slice a bs.length c) (.bool fr) (.int .i64 v3)
                 clear p0 p1 r0 r1 r2 r3 r4 f0 f1 x0 x1 x2 x3 x4
                 generalize hW3 : World.setCell _ _ _ = W3 at hT ⊢
                 obtain ⟨t1, t2, t3⟩ := hT
                 obtain ⟨p0, p1⟩ := cells2i t1
                 obtain ⟨z0, z1, z2, z3, z4⟩ := cells5 t2
                 have hdr : Kept NoB W3 W3.drew := (Kept.refl _ _).drew
                 have hnn := (row_keptI HOW3.out t3 (fun i hi h => by have := (World.ownsRow.lt HOW3.out i hi).1; have := HGZ.out; omega)).nsl (F := fun i => w.heap.size ≤ i) (fun i hi => by have := (World.ownsRow.lt HOW3.out i hi).1; have := HGZ.out; show w.heap.size ≤ i; omega)
                 exact bodyPost_ret (v := .tuple #[.agg #[.slice b6 n6 q6, .int .i64 0], .agg #[.int .i64 v0, .int .u64 v1, .slice a bs.length c, .bool fr, .int .i64 v3], .int .i64 0]) (by simp [results, Tryd.results16, go_sem, p0, p1, z0, z1, z2, z3, z4]) rfl ⟨b6, n6, q6, _, by rw [HFIN.out], by rw [HFIN.out]; exact (show RIn W3 F b6 n6 q6 ⟨lx, 0⟩ from RAt.kept HI3.out t3 (fun i hi h => by have := HF.out i hi; omega)).no hdr, by rw [HFIN.out]; exact ⟨_, rfl, hnn.kept hdr (fun _ _ _ h => h), hv10, hv11, by show bs.length ≤ 1000; have := HBL.out; omega⟩, (HKW3.out.trans t3 (fun i hi h => by omega)).trans hdr (fun _ _ h => h)⟩)
  · have heb : (er != 0) = true := by simpa using he
    have HFIN : Hid (readC s = (⟨lx, er⟩, cf0, er)) := Lib.hid (by rw [HRS.out, if_pos he])
    clear he
    go_wp2_with fail
    go_region
    all_goals
      go_wp2_with fail
      first
        | (have hT := two12 HP6.out HQ6.out (by omega) (.slice b6 n6 q6) (.int .i64 er) (.int .i64 0) (.int .u64 0) (.slice none 0 0) (.bool false) (.int .i64 0)
           clear p0 p1 r0 r1 r2 r3 r4 f0 f1
           generalize hW3 : World.setCell _ _ _ = W3 at hT ⊢
           obtain ⟨t1, t2, t3⟩ := hT
           obtain ⟨p0, p1⟩ := cells2i t1
           obtain ⟨z0, z1, z2, z3, z4⟩ := cells5 t2
           have hdr : Kept NoB W3 W3.drew := (Kept.refl _ _).drew
           exact bodyPost_ret (v := .tuple #[.agg #[.slice b6 n6 q6, .int .i64 er], .agg #[.int .i64 0, .int .u64 0, .slice none 0 0, .bool false, .int .i64 0], .int .i64 er]) (by simp [results, Tryd.results16, go_sem, p0, p1, z0, z1, z2, z3, z4]) rfl ⟨b6, n6, q6, _, by rw [HFIN.out], by rw [HFIN.out]; exact (show RIn W3 F b6 n6 q6 ⟨lx, er⟩ from RAt.kept HIY6.out t3 (fun i hi h => by have := HF.out i hi; omega)).no hdr, by rw [HFIN.out]; exact ⟨_, rfl, NSl.nil _ _, Int.le_refl _, by show (0 : Int) ≤ topE; decide, Nat.zero_le _⟩, (HKY6.out.trans t3 (fun i hi h => by omega)).trans hdr (fun _ _ h => h)⟩)
        | (have hT := two21 HP6.out HQ6.out (by omega) (.slice b6 n6 q6) (.int .i64 er) (.int .i64 0) (.int .u64 0) (.slice none 0 0) (.bool false) (.int .i64 0)
           clear p0 p1 r0 r1 r2 r3 r4 f0 f1
           generalize hW3 : World.setCell _ _ _ = W3 at hT ⊢
           obtain ⟨t1, t2, t3⟩ := hT
           obtain ⟨p0, p1⟩ := cells2i t1
           obtain ⟨z0, z1, z2, z3, z4⟩ := cells5 t2
           have hdr : Kept NoB W3 W3.drew := (Kept.refl _ _).drew
           exact bodyPost_ret (v := .tuple #[.agg #[.slice b6 n6 q6, .int .i64 er], .agg #[.int .i64 0, .int .u64 0, .slice none 0 0, .bool false, .int .i64 0], .int .i64 er]) (by simp [results, Tryd.results16, go_sem, p0, p1, z0, z1, z2, z3, z4]) rfl ⟨b6, n6, q6, _, by rw [HFIN.out], by rw [HFIN.out]; exact (show RIn W3 F b6 n6 q6 ⟨lx, er⟩ from RAt.kept HIY6.out t3 (fun i hi h => by have := HF.out i hi; omega)).no hdr, by rw [HFIN.out]; exact ⟨_, rfl, NSl.nil _ _, Int.le_refl _, by show (0 : Int) ≤ topE; decide, Nat.zero_le _⟩, (HKY6.out.trans t3 (fun i hi h => by omega)).trans hdr (fun _ _ h => h)⟩)
end Go.Proofs.YtbdenjmnohhhiaaDoor
