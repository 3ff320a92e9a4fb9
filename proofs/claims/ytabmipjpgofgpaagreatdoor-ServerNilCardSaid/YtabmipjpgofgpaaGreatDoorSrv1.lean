/-
  Package replica: a replica in memory; New of no configuration; Tick of one that knows nobody; Conf. Package replica: copyOf, Conf, Open. Package replica: Conf; package server: New of no configuration, Tick, Node, May; the page's example. A server that is nil; the walk of ServerNil.
-/
import Derived.Test.YtabmipjpgofgpaaGreatDoorCnf3
import Derived.Test.YtabmipjpgofgpaaGreatDoorSto1
import Derived.Test.YtabmipjpgofgpaaGreatDoorWin1
import Derived.Test.YtabmipjpgofgpaaGreatDoorCrq1
import Derived.Test.YtabmipjpgofgpaaGreatDoorLtrH
import Derived.Deep.WholeRow
import Derived.Test.YtabmipjpgofgpaaGreatDoorLck1
namespace Go.Proofs.YtabmipjpgofgpaaGreatDoor
open Go.RowKit
set_option linter.unusedVariables false
set_option linter.unusedSimpArgs false

/-- What a replica's twenty-three cells hold: node, configuration, role, store, window, base, open, what Succ has, the picture that comes. -/
structure RpS where
  nd : Int
  ch : Int
  ep : Int
  gn : Value
  fr : Bool
  jn : Int
  r0 : Bool
  r1 : Bool
  r2 : Bool
  r3 : Bool
  r4 : Bool
  r5 : Int
  r6 : Int
  r7 : Int
  st : Nat
  wd : Nat
  ba : Int
  op : Bool
  kn : Bool
  gt : Int
  ou : Value
  pt : Int
  inn : Nat
def rps (x : RpS) : Array Value := #[.int .i64 x.nd, .int .i64 x.ch, .int .u64 x.ep, x.gn, .bool x.fr, .int .i64 x.jn, .bool x.r0, .bool x.r1, .bool x.r2, .bool x.r3, .bool x.r4, .int .i64 x.r5, .int .i64 x.r6, .int .i64 x.r7, .pointer (some ⟨x.st, 0, none⟩), .pointer (some ⟨x.wd, 0, none⟩), .int .u64 x.ba, .bool x.op, .bool x.kn, .int .u64 x.gt, x.ou, .int .i64 x.pt, .pointer (some ⟨x.inn, 0, none⟩)]
def RpAt (w : World) (g : Nat) (x : RpS) : Prop := w.heap[g]? = some (.cells (rps x) 139 (0, 0))
theorem RpAt.kept {S : Nat → Prop} {w w' : World} {g : Nat} {x : RpS} (h : RpAt w g x) (hk : Kept S w w') (hs : ¬ S g) : RpAt w' g x := hk.heap hs h
theorem RpAt.no {w w' : World} {g : Nat} {x : RpS} (h : RpAt w g x) (hk : Kept NoB w w') : RpAt w' g x := hk.heap (fun h => h) h
theorem RpAt.cell {w : World} {g : Nat} {x : RpS} (h : RpAt w g x) (i : Nat) : w.cell? ⟨g, i, none⟩ = (rps x)[i]? := cell_of_row _ _ i _ _ _ h
/-- One that was just made, of no configuration. -/
def rpNew (nd : Int) (st wd inn : Nat) : RpS := ⟨nd, 0, 0, .slice none 0 0, false, 0, false, false, false, false, false, 0, 0, 0, st, wd, 0, false, false, 0, .pointer none, 0, inn⟩
set_option maxRecDepth 100000 in
theorem Begin23 (w : World) : Calls Tryz.prog 71 #[] w fun e w' => (∃ k, w.heap.size ≤ k ∧ e = .returned (.pointer (some ⟨k, 0, none⟩))) ∧ Kept NoB w w' := by
  go_enter Tryz.func71, Tryz.ntmps71
  go_wp2
  go_ret
  exact ⟨⟨_, Nat.le_refl _, rfl⟩, (Kept.refl _ _).alloc _⟩
set_option maxRecDepth 100000 in
set_option maxHeartbeats 4000000 in
theorem XNew_zero (w : World) (nd : Int) (h1 : 1 ≤ nd) (h2 : nd ≤ 24) : Calls Tryz.prog 67 #[.int .i64 nd, .agg #[.int .i64 0, .int .u64 0, .slice none 0 0, .bool false, .int .i64 0]] w fun e w' => ∃ g st wd inn, e = .returned (.tuple #[.pointer (some ⟨g, 0, none⟩), .int .i64 0]) ∧ RpAt w' g (rpNew nd st wd inn) ∧ w.heap.size ≤ g ∧ Kept NoB w w' := by
  have g1 : decide (nd < 1) = false := decide_eq_false (by omega)
  have g2 : decide (nd > 24) = false := decide_eq_false (by omega)
  have g3 : decide ((24 : Int) < nd) = false := g2
  have hc := heap_alloc_new w (.cells #[.int .i64 0, .int .u64 0, .slice none 0 0, .bool false, .int .i64 0] 63 (0, 0))
  have HK0 := Lib.hid ((Kept.refl NoB w).alloc (.cells #[.int .i64 0, .int .u64 0, .slice none 0 0, .bool false, .int .i64 0] 63 (0, 0)))
  have HC := Lib.hid hc
  clear h1 h2 hc
  go_enter Tryz.func67, Tryz.ntmps67
  go_wp2_with fail
  refine (TNew_any _).mono ?_
  rintro e w1 ⟨st, bm, t, rfl, _, _, _, _, hk1⟩
  have HK1 := Lib.hid (HK0.out.trans hk1 (fun _ _ h => h))
  have HC1 := Lib.hid (hk1.heap (fun h => h) HC.out)
  clear hk1
  go_wp2_with fail
  refine (WNew_any _ 0 (by omega)).mono ?_
  rintro e w2 ⟨rfl, _, hk2⟩
  have HK2 := Lib.hid (HK1.out.trans hk2 (fun _ _ h => h))
  have HC2 := Lib.hid (hk2.heap (fun h => h) HC1.out)
  clear hk2
  go_wp2_with fail
  refine (Begin23 _).mono ?_
  rintro e w3 ⟨⟨inn, _, rfl⟩, hk3⟩
  have HK3 := Lib.hid (HK2.out.trans hk3 (fun _ _ h => h))
  have hc3 := hk3.heap (fun h => h) HC2.out
  have HC3 := Lib.hid (blkU_alloc hc3 (.cells (rps (rpNew nd st w1.heap.size inn)) 139 (0, 0)))
  have HR3 := Lib.hid (heap_alloc_new w3 (.cells (rps (rpNew nd st w1.heap.size inn)) 139 (0, 0)))
  have HK4 := Lib.hid (HK3.out.alloc (.cells (rps (rpNew nd st w1.heap.size inn)) 139 (0, 0)))
  have HSZ := Lib.hid HK3.out.size
  clear hk3 hc3
  unfold rps rpNew at HC3 HR3 HK4
  simp only at HC3 HR3 HK4
  have c0 := cell_of_row _ _ 0 _ _ _ HC3.out
  have c1 := cell_of_row _ _ 1 _ _ _ HC3.out
  have c2 := cell_of_row _ _ 2 _ _ _ HC3.out
  have c3 := cell_of_row _ _ 3 _ _ _ HC3.out
  have c4 := cell_of_row _ _ 4 _ _ _ HC3.out
  unfold pw
  go_wp2_with fail
  refine (confSame_zero _).mono ?_
  rintro e w4 ⟨rfl, hk4⟩
  have HK5 := Lib.hid (HK4.out.trans hk4 (fun _ _ h => h))
  have HR4 := Lib.hid (hk4.heap (fun h => h) HR3.out)
  clear hk4 c0 c1 c2 c3 c4
  go_wp2
  go_ret2
  exact ⟨w3.heap.size, st, w1.heap.size, inn, rfl, HR4.out, HSZ.out, HK5.out⟩
/-- A replica that does not know what Succ has, and has none, awaits. -/
theorem cells23 {w : World} {g : Nat} {nd st wd inn : Nat} {n : Int} (h : RpAt w g (rpNew n st wd inn)) :
    w.cell? ⟨g, 0, none⟩ = some (.int .i64 n) ∧ w.cell? ⟨g, 1, none⟩ = some (.int .i64 0) ∧ w.cell? ⟨g, 2, none⟩ = some (.int .u64 0) ∧ w.cell? ⟨g, 3, none⟩ = some (.slice none 0 0) ∧ w.cell? ⟨g, 4, none⟩ = some (.bool false) ∧ w.cell? ⟨g, 5, none⟩ = some (.int .i64 0) ∧
    w.cell? ⟨g, 6, none⟩ = some (.bool false) ∧ w.cell? ⟨g, 7, none⟩ = some (.bool false) ∧ w.cell? ⟨g, 8, none⟩ = some (.bool false) ∧ w.cell? ⟨g, 9, none⟩ = some (.bool false) ∧ w.cell? ⟨g, 10, none⟩ = some (.bool false) ∧ w.cell? ⟨g, 11, none⟩ = some (.int .i64 0) ∧ w.cell? ⟨g, 12, none⟩ = some (.int .i64 0) ∧ w.cell? ⟨g, 13, none⟩ = some (.int .i64 0) ∧
    w.cell? ⟨g, 17, none⟩ = some (.bool false) ∧ w.cell? ⟨g, 18, none⟩ = some (.bool false) ∧ w.cell? ⟨g, 19, none⟩ = some (.int .u64 0) :=
  ⟨h.cell 0, h.cell 1, h.cell 2, h.cell 3, h.cell 4, h.cell 5, h.cell 6, h.cell 7, h.cell 8, h.cell 9, h.cell 10, h.cell 11, h.cell 12, h.cell 13, h.cell 17, h.cell 18, h.cell 19⟩
set_option maxRecDepth 100000 in
theorem XAwaited_new (w : World) (g : Nat) (n : Int) (st wd inn : Nat) (h : RpAt w g (rpNew n st wd inn)) : Calls Tryz.prog 75 #[.pointer (some ⟨g, 0, none⟩)] w (YesNoK true w) := by
  obtain ⟨c0, c1, c2, c3, c4, c5, c6, c7, c8, c9, c10, c11, c12, c13, c17, c18, c19⟩ := cells23 (nd := 0) h
  clear h
  go_enter Tryz.func75, Tryz.ntmps75
  go_wp2_with fail
  go_quiet (fail)
  go_wp2
  go_ret
  exact ⟨rfl, (Kept.refl _ _).drewN _⟩
set_option maxRecDepth 100000 in
theorem XPassOn_new (w : World) (g : Nat) (n : Int) (st wd inn : Nat) (h : RpAt w g (rpNew n st wd inn)) : Calls Tryz.prog 76 #[.pointer (some ⟨g, 0, none⟩)] w fun e w' => e = .returned (.slice none 0 0) ∧ Kept NoB w w' := by
  obtain ⟨c0, c1, c2, c3, c4, c5, c6, c7, c8, c9, c10, c11, c12, c13, c17, c18, c19⟩ := cells23 (nd := 0) h
  clear h
  go_enter Tryz.func76, Tryz.ntmps76
  go_wp2
  go_ret
  exact ⟨rfl, Kept.refl _ _⟩
set_option maxRecDepth 100000 in
theorem XTick_new (w : World) (g : Nat) (n : Int) (st wd inn : Nat) (h : RpAt w g (rpNew n st wd inn)) : Calls Tryz.prog 25 #[.pointer (some ⟨g, 0, none⟩)] w fun e w' => e = .returned (.slice none 0 0) ∧ Kept NoB w w' := by
  have HA := Lib.hid (XAwaited_new w g n st wd inn h)
  have HP := Lib.hid (fun w' (hk : Kept NoB w w') => XPassOn_new w' g n st wd inn (h.no hk))
  clear h
  go_enter Tryz.func25, Tryz.ntmps25
  go_wp2_with fail
  refine HA.out.mono ?_
  rintro e w1 ⟨rfl, hk1⟩
  have HK1 := Lib.hid hk1
  clear hk1
  go_wp2_with fail
  refine (HP.out w1 HK1.out).mono ?_
  rintro e w2 ⟨rfl, hk2⟩
  have HK2 := Lib.hid (HK1.out.trans hk2 (fun _ _ h => h))
  clear hk2
  go_wp2
  go_ret
  exact ⟨rfl, HK2.out⟩
theorem cells8s {w : World} {b : Nat} {x0 x1 x2 x3 x4 x5 x6 x7 : Value} {t : TypeId} (h : w.heap[b]? = some (.cells #[x0, x1, x2, x3, x4, x5, x6, x7] t (0, 0))) :
    w.cell? ⟨b, 0, none⟩ = some x0 ∧ w.cell? ⟨b, 1, none⟩ = some x1 ∧ w.cell? ⟨b, 2, none⟩ = some x2 ∧ w.cell? ⟨b, 3, none⟩ = some x3 ∧ w.cell? ⟨b, 4, none⟩ = some x4 ∧ w.cell? ⟨b, 5, none⟩ = some x5 ∧ w.cell? ⟨b, 6, none⟩ = some x6 ∧ w.cell? ⟨b, 7, none⟩ = some x7 :=
  ⟨cell_of_row _ _ 0 _ _ _ h, cell_of_row _ _ 1 _ _ _ h, cell_of_row _ _ 2 _ _ _ h, cell_of_row _ _ 3 _ _ _ h, cell_of_row _ _ 4 _ _ _ h, cell_of_row _ _ 5 _ _ _ h, cell_of_row _ _ 6 _ _ _ h, cell_of_row _ _ 7 _ _ _ h⟩
set_option maxRecDepth 100000 in
set_option maxHeartbeats 1000000 in
theorem XRole_any (w : World) (g : Nat) (x : RpS) (r0 r1 r2 r3 r4 : Bool) (r5 r6 r7 : Int) (e0 : x.r0 = r0) (e1 : x.r1 = r1) (e2 : x.r2 = r2) (e3 : x.r3 = r3) (e4 : x.r4 = r4) (e5 : x.r5 = r5) (e6 : x.r6 = r6) (e7 : x.r7 = r7) (h : RpAt w g x) : Calls Tryz.prog 28 #[.pointer (some ⟨g, 0, none⟩)] w fun e w' => e = .returned (.agg #[.bool r0, .bool r1, .bool r2, .bool r3, .bool r4, .int .i64 r5, .int .i64 r6, .int .i64 r7]) ∧ Kept NoB w w' := by
  obtain ⟨W, hW⟩ : ∃ W, W = w.alloc (.cells #[.bool false, .bool false, .bool false, .bool false, .bool false, .int .i64 0, .int .i64 0, .int .i64 0] 82 (0, 0)) := ⟨_, rfl⟩
  have hk0 : Kept NoB w W := by rw [hW]; exact (Kept.refl NoB w).alloc _
  have hz : W.heap[w.heap.size]? = some (.cells #[.bool false, .bool false, .bool false, .bool false, .bool false, .int .i64 0, .int .i64 0, .int .i64 0] 82 (0, 0)) := by rw [hW]; exact heap_alloc_new w _
  have hsr : W.setRow w.heap.size #[.bool r0, .bool r1, .bool r2, .bool r3, .bool r4, .int .i64 r5, .int .i64 r6, .int .i64 r7] = w.alloc (.cells #[.bool r0, .bool r1, .bool r2, .bool r3, .bool r4, .int .i64 r5, .int .i64 r6, .int .i64 r7] 82 (0, 0)) := by rw [hW]; exact World.setRow_alloc_new w #[.bool false, .bool false, .bool false, .bool false, .bool false, .int .i64 0, .int .i64 0, .int .i64 0] #[.bool r0, .bool r1, .bool r2, .bool r3, .bool r4, .int .i64 r5, .int .i64 r6, .int .i64 r7] 82
  have hw := h.no hk0
  have c6 : W.cell? ⟨g, 6, none⟩ = some (.bool r0) := by rw [← e0]; exact hw.cell 6
  have c7 : W.cell? ⟨g, 7, none⟩ = some (.bool r1) := by rw [← e1]; exact hw.cell 7
  have c8 : W.cell? ⟨g, 8, none⟩ = some (.bool r2) := by rw [← e2]; exact hw.cell 8
  have c9 : W.cell? ⟨g, 9, none⟩ = some (.bool r3) := by rw [← e3]; exact hw.cell 9
  have c10 : W.cell? ⟨g, 10, none⟩ = some (.bool r4) := by rw [← e4]; exact hw.cell 10
  have c11 : W.cell? ⟨g, 11, none⟩ = some (.int .i64 r5) := by rw [← e5]; exact hw.cell 11
  have c12 : W.cell? ⟨g, 12, none⟩ = some (.int .i64 r6) := by rw [← e6]; exact hw.cell 12
  have c13 : W.cell? ⟨g, 13, none⟩ = some (.int .i64 r7) := by rw [← e7]; exact hw.cell 13
  have HW := Lib.hid hW
  have HZ := Lib.hid hz
  have HSR := Lib.hid hsr
  have hone : (#[.bool r0, .bool r1, .bool r2, .bool r3, .bool r4, .int .i64 r5, .int .i64 r6, .int .i64 r7] : Array Value).all (·.oneCell') = true := by rw [← Array.all_toList]; rfl
  have HONE := Lib.hid hone
  clear h hw hz hk0 hW hsr hone e0 e1 e2 e3 e4 e5 e6 e7
  go_enter Tryz.func28, Tryz.ntmps28
  go_upto_region 1 with fail
  rw [← HW.out]
  go_wp2_with (refine wpList_store_row rfl 82 _ _ rfl w.heap.size #[.bool r0, .bool r1, .bool r2, .bool r3, .bool r4, .int .i64 r5, .int .i64 r6, .int .i64 r7] rfl rfl 82 #[.bool false, .bool false, .bool false, .bool false, .bool false, .int .i64 0, .int .i64 0, .int .i64 0] HZ.out (by kernel_rfl) rfl HONE.out ?_; rw [HSR.out])
  have hS := heap_alloc_new w (.cells #[.bool r0, .bool r1, .bool r2, .bool r3, .bool r4, .int .i64 r5, .int .i64 r6, .int .i64 r7] 82 (0, 0))
  have hK := (Kept.refl NoB w).alloc (.cells #[.bool r0, .bool r1, .bool r2, .bool r3, .bool r4, .int .i64 r5, .int .i64 r6, .int .i64 r7] 82 (0, 0))
  clear c6 c7 c8 c9 c10 c11 c12 c13
  obtain ⟨z0, z1, z2, z3, z4, z5, z6, z7⟩ := cells8s hS
  clear hS
  generalize World.alloc _ _ = W3 at z0 z1 z2 z3 z4 z5 z6 z7 hK ⊢
  exact bodyPost_ret (v := .agg #[.bool r0, .bool r1, .bool r2, .bool r3, .bool r4, .int .i64 r5, .int .i64 r6, .int .i64 r7]) (by simp [results, Tryz.results28, go_sem, z0, z1, z2, z3, z4, z5, z6, z7]) rfl ⟨rfl, hK⟩
end Go.Proofs.YtabmipjpgofgpaaGreatDoor
namespace Go.Proofs.YtabmipjpgofgpaaGreatDoor
open Go.RowKit
set_option linter.unusedVariables false
set_option linter.unusedSimpArgs false

theorem cells5s {w : World} {b : Nat} {x0 x1 x2 x3 x4 : Value} {t : TypeId} (h : w.heap[b]? = some (.cells #[x0, x1, x2, x3, x4] t (0, 0))) :
    w.cell? ⟨b, 0, none⟩ = some x0 ∧ w.cell? ⟨b, 1, none⟩ = some x1 ∧ w.cell? ⟨b, 2, none⟩ = some x2 ∧ w.cell? ⟨b, 3, none⟩ = some x3 ∧ w.cell? ⟨b, 4, none⟩ = some x4 :=
  ⟨cell_of_row _ _ 0 _ _ _ h, cell_of_row _ _ 1 _ _ _ h, cell_of_row _ _ 2 _ _ _ h, cell_of_row _ _ 3 _ _ _ h, cell_of_row _ _ 4 _ _ _ h⟩
theorem Kept.setRow23 (w : World) (g : Nat) (cs : Array Value) : Kept (fun k => k = g) w (w.setRow g cs) :=
  ⟨rfl, rfl, rfl, Nat.le_of_eq (by simp), fun i _ hs => setRow_other w g i cs hs⟩
theorem setRow23_at {w : World} {g : Nat} {cs cs' : Array Value} {t : TypeId} (h : w.heap[g]? = some (.cells cs t (0, 0))) : (w.setRow g cs').heap[g]? = some (.cells cs' t (0, 0)) := setRow_heap w g cs cs' t _ h
set_option maxRecDepth 100000 in
set_option maxHeartbeats 2000000 in
theorem CopyOf23 (w : World) (cv : Value) (c : Cf) (F : Nat → Prop) (h : CfV w F cv c) : Calls Tryz.prog 78 #[cv] w fun e w' => ∃ v, e = .returned v ∧ CfV w' (fun k => w.heap.size ≤ k) v c ∧ Kept NoB w w' := by
  obtain ⟨u, rfl, hn, hp0, hp1, hl⟩ := h
  obtain ⟨na, nc, rfl, hn1, hn2, hn3⟩ := id hn
  obtain ⟨e0, e1, e2, e3, e4⟩ := c
  simp only at hn hp0 hp1 hl hn1 hn2 hn3 ⊢
  obtain ⟨W, hW⟩ : ∃ W, W = ((w.alloc (.cells #[.int .i64 e0, .int .u64 e1, .slice na e2.length nc, .bool e3, .int .i64 e4] 63 (0, 0))).alloc (.cells #[.int .i64 0, .int .u64 0, .slice none 0 0, .bool false, .int .i64 0] 63 (0, 0))).alloc (.cells #[.int .i64 e0, .int .u64 e1, .slice na e2.length nc, .bool e3, .int .i64 e4] 63 (0, 0)) := ⟨_, rfl⟩
  have hk0 : Kept NoB w W := by rw [hW]; exact (((Kept.refl NoB w).alloc _).alloc _).alloc _
  have s1 : (w.alloc (.cells #[.int .i64 e0, .int .u64 e1, .slice na e2.length nc, .bool e3, .int .i64 e4] 63 (0, 0))).heap.size = w.heap.size + 1 := by simp
  have s2 : ((w.alloc (.cells #[.int .i64 e0, .int .u64 e1, .slice na e2.length nc, .bool e3, .int .i64 e4] 63 (0, 0))).alloc (.cells #[.int .i64 0, .int .u64 0, .slice none 0 0, .bool false, .int .i64 0] 63 (0, 0))).heap.size = w.heap.size + 1 + 1 := by simp
  have h2 : W.heap[w.heap.size + 1]? = some (.cells #[.int .i64 0, .int .u64 0, .slice none 0 0, .bool false, .int .i64 0] 63 (0, 0)) := by
    have := blkU_alloc (heap_alloc_new (w.alloc (.cells #[.int .i64 e0, .int .u64 e1, .slice na e2.length nc, .bool e3, .int .i64 e4] 63 (0, 0))) (.cells #[.int .i64 0, .int .u64 0, .slice none 0 0, .bool false, .int .i64 0] 63 (0, 0))) (.cells #[.int .i64 e0, .int .u64 e1, .slice na e2.length nc, .bool e3, .int .i64 e4] 63 (0, 0))
    rw [s1] at this
    rw [hW]; exact this
  have h3 : W.heap[w.heap.size + 1 + 1]? = some (.cells #[.int .i64 e0, .int .u64 e1, .slice na e2.length nc, .bool e3, .int .i64 e4] 63 (0, 0)) := by
    have := heap_alloc_new ((w.alloc (.cells #[.int .i64 e0, .int .u64 e1, .slice na e2.length nc, .bool e3, .int .i64 e4] 63 (0, 0))).alloc (.cells #[.int .i64 0, .int .u64 0, .slice none 0 0, .bool false, .int .i64 0] 63 (0, 0))) (.cells #[.int .i64 e0, .int .u64 e1, .slice na e2.length nc, .bool e3, .int .i64 e4] 63 (0, 0))
    rw [s2] at this
    rw [hW]; exact this
  have hcs : CfsAt W (fun _ => True) (.slice (some ⟨w.heap.size + 1 + 1, 0, none⟩) 1 1) [⟨e0, e1, e2, e3, e4⟩] := by
    obtain ⟨q0, q1, q2, q3, q4⟩ := cells5s h3
    refine ⟨_, 1, rfl, Nat.le_refl _, by decide, (fun h => by cases h), fun _ => ⟨_, 0, rfl, trivial, heap_lt h3, fun j hj => ?_⟩⟩
    have hj : j = 0 := by simpa using hj
    subst hj
    exact ⟨_, q0, q1, q2, q3, q4, (hn.kept hk0 (fun _ _ _ h => h)).mono (fun _ _ _ => trivial), hp0, hp1, hl⟩
  have HCP := Lib.hid (Copy_any _ _ W (fun _ => True) hcs (by simp))
  have H2 := Lib.hid h2
  have HK0 := Lib.hid hk0
  have HSW : Hid (W.heap.size = w.heap.size + 3) := Lib.hid (by rw [hW]; simp)
  have HW := Lib.hid hW
  clear hn hn1 hn2 hn3 hp0 hp1 hl h2 h3 hcs hW hk0 s1 s2
  go_enter Tryz.func78, Tryz.ntmps78
  go_wp2_with fail
  rw [← HW.out]
  refine HCP.out.mono ?_
  rintro e w1 ⟨hk1, ⟨hh, _⟩ | ⟨r, cap, us, rfl, hr, hrow, hown⟩⟩
  · cases hh
  · have HK1 := Lib.hid (HK0.out.trans hk1 (fun _ _ h => h))
    have hz := hk1.heap (fun h => h) H2.out
    have HZ := Lib.hid hz
    have HSZ := Lib.hid (HK0.out.size)
    have HO := Lib.hid (hown.1 0 (by simp))
    have hrne : ¬ r = w.heap.size + 1 := by
      intro he
      obtain ⟨_, h9, _⟩ := id hrow
      have := heap_lt H2.out
      omega
    obtain ⟨ua, uc, hu⟩ := (hown.1 0 (by simp)).1.form
    have k0 := (hrow.cell (m := 0) (by simp)).1
    have k1 := (hrow.cell (m := 1) (by simp)).1
    have k2 := (hrow.cell (m := 2) (by simp)).1
    have k3 := (hrow.cell (m := 3) (by simp)).1
    have k4 := (hrow.cell (m := 4) (by simp)).1
    have v0 : cellC [⟨e0, e1, e2, e3, e4⟩] us 0 = .int .i64 e0 := rfl
    have v1 : cellC [⟨e0, e1, e2, e3, e4⟩] us 1 = .int .u64 e1 := rfl
    have v2 : cellC [⟨e0, e1, e2, e3, e4⟩] us 2 = us 0 := rfl
    have v3 : cellC [⟨e0, e1, e2, e3, e4⟩] us 3 = .bool e3 := rfl
    have v4 : cellC [⟨e0, e1, e2, e3, e4⟩] us 4 = .int .i64 e4 := rfl
    have e2n : (nthC [⟨e0, e1, e2, e3, e4⟩] 0).ns = e2 := rfl
    rw [e2n] at hu
    rw [v0] at k0
    rw [v1] at k1
    rw [v2, hu] at k2
    rw [v3] at k3
    rw [v4] at k4
    have HU := Lib.hid hu
    have hone : (#[.int .i64 e0, .int .u64 e1, .slice ua e2.length uc, .bool e3, .int .i64 e4] : Array Value).all (·.oneCell') = true := by rw [← Array.all_toList]; rfl
    have HONE := Lib.hid hone
    have HRK : Hid (Kept (fun k => k = w.heap.size + 1) w1 (w1.setRow (w.heap.size + 1) #[.int .i64 e0, .int .u64 e1, .slice ua e2.length uc, .bool e3, .int .i64 e4])) := Lib.hid (Kept.setRow23 _ _ _)
    have HRR : Hid ((w1.setRow (w.heap.size + 1) #[.int .i64 e0, .int .u64 e1, .slice ua e2.length uc, .bool e3, .int .i64 e4]).heap[w.heap.size + 1]? = some (.cells #[.int .i64 e0, .int .u64 e1, .slice ua e2.length uc, .bool e3, .int .i64 e4] 63 (0, 0))) := Lib.hid (setRow23_at hz)
    clear hk1 hrow hown hz hone hu v0 v1 v2 v3 v4 e2n hr
    go_wp2_with (refine wpList_store_row rfl 63 _ _ rfl (w.heap.size + 1) #[.int .i64 e0, .int .u64 e1, .slice ua e2.length uc, .bool e3, .int .i64 e4] rfl rfl 63 #[.int .i64 0, .int .u64 0, .slice none 0 0, .bool false, .int .i64 0] HZ.out (by kernel_rfl) rfl HONE.out ?_)
    have hS := HRR.out
    have hK := HRK.out
    clear k0 k1 k2 k3 k4
    obtain ⟨z0, z1, z2, z3, z4⟩ := cells5s hS
    clear hS
    generalize World.setRow _ _ _ = W3 at z0 z1 z2 z3 z4 hK ⊢
    refine bodyPost_ret (v := .agg #[.int .i64 e0, .int .u64 e1, .slice ua e2.length uc, .bool e3, .int .i64 e4]) (by simp [results, Tryz.results78, go_sem, z0, z1, z2, z3, z4]) rfl ⟨_, rfl, ⟨_, rfl, ?_, HO.out.2⟩, HK1.out.trans hK (fun i hi h => by omega)⟩
    have h0 := HO.out.1.nslB
    rw [HU.out] at h0
    exact (h0.kept hK (fun k _ hk he => by have := HSW.out; omega)).mono (fun k _ hk => by have := HSW.out; omega)
end Go.Proofs.YtabmipjpgofgpaaGreatDoor
namespace Go.Proofs.YtabmipjpgofgpaaGreatDoor
open Go.RowKit
set_option linter.unusedVariables false
set_option linter.unusedSimpArgs false

set_option maxRecDepth 100000 in
set_option maxHeartbeats 2000000 in
theorem XConf_any (w : World) (g : Nat) (x : RpS) (e0 e1 : Int) (na : Option Addr) (nc : Nat) (e2 : List Int) (e3 : Bool) (e4 : Int) (H : Nat → Prop) (q0 : x.ch = e0) (q1 : x.ep = e1) (q2 : x.gn = .slice na e2.length nc) (q3 : x.fr = e3) (q4 : x.jn = e4)
    (hn : NSl w H (.slice na e2.length nc) e2) (h0 : 0 ≤ e1) (h1 : e1 ≤ topE) (hl : e2.length ≤ 1000) (h : RpAt w g x) : Calls Tryz.prog 27 #[.pointer (some ⟨g, 0, none⟩)] w fun e w' => ∃ v, e = .returned v ∧ CfV w' (fun k => w.heap.size ≤ k) v ⟨e0, e1, e2, e3, e4⟩ ∧ Kept NoB w w' := by
  obtain ⟨W, hW⟩ : ∃ W, W = w.alloc (.cells #[.int .i64 0, .int .u64 0, .slice none 0 0, .bool false, .int .i64 0] 63 (0, 0)) := ⟨_, rfl⟩
  have hk0 : Kept NoB w W := by rw [hW]; exact (Kept.refl NoB w).alloc _
  have hz : W.heap[w.heap.size]? = some (.cells #[.int .i64 0, .int .u64 0, .slice none 0 0, .bool false, .int .i64 0] 63 (0, 0)) := by rw [hW]; exact heap_alloc_new w _
  have hw := h.no hk0
  have c1 : W.cell? ⟨g, 1, none⟩ = some (.int .i64 e0) := by rw [← q0]; exact hw.cell 1
  have c2 : W.cell? ⟨g, 2, none⟩ = some (.int .u64 e1) := by rw [← q1]; exact hw.cell 2
  have c3 : W.cell? ⟨g, 3, none⟩ = some (.slice na e2.length nc) := by rw [← q2]; exact hw.cell 3
  have c4 : W.cell? ⟨g, 4, none⟩ = some (.bool e3) := by rw [← q3]; exact hw.cell 4
  have c5 : W.cell? ⟨g, 5, none⟩ = some (.int .i64 e4) := by rw [← q4]; exact hw.cell 5
  have HC := Lib.hid (CopyOf23 W (.agg #[.int .i64 e0, .int .u64 e1, .slice na e2.length nc, .bool e3, .int .i64 e4]) ⟨e0, e1, e2, e3, e4⟩ H ⟨_, rfl, hn.kept hk0 (fun _ _ _ h => h), h0, h1, hl⟩)
  have HSW : Hid (W.heap.size = w.heap.size + 1) := Lib.hid (by rw [hW]; simp)
  have HZ := Lib.hid hz
  have HK0 := Lib.hid hk0
  have HW := Lib.hid hW
  clear hz hk0 hW hw h hn h0 h1 hl q0 q1 q2 q3 q4
  go_enter Tryz.func27, Tryz.ntmps27
  go_upto_region 1 with fail
  rw [← HW.out]
  go_wp2_with fail
  refine HC.out.mono ?_
  rintro e w1 ⟨v, rfl, ⟨u, rfl, hu, hr⟩, hk1⟩
  obtain ⟨ua, uc, rfl, _⟩ := id hu
  simp only at hr hu
  have HU := Lib.hid hu
  have HR := Lib.hid hr
  have HK1 := Lib.hid (HK0.out.trans hk1 (fun _ _ h => h))
  have hz := hk1.heap (fun h => h) HZ.out
  have HZ1 := Lib.hid hz
  have hone : (#[.int .i64 e0, .int .u64 e1, .slice ua e2.length uc, .bool e3, .int .i64 e4] : Array Value).all (·.oneCell') = true := by rw [← Array.all_toList]; rfl
  have HONE := Lib.hid hone
  have HRK : Hid (Kept (fun k => k = w.heap.size) w1 (w1.setRow w.heap.size #[.int .i64 e0, .int .u64 e1, .slice ua e2.length uc, .bool e3, .int .i64 e4])) := Lib.hid (Kept.setRow23 _ _ _)
  have HRR : Hid ((w1.setRow w.heap.size #[.int .i64 e0, .int .u64 e1, .slice ua e2.length uc, .bool e3, .int .i64 e4]).heap[w.heap.size]? = some (.cells #[.int .i64 e0, .int .u64 e1, .slice ua e2.length uc, .bool e3, .int .i64 e4] 63 (0, 0))) := Lib.hid (setRow23_at hz)
  clear hk1 hz hone hu hr c1 c2 c3 c4 c5
  go_wp2_with (refine wpList_store_row rfl 63 _ _ rfl w.heap.size #[.int .i64 e0, .int .u64 e1, .slice ua e2.length uc, .bool e3, .int .i64 e4] rfl rfl 63 #[.int .i64 0, .int .u64 0, .slice none 0 0, .bool false, .int .i64 0] HZ1.out (by kernel_rfl) rfl HONE.out ?_)
  have hS := HRR.out
  have hK := HRK.out
  obtain ⟨z0, z1, z2, z3, z4⟩ := cells5s hS
  clear hS
  generalize World.setRow _ _ _ = W3 at z0 z1 z2 z3 z4 hK ⊢
  refine bodyPost_ret (v := .agg #[.int .i64 e0, .int .u64 e1, .slice ua e2.length uc, .bool e3, .int .i64 e4]) (by simp [results, Tryz.results27, go_sem, z0, z1, z2, z3, z4]) rfl ⟨_, rfl, ⟨_, rfl, ?_, HR.out⟩, HK1.out.trans hK (fun i hi h => by omega)⟩
  exact (HU.out.kept hK (fun k _ hk he => by have := HSW.out; omega)).mono (fun k _ hk => by have := HSW.out; omega)
/-- A server in memory. -/
def SvAt (w : World) (s : Nat) (nd ms tk : Int) (g q : Nat) : Prop := w.heap[s]? = some (.cells #[.int .i64 nd, .int .i64 ms, .int .i64 tk, .pointer (some ⟨g, 0, none⟩), .pointer (some ⟨q, 0, none⟩)] 149 (0, 0))
theorem SvAt.kept {S : Nat → Prop} {w w' : World} {s : Nat} {nd ms tk : Int} {g q : Nat} (h : SvAt w s nd ms tk g q) (hk : Kept S w w') (hs : ¬ S s) : SvAt w' s nd ms tk g q := hk.heap hs h
theorem SvAt.no {w w' : World} {s : Nat} {nd ms tk : Int} {g q : Nat} (h : SvAt w s nd ms tk g q) (hk : Kept NoB w w') : SvAt w' s nd ms tk g q := hk.heap (fun h => h) h
set_option maxRecDepth 100000 in
set_option maxHeartbeats 2000000 in
theorem SNew_zero (w : World) (nd : Int) (h1 : 1 ≤ nd) (h2 : nd ≤ 24) : Calls Tryz.prog 36 #[.int .i64 nd, .int .i64 3, .agg #[.int .i64 0, .int .u64 0, .slice none 0 0, .bool false, .int .i64 0]] w fun e w' => ∃ s g st wd inn q, e = .returned (.tuple #[.pointer (some ⟨s, 0, none⟩), .int .i64 0]) ∧ SvAt w' s nd 3 0 g q ∧ RpAt w' g (rpNew nd st wd inn) ∧ w.heap.size ≤ g ∧ g < s ∧ Kept NoB w w' := by
  have HX := Lib.hid (fun w' => XNew_zero w' nd h1 h2)
  have HK0 := Lib.hid ((Kept.refl NoB w).alloc (.cells #[.int .i64 0, .int .u64 0, .slice none 0 0, .bool false, .int .i64 0] 63 (0, 0)))
  clear h1 h2
  go_enter Tryz.func36, Tryz.ntmps36
  go_wp2_with fail
  refine (HX.out _).mono ?_
  rintro e w1 ⟨g, st, wd, inn, rfl, hr, hg, hk1⟩
  have HK1 := Lib.hid (HK0.out.trans hk1 (fun _ _ h => h))
  have HR1 := Lib.hid hr
  have HG : Hid (w.heap.size ≤ g) := Lib.hid (by have := HK0.out.size; omega)
  clear hk1 hr hg
  go_wp2_with fail
  refine (QNew_any _).mono ?_
  rintro e w2 ⟨rfl, _, hw2⟩
  have hk2 : Kept NoB w1 w2 := by rw [hw2]; exact (Kept.refl NoB w1).alloc _
  have HK2 := Lib.hid (HK1.out.trans hk2 (fun _ _ h => h))
  have HR2 := Lib.hid (HR1.out.no hk2)
  clear hk2 hw2
  go_wp2
  go_ret2
  exact ⟨w2.heap.size, g, st, wd, inn, w1.heap.size, rfl, heap_alloc_new w2 _, HR2.out.no ((Kept.refl NoB w2).alloc _), HG.out, heap_lt HR2.out, HK2.out.alloc _⟩
set_option maxRecDepth 100000 in
set_option maxHeartbeats 2000000 in
theorem STick_new (w : World) (s : Nat) (nd ms tk : Int) (g q : Nat) (n : Int) (st wd inn : Nat) (hs : SvAt w s nd ms tk g q) (h : RpAt w g (rpNew n st wd inn)) (hgs : ¬ g = s) (t0 : 0 ≤ tk) (t1 : tk ≤ 1000) (dn : Value) : Calls Tryz.prog 42 #[.pointer (some ⟨s, 0, none⟩), dn] w fun e w' => e = .returned (.slice none 0 0) ∧ Kept (fun k => k = s) w w' ∧ SvAt w' s nd ms (tk + 1) g q := by
  have hs' : SvAt (w.setCell ⟨s, 2, none⟩ (.int .i64 (tk + 1))) s nd ms (tk + 1) g q := blkU_set hs 2 (.int .i64 (tk + 1))
  have hk0 : Kept (fun k => k = s) w (w.setCell ⟨s, 2, none⟩ (.int .i64 (tk + 1))) := (Kept.refl (fun k => k = s) w).setCell (p := ⟨s, 2, none⟩) (.inl rfl) _
  obtain ⟨W, hW⟩ : ∃ W, W = w.setCell ⟨s, 2, none⟩ (.int .i64 (tk + 1)) := ⟨_, rfl⟩
  rw [← hW] at hs' hk0
  have HR := Lib.hid (h.kept hk0 hgs)
  have HS := Lib.hid hs'
  have HK0 := Lib.hid hk0
  have HW := Lib.hid hW
  obtain ⟨p0, p1, p2, p3, p4⟩ := cells5s hs
  have zf := blkU_frozen hs
  have HTK := Lib.hid (fun w' (hk : Kept NoB W w') => XTick_new w' g n st wd inn (HR.out.no hk))
  have HCF := Lib.hid (fun w' (hk : Kept NoB W w') => XConf_any w' g (rpNew n st wd inn) 0 0 none 0 [] false 0 NoB rfl rfl rfl rfl rfl (NSl.nil _ _) (by decide) (by unfold topE; decide) (by decide) (HR.out.no hk))
  have HTEN : Hid (∀ w', Kept NoB W w' → w'.cell? ⟨s, 0, none⟩ = some (.int .i64 nd) ∧ w'.cell? ⟨s, 1, none⟩ = some (.int .i64 ms) ∧ w'.cell? ⟨s, 2, none⟩ = some (.int .i64 (tk + 1)) ∧ w'.cell? ⟨s, 3, none⟩ = some (.pointer (some ⟨g, 0, none⟩)) ∧ w'.cell? ⟨s, 4, none⟩ = some (.pointer (some ⟨q, 0, none⟩))) := Lib.hid (fun w' hk => cells5s (HS.out.no hk))
  clear hs hs' h hk0 hW hgs
  go_enter Tryz.func42, Tryz.ntmps42
  go_upto_region 4 with fail
  rw [← HW.out]
  clear p0 p1 p2 p3 p4 zf
  obtain ⟨p0, p1, p2, p3, p4⟩ := HTEN.out W (Kept.refl _ _)
  go_wp2_with fail
  refine (HTK.out W (Kept.refl _ _)).mono ?_
  rintro e w1 ⟨rfl, hk1⟩
  have HK1 := Lib.hid hk1
  clear hk1 p0 p1 p2 p3 p4
  obtain ⟨p0, p1, p2, p3, p4⟩ := HTEN.out w1 HK1.out
  go_wp2_with fail
  refine (HCF.out w1 HK1.out).mono ?_
  rintro e w2 ⟨v, rfl, ⟨u, rfl, hu, _⟩, hk2⟩
  obtain ⟨ua, uc, rfl, _⟩ := id hu
  have HK2 := Lib.hid (HK1.out.trans hk2 (fun _ _ h => h))
  clear hk2 hu p0 p1 p2 p3 p4
  go_wp2
  go_ret
  exact ⟨rfl, HK0.out.trans (HK2.out.alloc _) (fun _ _ h => h.elim), HS.out.no (HK2.out.alloc _)⟩
set_option maxRecDepth 100000 in
theorem SNode_any (w : World) (s : Nat) (nd ms tk : Int) (g q : Nat) (hs : SvAt w s nd ms tk g q) : Calls Tryz.prog 44 #[.pointer (some ⟨s, 0, none⟩)] w fun e w' => e = .returned (.int .i64 nd) ∧ w = w' := by
  obtain ⟨p0, p1, p2, p3, p4⟩ := cells5s hs
  clear hs
  go_enter Tryz.func44, Tryz.ntmps44
  go_wp2
  go_ret
  exact ⟨rfl, rfl⟩
theorem fld_role (w : World) (r0 r1 r2 r3 r4 : Bool) (r5 r6 r7 : Int) : (Instr.field 82 (.agg #[.bool r0, .bool r1, .bool r2, .bool r3, .bool r4, .int .i64 r5, .int .i64 r6, .int .i64 r7]) 0).run Tryz.prog w = .ok (.bool r0) w := by kernel_rfl
set_option maxRecDepth 100000 in
theorem SMay_new (w : World) (s : Nat) (nd ms tk : Int) (g q : Nat) (n : Int) (st wd inn : Nat) (hs : SvAt w s nd ms tk g q) (h : RpAt w g (rpNew n st wd inn)) : Calls Tryz.prog 43 #[.pointer (some ⟨s, 0, none⟩)] w (YesNoK false w) := by
  have HRO := Lib.hid (XRole_any w g _ false false false false false 0 0 0 rfl rfl rfl rfl rfl rfl rfl rfl h)
  have hfl := fun (w : World) => fld_role w false false false false false 0 0 0
  obtain ⟨p0, p1, p2, p3, p4⟩ := cells5s hs
  clear hs h
  go_enter Tryz.func43, Tryz.ntmps43
  go_wp2_with fail
  refine HRO.out.mono ?_
  rintro e w1 ⟨rfl, hk1⟩
  have HK1 := Lib.hid hk1
  clear hk1 p0 p1 p2 p3 p4
  go_wp2
  go_ret
  exact ⟨rfl, HK1.out⟩
set_option maxRecDepth 100000 in
set_option maxHeartbeats 2000000 in
theorem awake24 (w : World) : Calls Tryz.prog 35 #[] w (YesNoK true w) := by
  go_enter Tryz.func35, Tryz.ntmps35
  go_wp2_with fail
  refine (SNew_zero w 9 (by decide) (by decide)).mono ?_
  rintro e w1 ⟨s, g, st, wd, inn, q, rfl, hs, hr, hg, hgs, hk1⟩
  have HK1 := Lib.hid hk1
  have HS1 := Lib.hid hs
  have HR1 := Lib.hid hr
  have HG : Hid (w.heap.size ≤ g ∧ g < s) := Lib.hid ⟨hg, hgs⟩
  clear hs hr hg hgs hk1
  go_wp2_with fail
  refine (STick_new w1 s 9 3 0 g q 9 st wd inn HS1.out HR1.out (by have := HG.out; omega) (by decide) (by decide) _).mono ?_
  rintro e w2 ⟨rfl, hk2, hs2⟩
  have HS2 := Lib.hid hs2
  have HR2 := Lib.hid (HR1.out.kept hk2 (by have := HG.out; omega))
  have HK2 := Lib.hid (HK1.out.trans hk2 (fun i hi h => by have := HG.out; omega))
  clear hk2 hs2
  go_wp2_with fail
  refine (SNode_any w2 s 9 3 _ g q HS2.out).mono ?_
  rintro e w3 ⟨rfl, rfl⟩
  go_wp2_with fail
  refine (SMay_new w2 s 9 3 _ g q 9 st wd inn HS2.out HR2.out).mono ?_
  rintro e w3 ⟨rfl, hk3⟩
  have HK3 := Lib.hid (HK2.out.trans hk3 (fun _ _ h => h))
  clear hk3
  go_wp2
  go_ret
  exact ⟨rfl, HK3.out⟩
end Go.Proofs.YtabmipjpgofgpaaGreatDoor
namespace Go.Proofs.YtabmipjpgofgpaaGreatDoor
open Go.RowKit
set_option linter.unusedVariables false
set_option linter.unusedSimpArgs false

set_option maxRecDepth 100000 in
set_option maxHeartbeats 1000000 in
theorem STake_nil (w : World) (kd fr tq ch ep ba nu se dn ve sl ke co ck cc ce cn gc ge gj : Int) (gf : Bool) (ga va' ua dda : Option Addr) (gm gcp vm vcp um ucp dm dcp : Nat) : Calls Tryz.prog 39 #[.pointer none, .agg #[.int .i64 kd, .int .i64 fr, .int .i64 tq, .int .i64 ch, .int .u64 ep, .int .u64 ba, .int .u64 nu, .int .u64 se, .int .u64 dn, .int .u64 ve, .int .i64 sl, .int .u32 ke, .int .i64 co, .int .i64 ck, .int .i64 cc, .int .u64 ce, .int .i64 cn, .int .i64 gc, .int .u64 ge, .slice ga gm gcp, .bool gf, .int .i64 gj, .slice va' vm vcp, .slice ua um ucp, .slice dda dm dcp]] w fun e w' => e = .returned (.slice none 0 0) ∧ Kept NoB w w' := by
  go_enter Tryz.func39, Tryz.ntmps39
  go_wp2_with fail
  go_quiet (fail)
  go_wp2
  go_ret
  exact ⟨rfl, ((Kept.refl _ _).alloc _).drewN _⟩
set_option maxRecDepth 100000 in
set_option maxHeartbeats 1000000 in
theorem STick_nil (w : World) (dwn : Value) : Calls Tryz.prog 42 #[.pointer none, dwn] w fun e w' => e = .returned (.slice none 0 0) ∧ Kept NoB w w' := by
  go_enter Tryz.func42, Tryz.ntmps42
  go_wp2
  go_ret
  exact ⟨rfl, Kept.refl _ _⟩
set_option maxRecDepth 100000 in
set_option maxHeartbeats 1000000 in
theorem SReplica_nil (w : World)  : Calls Tryz.prog 37 #[.pointer none] w fun e w' => e = .returned (.pointer none) ∧ Kept NoB w w' := by
  go_enter Tryz.func37, Tryz.ntmps37
  go_wp2
  go_ret
  exact ⟨rfl, Kept.refl _ _⟩
set_option maxRecDepth 100000 in
set_option maxHeartbeats 1000000 in
theorem SReads_nil (w : World)  : Calls Tryz.prog 41 #[.pointer none] w fun e w' => e = .returned (.slice none 0 0) ∧ Kept NoB w w' := by
  go_enter Tryz.func41, Tryz.ntmps41
  go_wp2
  go_ret
  exact ⟨rfl, Kept.refl _ _⟩
set_option maxRecDepth 100000 in
set_option maxHeartbeats 1000000 in
theorem SMay_nil (w : World)  : Calls Tryz.prog 43 #[.pointer none] w fun e w' => e = .returned (.bool false) ∧ Kept NoB w w' := by
  go_enter Tryz.func43, Tryz.ntmps43
  go_wp2
  go_ret
  exact ⟨rfl, Kept.refl _ _⟩
set_option maxRecDepth 100000 in
set_option maxHeartbeats 1000000 in
theorem SNode_nil (w : World)  : Calls Tryz.prog 44 #[.pointer none] w fun e w' => e = .returned (.int .i64 0) ∧ Kept NoB w w' := by
  go_enter Tryz.func44, Tryz.ntmps44
  go_wp2
  go_ret
  exact ⟨rfl, Kept.refl _ _⟩
set_option maxRecDepth 100000 in
set_option maxHeartbeats 4000000 in
theorem ServerNil_any (w : World) (v dwn : Value) (y : LV × LC) (hv : LtV w v y) : Calls Tryz.prog 6 #[v, dwn] w (YesNoK true w) := by
  obtain ⟨x, c⟩ := y
  obtain ⟨rfl, hm⟩ := hv
  simp only at hm
  obtain ⟨ga, gm, gcp, va', vm, vcp, ua, um, ucp, dda, dm, dcp, g1, g2, g3, g4⟩ := hm.forms
  obtain ⟨X, hX⟩ : ∃ X, X = x := ⟨_, rfl⟩
  rw [← hX] at hm
  obtain ⟨kd, fr, tq, ch, ep, ba, nu, se, dn, ve, sl, ke, co, ck, cc, ce, cn, gc, ge, gn, gf, gj, vo, up, da⟩ := x
  simp only at g1 g2 g3 g4
  subst g1 g2 g3 g4
  have eV : (Value.agg (lcs (⟨kd, fr, tq, ch, ep, ba, nu, se, dn, ve, sl, ke, co, ck, cc, ce, cn, gc, ge, .slice ga gm gcp, gf, gj, .slice va' vm vcp, .slice ua um ucp, .slice dda dm dcp⟩ : LV))) = .agg #[.int .i64 kd, .int .i64 fr, .int .i64 tq, .int .i64 ch, .int .u64 ep, .int .u64 ba, .int .u64 nu, .int .u64 se, .int .u64 dn, .int .u64 ve, .int .i64 sl, .int .u32 ke, .int .i64 co, .int .i64 ck, .int .i64 cc, .int .u64 ce, .int .i64 cn, .int .i64 gc, .int .u64 ge, .slice ga gm gcp, .bool gf, .int .i64 gj, .slice va' vm vcp, .slice ua um ucp, .slice dda dm dcp] := rfl
  rw [eV]
  clear eV
  have HFR := Lib.hid (fun w' (hk : Kept NoB w w') => Far_any w' kd fr tq ch ep ba nu se dn ve sl ke co ck cc ce cn gc ge gj gf ga va' ua dda gm gcp vm vcp um ucp dm dcp X c (fun k => k < w.heap.size) hX (hm.no hk))
  have HTK := Lib.hid (fun w' => STake_nil w' kd fr tq ch ep ba nu se dn ve sl ke co ck cc ce cn gc ge gj gf ga va' ua dda gm gcp vm vcp um ucp dm dcp)
  clear hm hX
  obtain ⟨W, hW⟩ : ∃ W, W = w.alloc (.cells #[.int .i64 kd, .int .i64 fr, .int .i64 tq, .int .i64 ch, .int .u64 ep, .int .u64 ba, .int .u64 nu, .int .u64 se, .int .u64 dn, .int .u64 ve, .int .i64 sl, .int .u32 ke, .int .i64 co, .int .i64 ck, .int .i64 cc, .int .u64 ce, .int .i64 cn, .int .i64 gc, .int .u64 ge, .slice ga gm gcp, .bool gf, .int .i64 gj, .slice va' vm vcp, .slice ua um ucp, .slice dda dm dcp] 68 (0, 0)) := ⟨_, rfl⟩
  have hkk : Kept NoB w W := by rw [hW]; exact (Kept.refl NoB w).alloc _
  have h1 : W.heap[w.heap.size]? = some (.cells #[.int .i64 kd, .int .i64 fr, .int .i64 tq, .int .i64 ch, .int .u64 ep, .int .u64 ba, .int .u64 nu, .int .u64 se, .int .u64 dn, .int .u64 ve, .int .i64 sl, .int .u32 ke, .int .i64 co, .int .i64 ck, .int .i64 cc, .int .u64 ce, .int .i64 cn, .int .i64 gc, .int .u64 ge, .slice ga gm gcp, .bool gf, .int .i64 gj, .slice va' vm vcp, .slice ua um ucp, .slice dda dm dcp] 68 (0, 0)) := by rw [hW]; exact heap_alloc_new w _
  have HROW : Hid (∀ w', Kept NoB W w' → w'.heap[w.heap.size]? = some (.cells #[.int .i64 kd, .int .i64 fr, .int .i64 tq, .int .i64 ch, .int .u64 ep, .int .u64 ba, .int .u64 nu, .int .u64 se, .int .u64 dn, .int .u64 ve, .int .i64 sl, .int .u32 ke, .int .i64 co, .int .i64 ck, .int .i64 cc, .int .u64 ce, .int .i64 cn, .int .i64 gc, .int .u64 ge, .slice ga gm gcp, .bool gf, .int .i64 gj, .slice va' vm vcp, .slice ua um ucp, .slice dda dm dcp] 68 (0, 0))) := Lib.hid (fun w' hk => hk.heap (fun h => h) h1)
  have HK := Lib.hid hkk
  have HW := Lib.hid hW
  clear h1 hW hkk
  cases hfar : far14 c with
  | true =>
    rw [hfar] at HFR
    clear hfar
    go_enter Tryz.func6, Tryz.ntmps6
    go_upto_region 1 with fail
    rw [← HW.out]
    go_wp2_with (refine wpList_load_row rfl 68 _ rfl w.heap.size rfl 68 #[.int .i64 kd, .int .i64 fr, .int .i64 tq, .int .i64 ch, .int .u64 ep, .int .u64 ba, .int .u64 nu, .int .u64 se, .int .u64 dn, .int .u64 ve, .int .i64 sl, .int .u32 ke, .int .i64 co, .int .i64 ck, .int .i64 cc, .int .u64 ce, .int .i64 cn, .int .i64 gc, .int .u64 ge, .slice ga gm gcp, .bool gf, .int .i64 gj, .slice va' vm vcp, .slice ua um ucp, .slice dda dm dcp] (0, 0) _ (HROW.out W (Kept.refl _ _)) Tryz.underlying68 rfl (by kernel_rfl) ?_)
    refine (HFR.out W HK.out).mono ?_
    rintro e w1 ⟨rfl, hk1⟩
    have HK1 := Lib.hid (HK.out.trans hk1 (fun _ _ h => h))
    clear hk1
    go_wp2_with fail
    refine (awake24 _).mono ?_
    rintro e w9 ⟨rfl, hk9⟩
    have HK9 := Lib.hid (HK1.out.trans hk9 (fun _ _ h => h))
    clear hk9
    go_wp2
    go_ret
    exact ⟨rfl, HK9.out⟩
  | false =>
    rw [hfar] at HFR
    clear hfar
    go_enter Tryz.func6, Tryz.ntmps6
    go_upto_region 1 with fail
    rw [← HW.out]
    go_wp2_with (refine wpList_load_row rfl 68 _ rfl w.heap.size rfl 68 #[.int .i64 kd, .int .i64 fr, .int .i64 tq, .int .i64 ch, .int .u64 ep, .int .u64 ba, .int .u64 nu, .int .u64 se, .int .u64 dn, .int .u64 ve, .int .i64 sl, .int .u32 ke, .int .i64 co, .int .i64 ck, .int .i64 cc, .int .u64 ce, .int .i64 cn, .int .i64 gc, .int .u64 ge, .slice ga gm gcp, .bool gf, .int .i64 gj, .slice va' vm vcp, .slice ua um ucp, .slice dda dm dcp] (0, 0) _ (HROW.out W (Kept.refl _ _)) Tryz.underlying68 rfl (by kernel_rfl) ?_)
    refine (HFR.out W HK.out).mono ?_
    rintro e w1 ⟨rfl, hk1⟩
    have HK1 := Lib.hid hk1
    clear hk1
    go_wp2_with (refine wpList_load_row rfl 68 _ rfl w.heap.size rfl 68 #[.int .i64 kd, .int .i64 fr, .int .i64 tq, .int .i64 ch, .int .u64 ep, .int .u64 ba, .int .u64 nu, .int .u64 se, .int .u64 dn, .int .u64 ve, .int .i64 sl, .int .u32 ke, .int .i64 co, .int .i64 ck, .int .i64 cc, .int .u64 ce, .int .i64 cn, .int .i64 gc, .int .u64 ge, .slice ga gm gcp, .bool gf, .int .i64 gj, .slice va' vm vcp, .slice ua um ucp, .slice dda dm dcp] (0, 0) _ (HROW.out w1 HK1.out) Tryz.underlying68 rfl (by kernel_rfl) ?_)
    refine (HTK.out w1).mono ?_
    rintro e w2 ⟨rfl, hk2⟩
    have HK2 := Lib.hid (HK1.out.trans hk2 (fun _ _ h => h))
    clear hk2
    go_wp2_with fail
    refine (STick_nil w2 dwn).mono ?_
    rintro e w3 ⟨rfl, hk3⟩
    have HK3 := Lib.hid (HK2.out.trans hk3 (fun _ _ h => h))
    clear hk3
    go_wp2_with fail
    refine (SReplica_nil w3).mono ?_
    rintro e w4 ⟨rfl, hk4⟩
    have HK4 := Lib.hid (HK3.out.trans hk4 (fun _ _ h => h))
    clear hk4
    go_wp2_with fail
    refine (SReads_nil w4).mono ?_
    rintro e w5 ⟨rfl, hk5⟩
    have HK5 := Lib.hid (HK4.out.trans hk5 (fun _ _ h => h))
    clear hk5
    go_wp2_with fail
    refine (SMay_nil w5).mono ?_
    rintro e w6 ⟨rfl, hk6⟩
    have HK6 := Lib.hid (HK5.out.trans hk6 (fun _ _ h => h))
    clear hk6
    go_wp2_with fail
    refine (SNode_nil w6).mono ?_
    rintro e w7 ⟨rfl, hk7⟩
    have HK7 := Lib.hid (HK6.out.trans hk7 (fun _ _ h => h))
    clear hk7
    go_wp2_with fail
    refine (awake24 w7).mono ?_
    rintro e w8 ⟨rfl, hk8⟩
    have HK8 := Lib.hid (HK7.out.trans hk8 (fun _ _ h => h))
    clear hk8
    go_wp2
    go_ret
    exact ⟨rfl, HK.out.trans HK8.out (fun _ _ h => h)⟩
end Go.Proofs.YtabmipjpgofgpaaGreatDoor
