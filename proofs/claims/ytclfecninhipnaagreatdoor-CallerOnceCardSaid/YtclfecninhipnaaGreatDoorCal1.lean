/-
  Layer 26: a caller in memory: New, Busy, Num, Address, Atlas; a latch of replies; the copy of an operation. Layer 26: what a caller sends for a write. Layer 26: Begin of a write. Layer 26: Begin of a write, the first one. Layer 26: Tick of a caller that has a write under way. Layer 26: the page's example of callers. Layer 26: what is sent for a Read. Layer 26: Begin of a Read; Begin that fails.
-/
import Derived.Test.YtclfecninhipnaaGreatDoorAtl1
import Derived.Test.YtclfecninhipnaaGreatDoorUpd1
import Derived.Test.YtclfecninhipnaaGreatDoorLat1
import Derived.Test.YtclfecninhipnaaGreatDoorLtr2
import Derived.Test.YtclfecninhipnaaGreatDoorLck1
import Derived.Deep.WholeRow
import Derived.Deep.MidRow
import Derived.Deep.CutRange
import Derived.Deep.QuietTactic
import Derived.BigQuiet
namespace Go.Proofs.YtclfecninhipnaaGreatDoor
open Go.RowKit
set_option linter.unusedVariables false
set_option linter.unusedSimpArgs false

/-- The eighteen cells of a caller. -/
structure CS where
  cl : Int
  ms : Int
  tk : Int
  ga : Nat
  nu : Int
  k : Int
  y : Int
  v : Int
  d : Value
  p : Int
  lp : Value
  nu2 : Int
  k2 : Int
  y2 : Int
  v2 : Int
  d2 : Value
  p2 : Int
  lp2 : Value
def ccs (x : CS) : Array Value := #[.int .i64 x.cl, .int .i64 x.ms, .int .i64 x.tk, .pointer (some ⟨x.ga, 0, none⟩), .int .u64 x.nu, .int .i64 x.k, .int .u32 x.y, .int .u64 x.v, x.d, .int .i64 x.p, x.lp, .int .u64 x.nu2, .int .i64 x.k2, .int .u32 x.y2, .int .u64 x.v2, x.d2, .int .i64 x.p2, x.lp2]
def CaAt (w : World) (g : Nat) (x : CS) : Prop := w.heap[g]? = some (.cells (ccs x) 64 (0, 0))
theorem CaAt.no {w w' : World} {g : Nat} {x : CS} (h : CaAt w g x) (hk : Kept NoB w w') : CaAt w' g x := hk.heap (fun h => h) h
theorem CaAt.c {w : World} {g : Nat} {x : CS} (h : CaAt w g x) : w.cell? ⟨g, 0, none⟩ = some (.int .i64 x.cl) ∧ w.cell? ⟨g, 1, none⟩ = some (.int .i64 x.ms) ∧ w.cell? ⟨g, 2, none⟩ = some (.int .i64 x.tk) ∧ w.cell? ⟨g, 3, none⟩ = some (.pointer (some ⟨x.ga, 0, none⟩)) ∧
    w.cell? ⟨g, 4, none⟩ = some (.int .u64 x.nu) ∧ w.cell? ⟨g, 5, none⟩ = some (.int .i64 x.k) ∧ w.cell? ⟨g, 6, none⟩ = some (.int .u32 x.y) ∧ w.cell? ⟨g, 7, none⟩ = some (.int .u64 x.v) ∧ w.cell? ⟨g, 8, none⟩ = some x.d ∧ w.cell? ⟨g, 9, none⟩ = some (.int .i64 x.p) ∧ w.cell? ⟨g, 10, none⟩ = some x.lp ∧
    w.cell? ⟨g, 11, none⟩ = some (.int .u64 x.nu2) ∧ w.cell? ⟨g, 12, none⟩ = some (.int .i64 x.k2) ∧ w.cell? ⟨g, 13, none⟩ = some (.int .u32 x.y2) ∧ w.cell? ⟨g, 14, none⟩ = some (.int .u64 x.v2) ∧ w.cell? ⟨g, 15, none⟩ = some x.d2 ∧ w.cell? ⟨g, 16, none⟩ = some (.int .i64 x.p2) ∧ w.cell? ⟨g, 17, none⟩ = some x.lp2 :=
  ⟨cell_of_row _ _ 0 _ _ _ h, cell_of_row _ _ 1 _ _ _ h, cell_of_row _ _ 2 _ _ _ h, cell_of_row _ _ 3 _ _ _ h, cell_of_row _ _ 4 _ _ _ h, cell_of_row _ _ 5 _ _ _ h, cell_of_row _ _ 6 _ _ _ h, cell_of_row _ _ 7 _ _ _ h, cell_of_row _ _ 8 _ _ _ h, cell_of_row _ _ 9 _ _ _ h, cell_of_row _ _ 10 _ _ _ h, cell_of_row _ _ 11 _ _ _ h, cell_of_row _ _ 12 _ _ _ h, cell_of_row _ _ 13 _ _ _ h, cell_of_row _ _ 14 _ _ _ h, cell_of_row _ _ 15 _ _ _ h, cell_of_row _ _ 16 _ _ _ h, cell_of_row _ _ 17 _ _ _ h⟩
def csNew (cl ms : Int) (ga : Nat) : CS := ⟨cl, ms, 0, ga, 0, 0, 0, 0, .slice none 0 0, 0, .pointer none, 0, 0, 0, 0, .slice none 0 0, 0, .pointer none⟩
set_option maxRecDepth 100000 in
set_option maxHeartbeats 1000000 in
theorem CNew_good (w : World) (cl ms : Int) (c1 : 1 ≤ cl) (c6 : cl ≤ 6) (m1 : 1 ≤ ms) (m5 : ms ≤ 5) (v : Value) (l : List Cf) (F : Nat → Prop) (h : CfsR w F v l) (hl : l.length ≤ 1000) (ha : allB l = true) :
    Calls Tryz.prog 5 #[.int .i64 cl, .int .i64 ms, v] w fun e w' => ∃ g ga r z, e = .returned (.tuple #[.pointer (some ⟨g, 0, none⟩), .int .i64 0]) ∧ CaAt w' g (csNew cl ms ga) ∧ (∀ w2, Kept (fun b => g ≤ b) w' w2 → AtAt w2 w.heap.size ga r z l) ∧ w.heap.size ≤ g ∧ Kept NoB w w' := by
  have HN := Lib.hid (New25_any v l F w h hl)
  rw [ha] at HN
  obtain ⟨a, cap, rfl, _⟩ := h
  have q1 : decide (cl < 1) = false := decide_eq_false (by omega)
  have q2 : decide (6 < cl) = false := decide_eq_false (by omega)
  have q3 : decide (ms < 1) = false := decide_eq_false (by omega)
  have q4 : decide (5 < ms) = false := decide_eq_false (by omega)
  go_enter Tryz.func5, Tryz.ntmps5
  go_wp2_with fail
  refine HN.out.mono ?_
  rintro e w1 ⟨hk, ⟨h, _⟩ | ⟨_, ga, r, z, rfl, hat, _⟩⟩
  · cases h
  have HK := Lib.hid hk
  have HA := Lib.hid hat
  clear hk hat
  go_wp2
  go_ret2
  obtain ⟨cp, us, g1, g2, _⟩ := HA.out.at_
  refine ⟨w1.heap.size, ga, r, z, rfl, heap_alloc_new w1 _, fun w2 hk2 => ?_, HK.out.size, HK.out.alloc _⟩
  have hk := ((Kept.refl (fun b => w1.heap.size ≤ b) w1).alloc _).trans hk2 (fun _ _ h => h)
  exact HA.out.kept hk (by have := heap_lt g1; omega) (by have := g2.lt; omega) (fun k hk _ _ _ _ => by omega)
theorem CNum_any (w : World) (g : Nat) (x : CS) (h : CaAt w g x) : Calls Tryz.prog 9 #[.pointer (some ⟨g, 0, none⟩)] w fun e w' => e = .returned (.int .u64 x.nu) ∧ w = w' := by
  have c4 := h.c.2.2.2.2.1
  clear h
  go_enter Tryz.func9, Tryz.ntmps9
  go_wp2
  go_ret
  exact ⟨rfl, rfl⟩
theorem CAddr_any (w : World) (g : Nat) (x : CS) (h : CaAt w g x) (c1 : 1 ≤ x.cl) (c6 : x.cl ≤ 6) : Calls Tryz.prog 21 #[.pointer (some ⟨g, 0, none⟩)] w fun e w' => e = .returned (.int .i64 (200 + x.cl)) ∧ w = w' := by
  have c0 := h.c.1
  clear h
  go_enter Tryz.func21, Tryz.ntmps21
  go_wp2
  go_ret
  exact ⟨rfl, rfl⟩
/-- A latch of replies: whether it is set, to what. -/
def RLat (w : World) (q : Nat) (b : Bool) (co ve : Int) (d : Value) : Prop :=
  w.heap[q]? = some (.cells #[.int .u32 (if b then 1 else 0), .int .i32 0, .int .u32 0, .int .u32 (if b then 1 else 0), .int .i64 co, .int .u64 ve, d] 100 (0, 0))
theorem RLat.no {w w' : World} {q : Nat} {b : Bool} {co ve : Int} {d : Value} (h : RLat w q b co ve d) (hk : Kept NoB w w') : RLat w' q b co ve d := hk.heap (fun h => h) h
theorem RLat.kept26 {S : Nat → Prop} {w w' : World} {q : Nat} {b : Bool} {co ve : Int} {d : Value} (h : RLat w q b co ve d) (hk : Kept S w w') (hs : ¬ S q) : RLat w' q b co ve d := hk.heap hs h
theorem LNew26_any (w : World) : Calls Tryz.prog 17 #[] w fun e w' => e = .returned (.pointer (some ⟨w.heap.size, 0, none⟩)) ∧ RLat w' w.heap.size false 0 0 (.slice none 0 0) ∧ w' = w.alloc (.cells #[.int .u32 0, .int .i32 0, .int .u32 0, .int .u32 0, .int .i64 0, .int .u64 0, .slice none 0 0] 100) := by
  go_enter Tryz.func17, Tryz.ntmps17
  go_wp2
  go_ret
  exact ⟨rfl, heap_alloc_new w _, rfl⟩
def three26 (w : World) (b : Nat) (x y z : Value) : World := ((w.setCell ⟨b, 0, none⟩ x).setCell ⟨b, 1, none⟩ y).setCell ⟨b, 2, none⟩ z
theorem three26_at {w : World} {b : Nat} {a b' c : Value} {t : TypeId} (h : w.heap[b]? = some (.cells #[a, b', c] t (0, 0))) (x y z : Value) : (three26 w b x y z).heap[b]? = some (.cells #[x, y, z] t (0, 0)) :=
  bset25 (bset25 (bset25 h 0 x) 1 y) 2 z
theorem Kept.three26 {S : Nat → Prop} {a w : World} (h : Kept S a w) {b : Nat} (hb : S b ∨ a.heap.size ≤ b) (x y z : Value) : Kept S a (Go.Proofs.YtclfecninhipnaaGreatDoor.three26 w b x y z) :=
  ((h.setCell (p := ⟨b, 0, none⟩) hb x).setCell (p := ⟨b, 1, none⟩) hb y).setCell (p := ⟨b, 2, none⟩) hb z
theorem cells3c {w : World} {b : Nat} {x y z : Value} {t : TypeId} {fr : Nat × Nat} (h : w.heap[b]? = some (.cells #[x, y, z] t fr)) : w.cell? ⟨b, 0, none⟩ = some x ∧ w.cell? ⟨b, 1, none⟩ = some y ∧ w.cell? ⟨b, 2, none⟩ = some z :=
  ⟨cell_of_row _ _ 0 _ _ _ h, cell_of_row _ _ 1 _ _ _ h, cell_of_row _ _ 2 _ _ _ h⟩
set_option maxRecDepth 100000 in
/-- Get of a latch that is not set. -/
theorem LGet26_not (w : World) (q : Nat) (h : RLat w q false 0 0 (.slice none 0 0)) : Calls Tryz.prog 19 #[.pointer (some ⟨q, 0, none⟩)] w fun e w' => e = .returned (.tuple #[.agg #[.int .i64 0, .int .u64 0, .slice none 0 0], .bool false]) ∧ Kept NoB w w' := by
  have hk1 := (Kept.refl NoB w).alloc (.cells #[.int .i64 0, .int .u64 0, .slice none 0 0] 51)
  have HL := Lib.hid (Load_any ⟨q, 3, none⟩ false _ (cell_of_row _ _ 3 _ _ _ (h.no hk1)))
  have hb1 := heap_alloc_new w (.cells #[.int .i64 0, .int .u64 0, .slice none 0 0] 51)
  have hk2 := hk1.alloc (.cells #[.int .i64 0, .int .u64 0, .slice none 0 0] 51)
  have HB1 := Lib.hid (blk_old25 hb1 (.cells #[.int .i64 0, .int .u64 0, .slice none 0 0] 51))
  have hb2 := heap_alloc_new (w.alloc (.cells #[.int .i64 0, .int .u64 0, .slice none 0 0] 51)) (.cells #[.int .i64 0, .int .u64 0, .slice none 0 0] 51)
  have HK1 := Lib.hid hk1
  have HK2 := Lib.hid hk2
  obtain ⟨W, hW⟩ : ∃ W, W = (w.alloc (.cells #[.int .i64 0, .int .u64 0, .slice none 0 0] 51)) := ⟨_, rfl⟩
  have HSZ : Hid (W.heap.size = w.heap.size + 1) := Lib.hid (by rw [hW]; simp)
  have HWW := Lib.hid hW
  rw [← hW] at HL HB1 HK1 HK2 hb2
  have HB2 := Lib.hid hb2
  clear h hk1 hk2 hb1 hb2 hW
  go_enter Tryz.func19, Tryz.ntmps19
  go_upto_region 1 with fail
  rw [← HWW.out]
  go_wp2_with fail
  refine HL.out.mono ?_
  rintro e w1 ⟨rfl, rfl⟩
  obtain ⟨c0, c1, c2⟩ := cells3c HB1.out
  obtain ⟨d0, d1, d2⟩ := cells3c HB2.out
  obtain ⟨f0, f1, f2⟩ := And.intro (frz25 HB1.out 0) (And.intro (frz25 HB1.out 1) (frz25 HB1.out 2))
  go_wp2
  clear c0 c1 c2 d0 d1 d2 f0 f1 f2
  have hF := three26_at HB1.out (.int .i64 0) (.int .u64 0) (.slice none 0 0)
  obtain ⟨r0, r1, r2⟩ := cells3c hF
  have hK := HK2.out.three26 (b := w.heap.size) (.inr (Nat.le_refl _)) (.int .i64 0) (.int .u64 0) (.slice none 0 0)
  clear hF
  unfold three26 at r0 r1 r2 hK
  generalize hW : World.setCell _ _ _ = W2 at r0 r1 r2 hK ⊢
  exact bodyPost_ret (v := .tuple #[.agg #[.int .i64 0, .int .u64 0, .slice none 0 0], .bool false]) (by simp [results, Tryz.results19, go_sem, r0, r1, r2]) rfl ⟨rfl, hK⟩
set_option maxRecDepth 100000 in
/-- Busy: where there was no operation. -/
theorem Busy26_none (w : World) (g : Nat) (x : CS) (h : CaAt w g x) (h0 : x.nu = 0) : Calls Tryz.prog 8 #[.pointer (some ⟨g, 0, none⟩)] w fun e w' => e = .returned (.bool false) ∧ Kept NoB w w' := by
  have c4 := h.c.2.2.2.2.1
  rw [h0] at c4
  clear h h0
  go_enter Tryz.func8, Tryz.ntmps8
  go_wp2
  go_ret
  exact ⟨rfl, Kept.refl _ _⟩
set_option maxRecDepth 100000 in
/-- Busy: where one is under way. -/
theorem Busy26_yes (w : World) (g q : Nat) (x : CS) (h : CaAt w g x) (h0 : 1 ≤ x.nu) (hl : x.lp = .pointer (some ⟨q, 0, none⟩)) (hr : RLat w q false 0 0 (.slice none 0 0)) : Calls Tryz.prog 8 #[.pointer (some ⟨g, 0, none⟩)] w fun e w' => e = .returned (.bool true) ∧ Kept NoB w w' := by
  have c4 := h.c.2.2.2.2.1
  have c10 := h.c.2.2.2.2.2.2.2.2.2.2.1
  rw [hl] at c10
  have HL := Lib.hid (LGet26_not w q hr)
  obtain ⟨nu, hn⟩ : ∃ nu, nu = x.nu := ⟨_, rfl⟩
  rw [← hn] at c4 h0
  have hne : (nu == 0) = false := beq_eq_false_iff_ne.2 (by omega)
  clear h hl hr hn
  go_enter Tryz.func8, Tryz.ntmps8
  go_wp2_with fail
  refine HL.out.mono ?_
  rintro e w1 ⟨rfl, hk⟩
  have HK := Lib.hid hk
  clear hk
  go_wp2
  go_ret
  exact ⟨rfl, HK.out.alloc _⟩
set_option maxRecDepth 100000 in
set_option maxHeartbeats 1000000 in
/-- The copy of an operation. -/
theorem COpy26_any (w : World) (k y v p : Int) (a : Option Addr) (c : Nat) (od : List Int) (F : Nat → Prop) (hd : BSl w F (.slice a od.length c) od) (hl : od.length ≤ 1000000) : Calls Tryz.prog 16 #[.agg #[.int .i64 k, .int .u32 y, .int .u64 v, .slice a od.length c, .int .i64 p]] w fun e w' => ∃ a' c', e = .returned (.agg #[.int .i64 k, .int .u32 y, .int .u64 v, .slice a' od.length c', .int .i64 p]) ∧ Own w' (fun b => w.heap.size ≤ b) (.slice a' od.length c') od ∧ Kept NoB w w' := by
  have HCL := Lib.hid (fun w' (hk : Kept NoB w w') => Clone_own17 _ od F w' (hd.kept hk (fun _ _ h => h)) hl)
  obtain ⟨n, hn⟩ : ∃ n, n = od.length := ⟨_, rfl⟩
  have HN : Hid (n = od.length) := Lib.hid hn
  rw [← hn] at HCL ⊢
  have HK := Lib.hid (((Kept.refl NoB w).alloc (.cells #[.int .i64 k, .int .u32 y, .int .u64 v, .slice a n c, .int .i64 p] 26)).alloc (.cells #[.int .i64 0, .int .u32 0, .int .u64 0, .slice none 0 0, .int .i64 0] 26))
  have hb1 := blk_old25 (heap_alloc_new w (.cells #[.int .i64 k, .int .u32 y, .int .u64 v, .slice a n c, .int .i64 p] 26)) (.cells #[.int .i64 0, .int .u32 0, .int .u64 0, .slice none 0 0, .int .i64 0] 26)
  have hb2 := heap_alloc_new (w.alloc (.cells #[.int .i64 k, .int .u32 y, .int .u64 v, .slice a n c, .int .i64 p] 26)) (.cells #[.int .i64 0, .int .u32 0, .int .u64 0, .slice none 0 0, .int .i64 0] 26)
  rw [show (w.alloc (.cells #[.int .i64 k, .int .u32 y, .int .u64 v, .slice a n c, .int .i64 p] 26)).heap.size = w.heap.size + 1 by simp] at hb2
  obtain ⟨W, hW⟩ : ∃ W, W = (w.alloc (.cells #[.int .i64 k, .int .u32 y, .int .u64 v, .slice a n c, .int .i64 p] 26)).alloc (.cells #[.int .i64 0, .int .u32 0, .int .u64 0, .slice none 0 0, .int .i64 0] 26) := ⟨_, rfl⟩
  have HW := Lib.hid hW
  have HSZ : Hid (W.heap.size = w.heap.size + 2) := Lib.hid (by rw [hW]; simp)
  rw [← hW] at HK hb1 hb2
  have HB1 := Lib.hid hb1
  have HB2 := Lib.hid hb2
  have hq1 : ¬ w.heap.size = w.heap.size + 1 := by omega
  have hq2 : ¬ w.heap.size + 1 = w.heap.size := by omega
  clear hW hd hl hb1 hb2 hn
  go_enter Tryz.func16, Tryz.ntmps16
  go_upto_region 1 with fail
  rw [← HW.out]
  obtain ⟨c0, c1, c2, c3, c4⟩ := cells5 HB1.out
  go_wp2_with fail
  refine (HCL.out _ HK.out).mono ?_
  rintro e w1 ⟨v1, rfl, hown, hk1⟩
  have HO := Lib.hid hown
  have HK1 := Lib.hid hk1
  have HC1 := Lib.hid (hk1.heap (fun h => h) HB1.out)
  have HC2 := Lib.hid (hk1.heap (fun h => h) HB2.out)
  obtain ⟨va, vc, rfl⟩ := own_form hown.2.1
  rw [← HN.out] at HO ⊢
  clear c0 c1 c2 c3 c4 hown hk1
  obtain ⟨c0, c1, c2, c3, c4⟩ := cells5 HC1.out
  have f3 := frz25 HC1.out 3
  obtain ⟨d0, d1, d2, d3, d4⟩ := cells5 HC2.out
  obtain ⟨z0, z1, z2, z3, z4⟩ := And.intro (frz25 HC2.out 0) (And.intro (frz25 HC2.out 1) (And.intro (frz25 HC2.out 2) (And.intro (frz25 HC2.out 3) (frz25 HC2.out 4))))
  go_wp2
  clear c0 c1 c2 c3 c4 d0 d1 d2 d3 d4 z0 z1 z2 z3 z4 f3
  have hC2 := blk_other25 HC2.out (k := w.heap.size) 3 (.slice va n vc) hq1
  have hF : (five25 (w1.setCell ⟨w.heap.size, 3, none⟩ (.slice va n vc)) (w.heap.size + 1) (.int .i64 k) (.int .u32 y) (.int .u64 v) (.slice va n vc) (.int .i64 p)).heap[w.heap.size + 1]? = some (.cells #[.int .i64 k, .int .u32 y, .int .u64 v, .slice va n vc, .int .i64 p] 26 (0, 0)) := bset25 (bset25 (bset25 (bset25 (bset25 hC2 0 (.int .i64 k)) 1 (.int .u32 y)) 2 (.int .u64 v)) 3 (.slice va n vc)) 4 (.int .i64 p)
  have hw1 := ((HK.out.trans HK1.out (fun _ _ h => h)).setCell (p := ⟨w.heap.size, 3, none⟩) (.inr (Nat.le_refl _)) (.slice va n vc)).five25 (b := w.heap.size + 1) (.inr (by omega)) (.int .i64 k) (.int .u32 y) (.int .u64 v) (.slice va n vc) (.int .i64 p)
  have hN := (HO.out.mono (G := fun b => w.heap.size + 2 ≤ b) (fun b _ h => by have h : W.heap.size ≤ b := h; have := HSZ.out; omega)).kept (((Kept.refl (fun b => b < w.heap.size + 2) w1).setCell (p := ⟨w.heap.size, 3, none⟩) (.inl (by show w.heap.size < w.heap.size + 2; omega)) (.slice va n vc)).five25 (b := w.heap.size + 1) (.inl (by omega)) (.int .i64 k) (.int .u32 y) (.int .u64 v) (.slice va n vc) (.int .i64 p)) (fun b hF h => by omega)
  have hN := hN.mono (G := fun b => w.heap.size ≤ b) (fun b _ h => by omega)
  obtain ⟨r0, r1, r2, r3, r4⟩ := cells5 hF
  clear hF hC2
  unfold five25 at r0 r1 r2 r3 r4 hw1 hN
  generalize hW : World.setCell _ _ _ = W2 at r0 r1 r2 r3 r4 hw1 hN ⊢
  exact bodyPost_ret (v := .agg #[.int .i64 k, .int .u32 y, .int .u64 v, .slice va n vc, .int .i64 p]) (by simp [results, Tryz.results16, go_sem, r0, r1, r2, r3, r4]) rfl ⟨va, vc, rfl, hN, hw1⟩
end Go.Proofs.YtclfecninhipnaaGreatDoor
namespace Go.Proofs.YtclfecninhipnaaGreatDoor
open Go.RowKit
set_option linter.unusedVariables false
set_option linter.unusedSimpArgs false

def RqCut2 (V : World) (cf : Cf) (x5 : Value) (wc : World) : Prop := ∃ (c : Nat) (ua : Option Addr) (uc : Nat), x5 = .pointer (some ⟨c, 0, none⟩) ∧ wc.heap[c]? = some (.cells #[.int .i64 cf.ch, .int .u64 cf.ep, .slice ua cf.ns.length uc, .bool cf.fr, .int .i64 cf.jn] 44 (0, 0)) ∧ V.heap.size ≤ c ∧ Kept NoB V wc
def RqCut3 (V : World) (q : LV) (x6 : Value) (wc : World) : Prop := ∃ c : Nat, x6 = .pointer (some ⟨c, 0, none⟩) ∧ wc.heap[c]? = some (.cells (lcs q) 48 (0, 0)) ∧ V.heap.size ≤ c ∧ Kept NoB V wc
def RqCut7 (V : World) (x7 x8 : Value) (wc : World) : Prop := ∃ (c : Nat) (u0 u1 u2 u3 u4 u5 E : Int) (ua : Option Addr) (un uc : Nat), x7 = .pointer (some ⟨c, 0, none⟩) ∧ x8 = .int .i64 E ∧ wc.heap[c]? = some (.cells #[.int .u64 u0, .int .i64 u1, .int .u64 u2, .int .i64 u3, .int .u32 u4, .int .u64 u5, .slice ua un uc] 84 (0, 0)) ∧ V.heap.size ≤ c ∧ Kept NoB V wc
def seven26 (w : World) (b : Nat) (x0 x1 x2 x3 x4 x5 x6 : Value) : World := (five25 w b x0 x1 x2 x3 x4 |>.setCell ⟨b, 5, none⟩ x5).setCell ⟨b, 6, none⟩ x6
set_option maxHeartbeats 2000000 in
theorem seven26_at {w : World} {b : Nat} {y0 y1 y2 y3 y4 y5 y6 : Value} {t : TypeId} (h : w.heap[b]? = some (.cells #[y0, y1, y2, y3, y4, y5, y6] t (0, 0))) (x0 x1 x2 x3 x4 x5 x6 : Value) : (seven26 w b x0 x1 x2 x3 x4 x5 x6).heap[b]? = some (.cells #[x0, x1, x2, x3, x4, x5, x6] t (0, 0)) :=
  bset25 (bset25 (bset25 (bset25 (bset25 (bset25 (bset25 h 0 x0) 1 x1) 2 x2) 3 x3) 4 x4) 5 x5) 6 x6
theorem Kept.seven26 {S : Nat → Prop} {a w : World} (h : Kept S a w) {b : Nat} (hb : S b ∨ a.heap.size ≤ b) (x0 x1 x2 x3 x4 x5 x6 : Value) : Kept S a (Go.Proofs.YtclfecninhipnaaGreatDoor.seven26 w b x0 x1 x2 x3 x4 x5 x6) :=
  ((h.five25 hb x0 x1 x2 x3 x4).setCell (p := ⟨b, 5, none⟩) hb x5).setCell (p := ⟨b, 6, none⟩) hb x6
def RqCut8 (V : World) (c6 : Nat) (q : LV) (hn : Int) (wc : World) : Prop := ∃ (ub : Nat), wc.heap[c6]? = some (.cells (lcs { q with kd := 17, «to» := hn, up := .slice (some ⟨ub, 0, none⟩) 1 1 }) 48 (0, 0)) ∧ Kept (fun b => b = c6) V wc
theorem lcs17 (q : LV) (hn : Int) (ub : Nat) : (((lcs q).setIfInBounds 0 (.int .i64 17)).setIfInBounds 2 (.int .i64 hn)).setIfInBounds 23 (.slice (some ⟨ub, 0, none⟩) 1 1) = lcs { q with kd := 17, «to» := hn, up := .slice (some ⟨ub, 0, none⟩) 1 1 } := by rfl
theorem cut8_a {wc w3 : World} {c6 ub : Nat} {q : LV} {hn : Int} (h : w3.heap[c6]? = some (.cells (lcs q) 48 (0, 0))) (hk0 : Kept NoB wc w3) (X : Obj) : RqCut8 wc c6 q hn ((((w3.alloc X).setCell ⟨c6, 0, none⟩ (.int .i64 17)).setCell ⟨c6, 2, none⟩ (.int .i64 hn)).setCell ⟨c6, 23, none⟩ (.slice (some ⟨ub, 0, none⟩) 1 1)) := by
  have hk := hk0.mono (T := fun b => b = c6) (fun _ _ h => h.elim)
  have h1 := bset25 (bset25 (bset25 (blk_old25 h X) 0 (.int .i64 17)) 2 (.int .i64 hn)) 23 (.slice (some ⟨ub, 0, none⟩) 1 1)
  rw [lcs17 q hn ub] at h1
  exact ⟨ub, h1, (((hk.alloc X).setCell (p := ⟨c6, 0, none⟩) (.inl rfl) _).setCell (p := ⟨c6, 2, none⟩) (.inl rfl) _).setCell (p := ⟨c6, 23, none⟩) (.inl rfl) _⟩
theorem cut8_b {wc w3 : World} {c6 ub : Nat} {q : LV} {hn : Int} (h : w3.heap[c6]? = some (.cells (lcs q) 48 (0, 0))) (hk0 : Kept NoB wc w3) (X : Obj) : RqCut8 wc c6 q hn ((((w3.setCell ⟨c6, 0, none⟩ (.int .i64 17)).alloc X).setCell ⟨c6, 2, none⟩ (.int .i64 hn)).setCell ⟨c6, 23, none⟩ (.slice (some ⟨ub, 0, none⟩) 1 1)) := by
  have hk := hk0.mono (T := fun b => b = c6) (fun _ _ h => h.elim)
  have h1 := bset25 (bset25 (blk_old25 (bset25 h 0 (.int .i64 17)) X) 2 (.int .i64 hn)) 23 (.slice (some ⟨ub, 0, none⟩) 1 1)
  rw [lcs17 q hn ub] at h1
  exact ⟨ub, h1, (((hk.setCell (p := ⟨c6, 0, none⟩) (.inl rfl) _).alloc X).setCell (p := ⟨c6, 2, none⟩) (.inl rfl) _).setCell (p := ⟨c6, 23, none⟩) (.inl rfl) _⟩
theorem cut8_c {wc w3 : World} {c6 ub : Nat} {q : LV} {hn : Int} (h : w3.heap[c6]? = some (.cells (lcs q) 48 (0, 0))) (hk0 : Kept NoB wc w3) (X : Obj) : RqCut8 wc c6 q hn ((((w3.setCell ⟨c6, 0, none⟩ (.int .i64 17)).setCell ⟨c6, 2, none⟩ (.int .i64 hn)).alloc X).setCell ⟨c6, 23, none⟩ (.slice (some ⟨ub, 0, none⟩) 1 1)) := by
  have hk := hk0.mono (T := fun b => b = c6) (fun _ _ h => h.elim)
  have h1 := bset25 (blk_old25 (bset25 (bset25 h 0 (.int .i64 17)) 2 (.int .i64 hn)) X) 23 (.slice (some ⟨ub, 0, none⟩) 1 1)
  rw [lcs17 q hn ub] at h1
  exact ⟨ub, h1, (((hk.setCell (p := ⟨c6, 0, none⟩) (.inl rfl) _).setCell (p := ⟨c6, 2, none⟩) (.inl rfl) _).alloc X).setCell (p := ⟨c6, 23, none⟩) (.inl rfl) _⟩
theorem cut8_d {wc w3 : World} {c6 ub : Nat} {q : LV} {hn : Int} (h : w3.heap[c6]? = some (.cells (lcs q) 48 (0, 0))) (hk0 : Kept NoB wc w3) : RqCut8 wc c6 q hn (((w3.setCell ⟨c6, 0, none⟩ (.int .i64 17)).setCell ⟨c6, 2, none⟩ (.int .i64 hn)).setCell ⟨c6, 23, none⟩ (.slice (some ⟨ub, 0, none⟩) 1 1)) := by
  have hk := hk0.mono (T := fun b => b = c6) (fun _ _ h => h.elim)
  have h1 := bset25 (bset25 (bset25 h 0 (.int .i64 17)) 2 (.int .i64 hn)) 23 (.slice (some ⟨ub, 0, none⟩) 1 1)
  rw [lcs17 q hn ub] at h1
  exact ⟨ub, h1, ((hk.setCell (p := ⟨c6, 0, none⟩) (.inl rfl) _).setCell (p := ⟨c6, 2, none⟩) (.inl rfl) _).setCell (p := ⟨c6, 23, none⟩) (.inl rfl) _⟩
theorem kept_far26 {S : Nat → Prop} {a b c : World} (h : Kept NoB a b) (k : Kept S b c) (hs : ∀ i, S i → a.heap.size ≤ i) : Kept NoB a c := h.trans k (fun i hi h => by have := hs i h; omega)
theorem Kept.setRow26 {S : Nat → Prop} {a w : World} (h : Kept S a w) {g : Nat} (hg : S g ∨ a.heap.size ≤ g) (cs : Array Value) : Kept S a (w.setRow g cs) :=
  h.trans (⟨rfl, rfl, rfl, Nat.le_of_eq (by simp), fun i _ hs => setRow_other w g i cs hs⟩ : Kept (fun k => k = g) w (w.setRow g cs)) (fun i hi he => by subst he; rcases hg with h | h; exact h; omega)
theorem setRow26_at {w : World} {g : Nat} {cs cs' : Array Value} {t : TypeId} (h : w.heap[g]? = some (.cells cs t (0, 0))) : (w.setRow g cs').heap[g]? = some (.cells cs' t (0, 0)) := setRow_heap w g cs cs' t _ h
theorem AtAt.any {w w' : World} {B g r z : Nat} {l : List Cf} (h : AtAt w B g r z l) (hk : Kept NoB w w') : AtAt w' B g r z l := h.no hk
set_option maxRecDepth 100000 in
set_option maxHeartbeats 4000000 in
theorem Req26_write (w : World) (g B r z : Nat) (x : CS) (l : List Cf) (h : CaAt w g x) (hat : AtAt w B x.ga r z l) (l1 : 1 ≤ l.length) (l2 : l.length ≤ 1000) (hk : x.k ≠ 1) (y0 : 0 ≤ x.y) (y1 : x.y ≤ 4294967295) (c1 : 1 ≤ x.cl) (c6 : x.cl ≤ 6)
    (da : Option Addr) (dc : Nat) (od : List Int) (F : Nat → Prop) (hdv : x.d = .slice da od.length dc) (hd : BSl w F (.slice da od.length dc) od) (hF : ∀ k, F k → k < w.heap.size) (hod : od.length ≤ 1000000) (ht : Tab10 w) :
    Calls Tryz.prog 18 #[.pointer (some ⟨g, 0, none⟩)] w fun e w' => ∃ q : LV, e = .returned (.agg (lcs q)) ∧ q.fr = 200 + x.cl ∧ q.to = headN (nthC l (plc25 x.y l)) ∧ q.gn = .slice none 0 0 ∧ q.vo = .slice none 0 0 ∧ (∃ ua un uc, q.up = .slice ua un uc) ∧ q.da = .slice none 0 0 ∧ Kept NoB w w' := by
  have HH := Lib.hid (heap_alloc_new w (.cells (lcs lv0) 48))
  have HK := Lib.hid ((Kept.refl NoB w).alloc (.cells (lcs lv0) 48))
  have HG := Lib.hid h
  have HOF := Lib.hid (fun w' (hk : Kept NoB w w') => Of25_any w' _ _ _ _ l (hat.no hk) l1 l2 x.y y0 y1)
  have HHD := Lib.hid (fun w' (hk : Kept NoB w w') => Head25_any w' _ _ _ _ l (hat.no hk) l1 l2 x.y y0 y1)
  have HAD := Lib.hid (fun w' (hk : Kept NoB w w') => CAddr_any w' g x (h.no hk) c1 c6)
  have HRQ : Hid (∀ w', Kept NoB w w' → Calls Tryz.prog 31 #[.agg #[.int .i64 x.k, .int .u32 x.y, .int .u64 x.v, .slice da od.length dc, .int .i64 x.p], .int .i64 x.cl, .int .u64 x.nu] w' fun e w'' => ∃ (u0 u1 u2 u3 u4 u5 E : Int) (ua : Option Addr) (un uc : Nat), e = .returned (.tuple #[.agg #[.int .u64 u0, .int .i64 u1, .int .u64 u2, .int .i64 u3, .int .u32 u4, .int .u64 u5, .slice ua un uc], .int .i64 E]) ∧ Kept NoB w' w'') := Lib.hid (fun w' hk => (URequest_any w' da dc x.k x.y x.v x.p x.cl x.nu od F (hd.kept hk (fun _ _ h => h)) (fun k hF' => Nat.lt_of_lt_of_le (hF k hF') hk.size) (ht.kept hk (fun h => h)) hod).mono (by
    rintro e w'' ⟨v', rfl, ⟨u, rfl, hu⟩, hk'⟩
    obtain ⟨ua, uc, rfl, _⟩ := hu
    exact ⟨_, _, _, _, _, _, _, ua, _, uc, rfl, hk'⟩))
  obtain ⟨m, hm⟩ : ∃ m, m = od.length := ⟨_, rfl⟩
  rw [← hm] at hdv HRQ
  have HHN : Hid (True) := Lib.hid trivial
  obtain ⟨cf, hcf⟩ : ∃ cf, cf = nthC l (plc25 x.y l) := ⟨_, rfl⟩
  rw [← hcf] at HOF HHD ⊢
  obtain ⟨hn, hhn⟩ : ∃ hn, hn = headN cf := ⟨_, rfl⟩
  rw [← hhn] at HHD ⊢
  have HCC : Hid (∀ w', Kept NoB w w' → w'.cell? ⟨g, 0, none⟩ = some (.int .i64 x.cl) ∧ w'.cell? ⟨g, 3, none⟩ = some (.pointer (some ⟨x.ga, 0, none⟩)) ∧ w'.cell? ⟨g, 4, none⟩ = some (.int .u64 x.nu) ∧ w'.cell? ⟨g, 5, none⟩ = some (.int .i64 x.k) ∧ w'.cell? ⟨g, 6, none⟩ = some (.int .u32 x.y) ∧ w'.cell? ⟨g, 7, none⟩ = some (.int .u64 x.v) ∧ w'.cell? ⟨g, 8, none⟩ = some (.slice da m dc) ∧ w'.cell? ⟨g, 9, none⟩ = some (.int .i64 x.p)) := Lib.hid (fun w' hk => by
    obtain ⟨c0, _, _, c3, c4, c5, c6, c7, c8, c9, _⟩ := (h.no hk).c
    rw [hdv] at c8
    exact ⟨c0, c3, c4, c5, c6, c7, c8, c9⟩)
  have hgl : g < w.heap.size := heap_lt h
  have hkb : (x.k == 1) = false := beq_eq_false_iff_ne.2 hk
  obtain ⟨cl, ms, tk, ga, nu, k, y, v, d, p, lp, nu2, k2, yy2, v2, d2, p2, lp2⟩ := x
  simp only at HG HOF HHD HAD HRQ HCC hkb hk ⊢
  obtain ⟨W, hW⟩ : ∃ W, W = w.alloc (.cells (lcs lv0) 48) := ⟨_, rfl⟩
  have HSZ : Hid (W.heap.size = w.heap.size + 1) := Lib.hid (by rw [hW]; simp)
  rw [← hW] at HH HK
  have HW : Hid (W = w.alloc (.cells #[.int .i64 0, .int .i64 0, .int .i64 0, .int .i64 0, .int .u64 0, .int .u64 0, .int .u64 0, .int .u64 0, .int .u64 0, .int .u64 0, .int .i64 0, .int .u32 0, .int .i64 0, .int .i64 0, .int .i64 0, .int .u64 0, .int .i64 0, .int .i64 0, .int .u64 0, .slice none 0 0, .bool false, .int .i64 0, .slice none 0 0, .slice none 0 0, .slice none 0 0] 48)) := Lib.hid hW
  clear hW hcf hhn hm hdv hd h hat hF ht l1 l2 hod HHN
  go_enter Tryz.func18, Tryz.ntmps18
  go_upto_region 1 with fail
  rw [← HW.out]
  have hq1 : ¬ g = W.heap.size := by have := HSZ.out; omega
  have hq2 : ¬ W.heap.size = g := fun h => hq1 h.symm
  have HTEN : Hid (∀ w', Kept (fun b => b = W.heap.size) W w' → w'.cell? ⟨g, 4, none⟩ = some (.int .u64 nu) ∧ w'.cell? ⟨g, 5, none⟩ = some (.int .i64 k) ∧ w'.cell? ⟨g, 6, none⟩ = some (.int .u32 y) ∧ w'.cell? ⟨g, 7, none⟩ = some (.int .u64 v) ∧ w'.cell? ⟨g, 8, none⟩ = some (.slice da m dc) ∧ w'.cell? ⟨g, 9, none⟩ = some (.int .i64 p)) := Lib.hid (fun w' hk => by
    obtain ⟨c0, c3, c4, c5, c6, c7, c8, c9⟩ := HCC.out W HK.out
    exact ⟨hk.cell (p := ⟨g, 4, none⟩) hq1 c4, hk.cell (p := ⟨g, 5, none⟩) hq1 c5, hk.cell (p := ⟨g, 6, none⟩) hq1 c6, hk.cell (p := ⟨g, 7, none⟩) hq1 c7, hk.cell (p := ⟨g, 8, none⟩) hq1 c8, hk.cell (p := ⟨g, 9, none⟩) hq1 c9⟩)
  have HT := Lib.hid (HTEN.out _ (Kept.refl _ W).drew)
  have HTA := Lib.hid (HTEN.out _ ((Kept.refl (fun b => b = W.heap.size) W).alloc (.cells #[.int .i64 0, .int .u32 0, .int .u64 0, .slice none 0 0, .int .i64 0] 26)).drew)
  have HTB := Lib.hid (HTEN.out _ ((Kept.refl (fun b => b = W.heap.size) W).alloc (.cells #[.int .i64 k, .int .u32 y, .int .u64 v, .slice da m dc, .int .i64 p] 26)).drew)
  go_region_held3 (fun w' => w'.cell? ⟨g, 4, none⟩ = some (.int .u64 nu) ∧ w'.cell? ⟨g, 5, none⟩ = some (.int .i64 k) ∧ w'.cell? ⟨g, 6, none⟩ = some (.int .u32 y) ∧ w'.cell? ⟨g, 7, none⟩ = some (.int .u64 v) ∧ w'.cell? ⟨g, 8, none⟩ = some (.slice da m dc) ∧ w'.cell? ⟨g, 9, none⟩ = some (.int .i64 p))
    (first | (with_reducible exact HT.out) | (with_reducible exact HTA.out) | (with_reducible exact HTB.out) | go_keep)
    (fail)
  have HVO := Lib.hid (heap_alloc_new W (.cells #[.int .i64 k, .int .u32 y, .int .u64 v, .slice da m dc, .int .i64 p] 26))
  have HKV := Lib.hid (((HK.out).alloc (.cells #[.int .i64 k, .int .u32 y, .int .u64 v, .slice da m dc, .int .i64 p] 26)).drew)
  have HHV := Lib.hid (blk_old25 HH.out (.cells #[.int .i64 k, .int .u32 y, .int .u64 v, .slice da m dc, .int .i64 p] 26))
  obtain ⟨V, hV⟩ : ∃ V, V = (W.alloc (.cells #[.int .i64 k, .int .u32 y, .int .u64 v, .slice da m dc, .int .i64 p] 26)).drew := ⟨_, rfl⟩
  have HVV := Lib.hid hV
  have HVZ : Hid (V.heap.size = w.heap.size + 2) := Lib.hid (by have h : V.heap.size = W.heap.size + 1 := (by rw [hV]; simp [World.drew]); have := HSZ.out; omega)
  replace HVO : Hid (V.heap[W.heap.size]? = some (.cells #[.int .i64 k, .int .u32 y, .int .u64 v, .slice da m dc, .int .i64 p] 26 (0, 0))) := Lib.hid (by rw [hV]; exact HVO.out)
  replace HHV : Hid (V.heap[w.heap.size]? = some (.cells (lcs lv0) 48 (0, 0))) := Lib.hid (by rw [hV]; exact HHV.out)
  rw [← hV] at HKV
  clear HT HTA HTB HTEN hV
  obtain ⟨b1, hb1⟩ : ∃ b1, b1 = W.heap.size := ⟨_, rfl⟩
  rw [← hb1] at HVO hq1 hq2 HSZ
  have HTEN : Hid (∀ w', Kept NoB V w' → w'.cell? ⟨g, 3, none⟩ = some (.pointer (some ⟨ga, 0, none⟩)) ∧ w'.cell? ⟨b1, 1, none⟩ = some (.int .u32 y)) := Lib.hid (fun w' hk => ⟨(HCC.out w' (HKV.out.trans hk (fun _ _ h => h))).2.1, cell_of_row _ _ 1 _ _ _ (hk.heap (fun h => h) HVO.out)⟩)
  go_upto_region 2 with fail
  rw [← hb1, ← HVV.out]
  clear hb1
  go_cut [5] from 9 to 76 (RqCut2 V cf)
  case first =>
    have HKc := Lib.hid (Kept.refl NoB V).drew
    have HT := Lib.hid (HTEN.out _ HKc.out)
    have HTA := Lib.hid (HTEN.out _ ((Kept.refl NoB V).alloc (.cells #[.int .i64 0, .int .u64 0, .slice none 0 0, .bool false, .int .i64 0] 44)).drew)
    have hv1 : ¬ g = V.heap.size := by have := HVZ.out; omega
    have hv2 : ¬ V.heap.size = g := fun h => hv1 h.symm
    have hv3 : ¬ b1 = V.heap.size := by have := HVZ.out; have := HSZ.out; omega
    have hv4 : ¬ V.heap.size = b1 := fun h => hv3 h.symm
    go_region_held3 (fun w' => w'.cell? ⟨g, 3, none⟩ = some (.pointer (some ⟨ga, 0, none⟩)) ∧ w'.cell? ⟨b1, 1, none⟩ = some (.int .u32 y))
      (first | (with_reducible exact HT.out) | (with_reducible exact HTA.out) | (with_reducible exact ⟨cell_alloc HT.out.1 _, cell_alloc HT.out.2 _⟩) | go_keep)
      ((first
        | (go_at_call 33; (with_reducible refine (HOF.out _ (HKV.out.trans (by first | exact HKc.out | exact HKc.out.alloc _ | exact ((Kept.refl NoB V).alloc _).drew) (fun _ _ h => h))).mono ?_); rintro e w3 ⟨v3, rfl, ⟨u3, rfl, hn3, _⟩, hk3⟩; obtain ⟨ua3, uc3, rfl, _⟩ := hn3; (try (have HZ := Lib.hid (hk3.heap (fun h => h) (by exact heap_alloc_new V (.cells #[.int .i64 0, .int .u64 0, .slice none 0 0, .bool false, .int .i64 0] 44))); have z0 := (cells5 HZ.out).1; have z1 := (cells5 HZ.out).2.1; have z2 := (cells5 HZ.out).2.2.1; have z3 := (cells5 HZ.out).2.2.2.1; have z4 := (cells5 HZ.out).2.2.2.2; have f0 := frz25 HZ.out 0; have f1 := frz25 HZ.out 1; have f2 := frz25 HZ.out 2; have f3 := frz25 HZ.out 3; have f4 := frz25 HZ.out 4)); replace HKc := Lib.hid ((by first | exact HKc.out | exact HKc.out.alloc _ | exact ((Kept.refl NoB V).alloc _).drew : Kept NoB V _).trans hk3 (fun _ _ h => h)); replace HT := Lib.hid (HTEN.out _ HKc.out); clear hk3)
        | fail))
    · have HREL : Hid (RqCut2 V cf (.pointer (some ⟨w3.heap.size, 0, none⟩)) (w3.alloc (.cells #[.int .i64 cf.ch, .int .u64 cf.ep, .slice ua3 cf.ns.length uc3, .bool cf.fr, .int .i64 cf.jn] 44))) := Lib.hid ⟨w3.heap.size, ua3, uc3, rfl, heap_alloc_new _ _, HKc.out.size, HKc.out.alloc _⟩
      go_wp2_with fail
      go_meet
      exact HREL.out
    · have HREL : Hid (RqCut2 V cf (.pointer (some ⟨V.heap.size, 0, none⟩)) (five25 w3 V.heap.size (.int .i64 cf.ch) (.int .u64 cf.ep) (.slice ua3 cf.ns.length uc3) (.bool cf.fr) (.int .i64 cf.jn))) := Lib.hid ⟨V.heap.size, ua3, uc3, rfl, five25_at HZ.out _ _ _ _ _, Nat.le_refl _, HKc.out.five25 (.inr (Nat.le_refl _)) _ _ _ _ _⟩
      clear z0 z1 z2 z3 z4 f0 f1 f2 f3 f4
      go_wp2_with fail
      go_meet
      exact HREL.out
  case rest =>
    obtain ⟨c, ua, uc, rfl, hcf, hcc, hkx⟩ := hcut
    have HKX := Lib.hid hkx
    have HCF := Lib.hid hcf
    have HCB : Hid (w.heap.size + 2 ≤ c) := Lib.hid (by rw [← HVZ.out]; exact hcc)
    have HVX := Lib.hid (hkx.heap (fun h => h) HVO.out)
    have HHX := Lib.hid (hkx.heap (fun h => h) HHV.out)
    have HKY := Lib.hid (HKV.out.trans hkx (fun _ _ h => h))
    clear hcf hcc hkx
    have HTEN2 : Hid (∀ w', Kept NoB wc w' → w'.cell? ⟨c, 0, none⟩ = some (.int .i64 cf.ch) ∧ w'.cell? ⟨c, 1, none⟩ = some (.int .u64 cf.ep)) := Lib.hid (fun w' hk => ⟨cell_of_row _ _ 0 _ _ _ (hk.heap (fun h => h) HCF.out), cell_of_row _ _ 1 _ _ _ (hk.heap (fun h => h) HCF.out)⟩)
    have HKc := Lib.hid (Kept.refl NoB wc).drew
    have HT := Lib.hid (HTEN2.out _ HKc.out)
    go_upto_region 3 with fail
    have HKz : Hid (Kept NoB wc ((wc.alloc (.cells #[.int .i64 0, .int .i64 0, .int .i64 0, .int .i64 0, .int .u64 0, .int .u64 0, .int .u64 0, .int .u64 0, .int .u64 0, .int .u64 0, .int .i64 0, .int .u32 0, .int .i64 0, .int .i64 0, .int .i64 0, .int .u64 0, .int .i64 0, .int .i64 0, .int .u64 0, .slice none 0 0, .bool false, .int .i64 0, .slice none 0 0, .slice none 0 0, .slice none 0 0] 48)).drew)) := Lib.hid ((Kept.refl NoB wc).alloc _).drew
    have HTZ := Lib.hid (HTEN2.out _ HKz.out)
    have HZA : Hid (((wc.alloc (.cells #[.int .i64 0, .int .i64 0, .int .i64 0, .int .i64 0, .int .u64 0, .int .u64 0, .int .u64 0, .int .u64 0, .int .u64 0, .int .u64 0, .int .i64 0, .int .u32 0, .int .i64 0, .int .i64 0, .int .i64 0, .int .u64 0, .int .i64 0, .int .i64 0, .int .u64 0, .slice none 0 0, .bool false, .int .i64 0, .slice none 0 0, .slice none 0 0, .slice none 0 0] 48)).drew).heap[wc.heap.size]? = some (.cells (lcs lv0) 48 (0, 0))) := Lib.hid (heap_alloc_new wc _)
    have hcw : c < wc.heap.size := heap_lt HCF.out
    have HRS : Hid ((((wc.alloc (.cells #[.int .i64 0, .int .i64 0, .int .i64 0, .int .i64 0, .int .u64 0, .int .u64 0, .int .u64 0, .int .u64 0, .int .u64 0, .int .u64 0, .int .i64 0, .int .u32 0, .int .i64 0, .int .i64 0, .int .i64 0, .int .u64 0, .int .i64 0, .int .i64 0, .int .u64 0, .slice none 0 0, .bool false, .int .i64 0, .slice none 0 0, .slice none 0 0, .slice none 0 0] 48)).drew).setRow wc.heap.size (lcs ({ lv0 with fr := 200 + cl, ch := cf.ch, ep := cf.ep } : LV))).heap[wc.heap.size]? = some (.cells (lcs ({ lv0 with fr := 200 + cl, ch := cf.ch, ep := cf.ep } : LV)) 48 (0, 0)) ∧ Kept NoB wc (((wc.alloc (.cells #[.int .i64 0, .int .i64 0, .int .i64 0, .int .i64 0, .int .u64 0, .int .u64 0, .int .u64 0, .int .u64 0, .int .u64 0, .int .u64 0, .int .i64 0, .int .u32 0, .int .i64 0, .int .i64 0, .int .i64 0, .int .u64 0, .int .i64 0, .int .i64 0, .int .u64 0, .slice none 0 0, .bool false, .int .i64 0, .slice none 0 0, .slice none 0 0, .slice none 0 0] 48)).drew).setRow wc.heap.size (lcs ({ lv0 with fr := 200 + cl, ch := cf.ch, ep := cf.ep } : LV)))) := Lib.hid ⟨setRow26_at HZA.out, HKz.out.setRow26 (.inr (Nat.le_refl _)) _⟩
    have HTS := Lib.hid (HTEN2.out _ HRS.out.2)
    go_cut [6] from 9 to 76 (RqCut3 wc ({ lv0 with fr := 200 + cl, ch := cf.ch, ep := cf.ep } : LV))
    case first =>
      refine wp_region_noPanic ?_
      refine wp_region_held_drew (S := (fun w' => w'.cell? ⟨c, 0, none⟩ = some (.int .i64 cf.ch) ∧ w'.cell? ⟨c, 1, none⟩ = some (.int .u64 cf.ep))) (by kernel_rfl) ?_ (fun hHeld => ?_)
      · (try dsimp only); with_reducible exact HT.out
      refine wpAnyH_take (i := 0) (oi := { dst := some 26, op := Op.move (Operand.tmp 0), type := 32, pos := "caller.go:165", after := #[], guard := none }) (v := ?_) rfl (by kernel_rfl) (by kernel_rfl) (by kernel_rfl) (fun _ _ _ h => h) (Or.inl ⟨by rfl, ?_⟩) (by assumption) ?_
      rotate_left
      · (intro w hSw; (try dsimp only at hSw); go_simp; try with_reducible rfl)
      try simp only [Act.put, List.setIfInBounds_toArray, List.set_cons_zero, List.set_cons_succ]
      refine wpAnyH_take (i := 2) (oi := { dst := some 28, op := Op.fieldAddr 44 (Operand.tmp 5) 0, type := 0, pos := "caller.go:165", after := #[], guard := none }) (v := ?_) rfl (by kernel_rfl) (by kernel_rfl) (by kernel_rfl) (fun _ _ _ h => h) (Or.inl ⟨by rfl, ?_⟩) (by assumption) ?_
      rotate_left
      · (intro w hSw; (try dsimp only at hSw); go_simp; try with_reducible rfl)
      try simp only [Act.put, List.setIfInBounds_toArray, List.set_cons_zero, List.set_cons_succ]
      refine wpAnyH_take (i := 3) (oi := { dst := some 29, op := Op.load 3 (Operand.tmp 28), type := 3, pos := "caller.go:165", after := #[{ on := 2, ground := Ground.data }], guard := none }) (v := ?_) rfl (by kernel_rfl) (by kernel_rfl) (by kernel_rfl) (fun _ _ _ h => h) (Or.inl ⟨by rfl, ?_⟩) (by assumption) ?_
      rotate_left
      · (intro w hSw; (try dsimp only at hSw); go_simp; try with_reducible rfl)
      try simp only [Act.put, List.setIfInBounds_toArray, List.set_cons_zero, List.set_cons_succ]
      refine wpAnyH_take (i := 4) (oi := { dst := some 30, op := Op.fieldAddr 44 (Operand.tmp 5) 1, type := 0, pos := "caller.go:165", after := #[], guard := none }) (v := ?_) rfl (by kernel_rfl) (by kernel_rfl) (by kernel_rfl) (fun _ _ _ h => h) (Or.inl ⟨by rfl, ?_⟩) (by assumption) ?_
      rotate_left
      · (intro w hSw; (try dsimp only at hSw); go_simp; try with_reducible rfl)
      try simp only [Act.put, List.setIfInBounds_toArray, List.set_cons_zero, List.set_cons_succ]
      refine wpAnyH_take (i := 5) (oi := { dst := some 31, op := Op.load 23 (Operand.tmp 30), type := 23, pos := "caller.go:165", after := #[{ on := 4, ground := Ground.data }], guard := none }) (v := ?_) rfl (by kernel_rfl) (by kernel_rfl) (by kernel_rfl) (fun _ _ _ h => h) (Or.inl ⟨by rfl, ?_⟩) (by assumption) ?_
      rotate_left
      · (intro w hSw; (try dsimp only at hSw); go_simp; try with_reducible rfl)
      try simp only [Act.put, List.setIfInBounds_toArray, List.set_cons_zero, List.set_cons_succ]
      refine wpAnyH_ready (rs := [1, 7]) (by kernel_rfl) (by simp) ?_
      refine AllReadyH.cons (o := { dst := some 27, op := Op.call { callee := Callee.value (Operand.func 21), args := #[Operand.tmp 26], argTypes := #[32] }, type := 3, pos := "caller.go:165", after := #[{ on := 0, ground := Ground.data }], guard := none }) rfl (fun K hK => ?_) (AllReadyH.cons (o := { dst := some 6, op := Op.alloc 48, type := 0, pos := "caller.go:165", after := #[], guard := none }) rfl (fun K hK => ?_) AllReadyH.nil)
      · skip
        rw [if_pos (by rfl)]
        go_simp
        refine (HAD.out _ (HKY.out.trans HKc.out (fun _ _ h => h))).mono ?_
        rintro e w3 ⟨rfl, rfl⟩
        try dsimp only
        refine hK.out _ _ ?_ (fun hHeld => ?_)
        · (try dsimp only); with_reducible exact HT.out
        clear hK K
        try simp only [Act.put, List.setIfInBounds_toArray, List.set_cons_zero, List.set_cons_succ]
        refine wpAnyH_take (i := 6) (oi := { dst := some 32, op := Op.build 48 #[(1, Operand.tmp 27), (3, Operand.tmp 29), (4, Operand.tmp 31)], type := 48, pos := "caller.go:165", after := #[{ on := 1, ground := Ground.data }, { on := 3, ground := Ground.data }, { on := 5, ground := Ground.data }], guard := none }) (v := ?_) rfl (by kernel_rfl) (by kernel_rfl) (by kernel_rfl) (fun _ _ _ h => h) (Or.inl ⟨by rfl, ?_⟩) (by assumption) ?_
        rotate_left
        · (intro w hSw; (try dsimp only at hSw); go_simp; try with_reducible rfl)
        try simp only [Act.put, List.setIfInBounds_toArray, List.set_cons_zero, List.set_cons_succ]
        refine wpAnyH_ready (rs := [7]) (by kernel_rfl) (by simp) ?_
        refine AllReadyH.cons (o := { dst := some 6, op := Op.alloc 48, type := 0, pos := "caller.go:165", after := #[], guard := none }) rfl (fun K hK => ?_) AllReadyH.nil
        rw [if_pos (by rfl)]
        go_simp
        refine hK.out _ _ ?_ (fun hHeld => ?_)
        · exact HTZ.out
        clear hK K
        try simp only [Act.put, List.setIfInBounds_toArray, List.set_cons_zero, List.set_cons_succ]
        refine wpAnyH_ready (rs := [8]) (by kernel_rfl) (by simp) ?_
        refine AllReadyH.cons (o := { dst := none, op := Op.store 48 (Operand.tmp 6) (Operand.tmp 32), type := 0, pos := "caller.go:165", after := #[{ on := 7, ground := Ground.data }, { on := 6, ground := Ground.data }, { on := 1, ground := Ground.chain }, { on := 0, ground := Ground.phase }, { on := 1, ground := Ground.phase }, { on := 2, ground := Ground.phase }, { on := 3, ground := Ground.phase }, { on := 4, ground := Ground.phase }, { on := 5, ground := Ground.phase }, { on := 6, ground := Ground.phase }, { on := 7, ground := Ground.phase }], guard := none }) rfl (fun K hK => ?_) AllReadyH.nil
        rw [if_pos (by rfl)]
        refine wp_store_row 48 (Operand.tmp 6) (Operand.tmp 32) rfl wc.heap.size (lcs ({ lv0 with fr := 200 + cl, ch := cf.ch, ep := cf.ep } : LV)) rfl rfl 48 (lcs lv0) HZA.out (by kernel_rfl) rfl (by rw [← Array.all_toList]; rfl) ?_
        refine hK.out _ _ ?_ (fun hHeld => ?_)
        · exact HTS.out
        clear hK K
        try simp only [Act.put, List.setIfInBounds_toArray, List.set_cons_zero, List.set_cons_succ]
        refine wpAnyH_done (by kernel_rfl) ?_ _
        refine NoPanic.normal ?_
        obtain ⟨ww, hww⟩ : ∃ ww, ww = ((wc.alloc (.cells #[.int .i64 0, .int .i64 0, .int .i64 0, .int .i64 0, .int .u64 0, .int .u64 0, .int .u64 0, .int .u64 0, .int .u64 0, .int .u64 0, .int .i64 0, .int .u32 0, .int .i64 0, .int .i64 0, .int .i64 0, .int .u64 0, .int .i64 0, .int .i64 0, .int .u64 0, .slice none 0 0, .bool false, .int .i64 0, .slice none 0 0, .slice none 0 0, .slice none 0 0] 48)).drew).setRow wc.heap.size (lcs ({ lv0 with fr := 200 + cl, ch := cf.ch, ep := cf.ep } : LV)) := ⟨_, rfl⟩
        have HREL : Hid (RqCut3 wc ({ lv0 with fr := 200 + cl, ch := cf.ch, ep := cf.ep } : LV) (.pointer (some ⟨wc.heap.size, 0, none⟩)) ww) := Lib.hid (by rw [hww]; exact ⟨wc.heap.size, rfl, HRS.out.1, Nat.le_refl _, HRS.out.2⟩)
        clear hHeld
        rw [← hww]
        clear hww HRS HTS HZA
        go_wp2_with fail
        go_meet
        exact HREL.out
      · skip
        rw [if_pos (by rfl)]
        go_simp
        refine hK.out _ _ ?_ (fun hHeld => ?_)
        · exact HTZ.out
        clear hK K
        try simp only [Act.put, List.setIfInBounds_toArray, List.set_cons_zero, List.set_cons_succ]
        refine wpAnyH_ready (rs := [1]) (by kernel_rfl) (by simp) ?_
        refine AllReadyH.cons (o := { dst := some 27, op := Op.call { callee := Callee.value (Operand.func 21), args := #[Operand.tmp 26], argTypes := #[32] }, type := 3, pos := "caller.go:165", after := #[{ on := 0, ground := Ground.data }], guard := none }) rfl (fun K hK => ?_) AllReadyH.nil
        rw [if_pos (by rfl)]
        go_simp
        refine (HAD.out _ (HKY.out.trans HKz.out (fun _ _ h => h))).mono ?_
        rintro e w3 ⟨rfl, rfl⟩
        try dsimp only
        refine hK.out _ _ ?_ (fun hHeld => ?_)
        · exact HTZ.out
        clear hK K
        try simp only [Act.put, List.setIfInBounds_toArray, List.set_cons_zero, List.set_cons_succ]
        refine wpAnyH_take (i := 6) (oi := { dst := some 32, op := Op.build 48 #[(1, Operand.tmp 27), (3, Operand.tmp 29), (4, Operand.tmp 31)], type := 48, pos := "caller.go:165", after := #[{ on := 1, ground := Ground.data }, { on := 3, ground := Ground.data }, { on := 5, ground := Ground.data }], guard := none }) (v := ?_) rfl (by kernel_rfl) (by kernel_rfl) (by kernel_rfl) (fun _ _ _ h => h) (Or.inl ⟨by rfl, ?_⟩) (by assumption) ?_
        rotate_left
        · (intro w hSw; (try dsimp only at hSw); go_simp; try with_reducible rfl)
        try simp only [Act.put, List.setIfInBounds_toArray, List.set_cons_zero, List.set_cons_succ]
        refine wpAnyH_ready (rs := [8]) (by kernel_rfl) (by simp) ?_
        refine AllReadyH.cons (o := { dst := none, op := Op.store 48 (Operand.tmp 6) (Operand.tmp 32), type := 0, pos := "caller.go:165", after := #[{ on := 7, ground := Ground.data }, { on := 6, ground := Ground.data }, { on := 1, ground := Ground.chain }, { on := 0, ground := Ground.phase }, { on := 1, ground := Ground.phase }, { on := 2, ground := Ground.phase }, { on := 3, ground := Ground.phase }, { on := 4, ground := Ground.phase }, { on := 5, ground := Ground.phase }, { on := 6, ground := Ground.phase }, { on := 7, ground := Ground.phase }], guard := none }) rfl (fun K hK => ?_) AllReadyH.nil
        rw [if_pos (by rfl)]
        refine wp_store_row 48 (Operand.tmp 6) (Operand.tmp 32) rfl wc.heap.size (lcs ({ lv0 with fr := 200 + cl, ch := cf.ch, ep := cf.ep } : LV)) rfl rfl 48 (lcs lv0) HZA.out (by kernel_rfl) rfl (by rw [← Array.all_toList]; rfl) ?_
        refine hK.out _ _ ?_ (fun hHeld => ?_)
        · exact HTS.out
        clear hK K
        try simp only [Act.put, List.setIfInBounds_toArray, List.set_cons_zero, List.set_cons_succ]
        refine wpAnyH_done (by kernel_rfl) ?_ _
        refine NoPanic.normal ?_
        obtain ⟨ww, hww⟩ : ∃ ww, ww = ((wc.alloc (.cells #[.int .i64 0, .int .i64 0, .int .i64 0, .int .i64 0, .int .u64 0, .int .u64 0, .int .u64 0, .int .u64 0, .int .u64 0, .int .u64 0, .int .i64 0, .int .u32 0, .int .i64 0, .int .i64 0, .int .i64 0, .int .u64 0, .int .i64 0, .int .i64 0, .int .u64 0, .slice none 0 0, .bool false, .int .i64 0, .slice none 0 0, .slice none 0 0, .slice none 0 0] 48)).drew).setRow wc.heap.size (lcs ({ lv0 with fr := 200 + cl, ch := cf.ch, ep := cf.ep } : LV)) := ⟨_, rfl⟩
        have HREL : Hid (RqCut3 wc ({ lv0 with fr := 200 + cl, ch := cf.ch, ep := cf.ep } : LV) (.pointer (some ⟨wc.heap.size, 0, none⟩)) ww) := Lib.hid (by rw [hww]; exact ⟨wc.heap.size, rfl, HRS.out.1, Nat.le_refl _, HRS.out.2⟩)
        clear hHeld
        rw [← hww]
        clear hww HRS HTS HZA
        go_wp2_with fail
        go_meet
        exact HREL.out
    case rest =>
      obtain ⟨c6, rfl, hl6, hc6, hk6⟩ := hcut
      have HKD := Lib.hid (HKY.out.trans hk6 (fun _ _ h => h))
      have HL6 := Lib.hid hl6
      have HOD := Lib.hid (hk6.heap (fun h => h) HVX.out)
      have HHD2 := Lib.hid (hk6.heap (fun h => h) HHX.out)
      have HC6 : Hid (w.heap.size + 2 < c6) := Lib.hid (by have := heap_lt HCF.out; have := HCB.out; omega)
      clear hl6 hc6 hk6 HTEN2 HKc HT HKz HTZ HZA hcw HRS HTS
      obtain ⟨c0, c1', c2, c3, c4⟩ := cells5 HOD.out
      go_upto_region 7 with fail
      clear c0 c1' c2 c3 c4
      have HTEN7 : Hid (∀ w', Kept NoB wc w' → w'.cell? ⟨g, 0, none⟩ = some (.int .i64 cl) ∧ w'.cell? ⟨b1, 0, none⟩ = some (.int .i64 k) ∧ w'.cell? ⟨b1, 1, none⟩ = some (.int .u32 y) ∧ w'.cell? ⟨b1, 2, none⟩ = some (.int .u64 v) ∧ w'.cell? ⟨b1, 3, none⟩ = some (.slice da m dc) ∧ w'.cell? ⟨b1, 4, none⟩ = some (.int .i64 p)) := Lib.hid (fun w' hk => ⟨(HCC.out w' (HKD.out.trans hk (fun _ _ h => h))).1, cells5 (hk.heap (fun h => h) HOD.out)⟩)
      go_cut [7, 8] from 9 to 76 (RqCut7 wc)
      case first =>
        have HKc := Lib.hid (Kept.refl NoB wc).drew
        have HT := Lib.hid (HTEN7.out _ HKc.out)
        have HTA := Lib.hid (HTEN7.out _ ((Kept.refl NoB wc).alloc (.cells #[.int .u64 0, .int .i64 0, .int .u64 0, .int .i64 0, .int .u32 0, .int .u64 0, .slice none 0 0] 84)).drew)
        have hb2 := heap_lt HOD.out
        have hv1 : ¬ g = wc.heap.size := by have := HKD.out.size; omega
        have hv2 : ¬ wc.heap.size = g := fun h => hv1 h.symm
        have hv3 : ¬ b1 = wc.heap.size := by omega
        have hv4 : ¬ wc.heap.size = b1 := fun h => hv3 h.symm
        clear hb2
        go_region_held3 (fun w' => w'.cell? ⟨g, 0, none⟩ = some (.int .i64 cl) ∧ w'.cell? ⟨b1, 0, none⟩ = some (.int .i64 k) ∧ w'.cell? ⟨b1, 1, none⟩ = some (.int .u32 y) ∧ w'.cell? ⟨b1, 2, none⟩ = some (.int .u64 v) ∧ w'.cell? ⟨b1, 3, none⟩ = some (.slice da m dc) ∧ w'.cell? ⟨b1, 4, none⟩ = some (.int .i64 p))
          (first | (with_reducible exact HT.out) | (with_reducible exact HTA.out) | (with_reducible exact ⟨cell_alloc HT.out.1 _, cell_alloc HT.out.2.1 _, cell_alloc HT.out.2.2.1 _, cell_alloc HT.out.2.2.2.1 _, cell_alloc HT.out.2.2.2.2.1 _, cell_alloc HT.out.2.2.2.2.2 _⟩) | go_keep)
          ((first
            | (go_at_call 31; (with_reducible refine (HRQ.out _ (HKD.out.trans (by first | exact HKc.out | exact HKc.out.alloc _ | exact ((Kept.refl NoB wc).alloc _).drew) (fun _ _ h => h))).mono ?_); rintro e w3 ⟨u0, u1, u2, u3, u4, u5, E, ua3, un3, uc3, rfl, hk3⟩; (try (have HZ := Lib.hid (hk3.heap (fun h => h) (by exact heap_alloc_new wc (.cells #[.int .u64 0, .int .i64 0, .int .u64 0, .int .i64 0, .int .u32 0, .int .u64 0, .slice none 0 0] 84))); have z0 := cell_of_row _ _ 0 _ _ _ HZ.out; have z1 := cell_of_row _ _ 1 _ _ _ HZ.out; have z2 := cell_of_row _ _ 2 _ _ _ HZ.out; have z3 := cell_of_row _ _ 3 _ _ _ HZ.out; have z4 := cell_of_row _ _ 4 _ _ _ HZ.out; have z5 := cell_of_row _ _ 5 _ _ _ HZ.out; have z6 := cell_of_row _ _ 6 _ _ _ HZ.out; have f0 := frz25 HZ.out 0; have f1 := frz25 HZ.out 1; have f2 := frz25 HZ.out 2; have f3 := frz25 HZ.out 3; have f4 := frz25 HZ.out 4; have f5 := frz25 HZ.out 5; have f6 := frz25 HZ.out 6)); replace HKc := Lib.hid ((by first | exact HKc.out | exact HKc.out.alloc _ | exact ((Kept.refl NoB wc).alloc _).drew : Kept NoB wc _).trans hk3 (fun _ _ h => h)); replace HT := Lib.hid (HTEN7.out _ HKc.out); clear hk3)
            | fail))
        · have HREL : Hid (RqCut7 wc (.pointer (some ⟨w3.heap.size, 0, none⟩)) (.int .i64 E) (w3.alloc (.cells #[.int .u64 u0, .int .i64 u1, .int .u64 u2, .int .i64 u3, .int .u32 u4, .int .u64 u5, .slice ua3 un3 uc3] 84))) := Lib.hid ⟨w3.heap.size, u0, u1, u2, u3, u4, u5, E, ua3, un3, uc3, rfl, rfl, heap_alloc_new _ _, HKc.out.size, HKc.out.alloc _⟩
          go_wp2_with fail
          go_meet
          exact HREL.out
        · have HREL : Hid (RqCut7 wc (.pointer (some ⟨wc.heap.size, 0, none⟩)) (.int .i64 E) (seven26 w3 wc.heap.size (.int .u64 u0) (.int .i64 u1) (.int .u64 u2) (.int .i64 u3) (.int .u32 u4) (.int .u64 u5) (.slice ua3 un3 uc3))) := Lib.hid ⟨wc.heap.size, u0, u1, u2, u3, u4, u5, E, ua3, un3, uc3, rfl, rfl, seven26_at HZ.out _ _ _ _ _ _ _, Nat.le_refl _, HKc.out.seven26 (.inr (Nat.le_refl _)) _ _ _ _ _ _ _⟩
          clear z0 z1 z2 z3 z4 z5 z6 f0 f1 f2 f3 f4 f5 f6
          go_wp2_with fail
          go_meet
          exact HREL.out
      case rest =>
        obtain ⟨c7, u0, u1, u2, u3, u4, u5, E, ua3, un3, uc3, rfl, rfl, hl7, hc7, hk7⟩ := hcut
        have HKF := Lib.hid (HKD.out.trans hk7 (fun _ _ h => h))
        have HL7 := Lib.hid hl7
        have HL6b := Lib.hid (hk7.heap (fun h => h) HL6.out)
        have HODb := Lib.hid (hk7.heap (fun h => h) HOD.out)
        have HHDb := Lib.hid (hk7.heap (fun h => h) HHD2.out)
        have hx1 : ¬ c6 = g := by have := HC6.out; omega
        have hx2 : ¬ c6 = b1 := by have := HC6.out; have := HSZ.out; omega
        have hx3 : ¬ c6 = c7 := by have := heap_lt HL6.out; omega
        have hx1' : ¬ g = c6 := fun h => hx1 h.symm
        have hx2' : ¬ b1 = c6 := fun h => hx2 h.symm
        have hx3' : ¬ c7 = c6 := fun h => hx3 h.symm
        clear hl7 hc7 hk7 HTEN7
        have HTEN8 : Hid (∀ w', Kept NoB wc w' → w'.cell? ⟨g, 3, none⟩ = some (.pointer (some ⟨ga, 0, none⟩)) ∧ w'.cell? ⟨b1, 1, none⟩ = some (.int .u32 y) ∧ w'.cell? ⟨c7, 0, none⟩ = some (.int .u64 u0) ∧ w'.cell? ⟨c7, 1, none⟩ = some (.int .i64 u1) ∧ w'.cell? ⟨c7, 2, none⟩ = some (.int .u64 u2) ∧ w'.cell? ⟨c7, 3, none⟩ = some (.int .i64 u3) ∧ w'.cell? ⟨c7, 4, none⟩ = some (.int .u32 u4) ∧ w'.cell? ⟨c7, 5, none⟩ = some (.int .u64 u5) ∧ w'.cell? ⟨c7, 6, none⟩ = some (.slice ua3 un3 uc3)) := Lib.hid (fun w' hk => by
          have h7 := hk.heap (fun h => h) HL7.out
          exact ⟨(HCC.out w' (HKF.out.trans hk (fun _ _ h => h))).2.1, cell_of_row _ _ 1 _ _ _ (hk.heap (fun h => h) HODb.out), cell_of_row _ _ 0 _ _ _ h7, cell_of_row _ _ 1 _ _ _ h7, cell_of_row _ _ 2 _ _ _ h7, cell_of_row _ _ 3 _ _ _ h7, cell_of_row _ _ 4 _ _ _ h7, cell_of_row _ _ 5 _ _ _ h7, cell_of_row _ _ 6 _ _ _ h7⟩)
        have HKc := Lib.hid (Kept.refl NoB wc).drew
        have HT := Lib.hid (HTEN8.out _ HKc.out)
        have HTA := Lib.hid (HTEN8.out _ ((Kept.refl NoB wc).alloc (.cells #[.int .u64 u0, .int .i64 u1, .int .u64 u2, .int .i64 u3, .int .u32 u4, .int .u64 u5, .slice ua3 un3 uc3] 84)).drew)
        have hy1 : ¬ c6 = wc.heap.size := by have := heap_lt HL6b.out; omega
        have hy2 : ¬ wc.heap.size = c6 := fun h => hy1 h.symm
        go_upto_region 8 with fail
        go_cut [] from 9 to 76 (RqCut8 wc c6 ({ lv0 with fr := 200 + cl, ch := cf.ch, ep := cf.ep } : LV) hn)
        case first =>
          go_region_held3 (fun w' => w'.cell? ⟨g, 3, none⟩ = some (.pointer (some ⟨ga, 0, none⟩)) ∧ w'.cell? ⟨b1, 1, none⟩ = some (.int .u32 y) ∧ w'.cell? ⟨c7, 0, none⟩ = some (.int .u64 u0) ∧ w'.cell? ⟨c7, 1, none⟩ = some (.int .i64 u1) ∧ w'.cell? ⟨c7, 2, none⟩ = some (.int .u64 u2) ∧ w'.cell? ⟨c7, 3, none⟩ = some (.int .i64 u3) ∧ w'.cell? ⟨c7, 4, none⟩ = some (.int .u32 u4) ∧ w'.cell? ⟨c7, 5, none⟩ = some (.int .u64 u5) ∧ w'.cell? ⟨c7, 6, none⟩ = some (.slice ua3 un3 uc3))
            (first | (with_reducible exact HT.out) | (with_reducible exact HTA.out) | (with_reducible exact ⟨cell_alloc HT.out.1 _, cell_alloc HT.out.2.1 _, cell_alloc HT.out.2.2.1 _, cell_alloc HT.out.2.2.2.1 _, cell_alloc HT.out.2.2.2.2.1 _, cell_alloc HT.out.2.2.2.2.2.1 _, cell_alloc HT.out.2.2.2.2.2.2.1 _, cell_alloc HT.out.2.2.2.2.2.2.2.1 _, cell_alloc HT.out.2.2.2.2.2.2.2.2 _⟩) | go_keep)
            ((first
              | (go_at_call 35; (with_reducible refine (HHD.out _ (HKF.out.trans (by first | exact HKc.out | exact ((Kept.refl NoB wc).alloc _).drew) (fun _ _ h => h))).mono ?_); rintro e w3 ⟨rfl, hk3⟩; replace HKc := Lib.hid ((by first | exact HKc.out | exact ((Kept.refl NoB wc).alloc _).drew : Kept NoB wc _).trans hk3 (fun _ _ h => h)); replace HT := Lib.hid (HTEN8.out _ HKc.out); have HL8 := Lib.hid (HKc.out.heap (fun h => h) HL6b.out); have e0 := cell_of_row _ _ 0 _ _ _ HL8.out; have e2 := cell_of_row _ _ 2 _ _ _ HL8.out; have e23 := cell_of_row _ _ 23 _ _ _ HL8.out; have f0 := frz25 HL8.out 0; have f2 := frz25 HL8.out 2; have f23 := frz25 HL8.out 23; have hz1 : ¬ c6 = w3.heap.size := (by have := heap_lt HL8.out; omega); have hz2 : ¬ w3.heap.size = c6 := (fun h => hz1 h.symm); have a0 := cell_alloc e0 (.cells #[.int .u64 u0, .int .i64 u1, .int .u64 u2, .int .i64 u3, .int .u32 u4, .int .u64 u5, .slice ua3 un3 uc3] 84); have a2 := cell_alloc e2 (.cells #[.int .u64 u0, .int .i64 u1, .int .u64 u2, .int .i64 u3, .int .u32 u4, .int .u64 u5, .slice ua3 un3 uc3] 84); have a23 := cell_alloc e23 (.cells #[.int .u64 u0, .int .i64 u1, .int .u64 u2, .int .i64 u3, .int .u32 u4, .int .u64 u5, .slice ua3 un3 uc3] 84); have lt6 := heap_lt HL8.out; have b0 := frozen_alloc (p := ⟨c6, 0, none⟩) lt6 f0 (.cells #[.int .u64 u0, .int .i64 u1, .int .u64 u2, .int .i64 u3, .int .u32 u4, .int .u64 u5, .slice ua3 un3 uc3] 84); have b2 := frozen_alloc (p := ⟨c6, 2, none⟩) lt6 f2 (.cells #[.int .u64 u0, .int .i64 u1, .int .u64 u2, .int .i64 u3, .int .u32 u4, .int .u64 u5, .slice ua3 un3 uc3] 84); have b23 := frozen_alloc (p := ⟨c6, 23, none⟩) lt6 f23 (.cells #[.int .u64 u0, .int .i64 u1, .int .u64 u2, .int .i64 u3, .int .u32 u4, .int .u64 u5, .slice ua3 un3 uc3] 84); have g1 := bset25 HL8.out 0 (.int .i64 17); have g2 := bset25 g1 2 (.int .i64 hn); have lt1 := heap_lt g1; have lt2 := heap_lt g2; have a2' := cell_alloc (cell_of_row _ _ 2 _ _ _ g1) (.cells #[.int .u64 u0, .int .i64 u1, .int .u64 u2, .int .i64 u3, .int .u32 u4, .int .u64 u5, .slice ua3 un3 uc3] 84); have b2' := frozen_alloc (p := ⟨c6, 2, none⟩) lt1 (frz25 g1 2) (.cells #[.int .u64 u0, .int .i64 u1, .int .u64 u2, .int .i64 u3, .int .u32 u4, .int .u64 u5, .slice ua3 un3 uc3] 84); have a23' := cell_alloc (cell_of_row _ _ 23 _ _ _ g1) (.cells #[.int .u64 u0, .int .i64 u1, .int .u64 u2, .int .i64 u3, .int .u32 u4, .int .u64 u5, .slice ua3 un3 uc3] 84); have b23' := frozen_alloc (p := ⟨c6, 23, none⟩) lt1 (frz25 g1 23) (.cells #[.int .u64 u0, .int .i64 u1, .int .u64 u2, .int .i64 u3, .int .u32 u4, .int .u64 u5, .slice ua3 un3 uc3] 84); have a23'' := cell_alloc (cell_of_row _ _ 23 _ _ _ g2) (.cells #[.int .u64 u0, .int .i64 u1, .int .u64 u2, .int .i64 u3, .int .u32 u4, .int .u64 u5, .slice ua3 un3 uc3] 84); have b23'' := frozen_alloc (p := ⟨c6, 23, none⟩) lt2 (frz25 g2 23) (.cells #[.int .u64 u0, .int .i64 u1, .int .u64 u2, .int .i64 u3, .int .u32 u4, .int .u64 u5, .slice ua3 un3 uc3] 84); clear g1 g2 lt1 lt2; clear lt6; clear hk3)
              | fail))
          all_goals
            clear a0 a2 a23 b0 b2 b23 a2' b2' a23' b23' a23'' b23'' e0 e2 e23 f0 f2 f23
            go_wp2_with fail
            go_meet
            first
              | with_reducible exact cut8_a HL8.out HKc.out _
              | with_reducible exact cut8_b HL8.out HKc.out _
              | with_reducible exact cut8_c HL8.out HKc.out _
              | with_reducible exact cut8_d HL8.out HKc.out
        case rest =>
          obtain ⟨ub, hl8, hk8⟩ := hcut
          have HX : Hid (wc.heap[c6]? = some (.cells (lcs ({ lv0 with kd := 17, fr := 200 + cl, «to» := hn, ch := cf.ch, ep := cf.ep, up := .slice (some ⟨ub, 0, none⟩) 1 1 } : LV)) 48 (0, 0))) := Lib.hid hl8
          have hc6w : w.heap.size < c6 := by have := HC6.out; omega
          have HR3 := Lib.hid (hk8.heap (k := w.heap.size) (fun h => by have h : w.heap.size = c6 := h; omega) HHDb.out)
          have HKG := Lib.hid (kept_far26 HKF.out hk8 (fun i h => by have h : i = c6 := h; omega))
          have HRR := Lib.hid (setRow26_at (cs' := lcs ({ lv0 with kd := 17, fr := 200 + cl, «to» := hn, ch := cf.ch, ep := cf.ep, up := .slice (some ⟨ub, 0, none⟩) 1 1 } : LV)) HR3.out)
          have HKH := Lib.hid (HKG.out.setRow26 (g := w.heap.size) (.inr (Nat.le_refl _)) (lcs ({ lv0 with kd := 17, fr := 200 + cl, «to» := hn, ch := cf.ch, ep := cf.ep, up := .slice (some ⟨ub, 0, none⟩) 1 1 } : LV)))
          clear hl8 hk8 hc6w
          go_wp2_with (first
            | (refine wpList_load_row rfl 48 _ rfl c6 rfl 48 (lcs ({ lv0 with kd := 17, fr := 200 + cl, «to» := hn, ch := cf.ch, ep := cf.ep, up := .slice (some ⟨ub, 0, none⟩) 1 1 } : LV)) (0, 0) _ HX.out Tryz.underlying48 rfl (by kernel_rfl) ?_)
            | (refine wpList_store_row rfl 48 _ _ rfl w.heap.size (lcs ({ lv0 with kd := 17, fr := 200 + cl, «to» := hn, ch := cf.ch, ep := cf.ep, up := .slice (some ⟨ub, 0, none⟩) 1 1 } : LV)) rfl rfl 48 (lcs lv0) HR3.out (by kernel_rfl) rfl (by rw [← Array.all_toList]; rfl) ?_))
          exact bodyPost_ret (v := .agg (lcs ({ lv0 with kd := 17, fr := 200 + cl, «to» := hn, ch := cf.ch, ep := cf.ep, up := .slice (some ⟨ub, 0, none⟩) 1 1 } : LV))) (results_cell_row rfl _ _ w.heap.size 48 (lcs ({ lv0 with kd := 17, fr := 200 + cl, «to» := hn, ch := cf.ch, ep := cf.ep, up := .slice (some ⟨ub, 0, none⟩) 1 1 } : LV)) (0, 0) _ rfl HRR.out Tryz.underlying48 rfl (by kernel_rfl)) rfl ⟨({ lv0 with kd := 17, fr := 200 + cl, «to» := hn, ch := cf.ch, ep := cf.ep, up := .slice (some ⟨ub, 0, none⟩) 1 1 } : LV), rfl, rfl, rfl, rfl, rfl, ⟨some ⟨ub, 0, none⟩, 1, 1, rfl⟩, rfl, HKH.out⟩
end Go.Proofs.YtclfecninhipnaaGreatDoor
namespace Go.Proofs.YtclfecninhipnaaGreatDoor
open Go.RowKit
set_option linter.unusedVariables false
set_option linter.unusedSimpArgs false

set_option maxRecDepth 100000 in
set_option maxHeartbeats 2000000 in
theorem Check26_write (w : World) (g : Nat) (x : CS) (h : CaAt w g x) (k y v p nu : Int) (hk : k ≠ 1)
    (da : Option Addr) (dc : Nat) (od : List Int) (F : Nat → Prop) (hd : BSl w F (.slice da od.length dc) od) (hF : ∀ k, F k → k < w.heap.size) (hod : od.length ≤ 1000000) (ht : Tab10 w) :
    Calls Tryz.prog 15 #[.pointer (some ⟨g, 0, none⟩), .agg #[.int .i64 k, .int .u32 y, .int .u64 v, .slice da od.length dc, .int .i64 p], .int .u64 nu] w fun e w' => e = .returned (.int .i64 (chkU areReq ⟨0, x.cl, nu, k, y, v, od⟩)) ∧ Kept NoB w w' := by
  obtain ⟨E, hE⟩ : ∃ E, E = chkU areReq ⟨0, x.cl, nu, k, y, v, od⟩ := ⟨_, rfl⟩
  have HRQ : Hid (∀ w', Kept NoB w w' → Calls Tryz.prog 31 #[.agg #[.int .i64 k, .int .u32 y, .int .u64 v, .slice da od.length dc, .int .i64 p], .int .i64 x.cl, .int .u64 nu] w' fun e w'' => ∃ (u0 u1 u2 u3 u4 u5 : Int) (ua : Option Addr) (un uc : Nat), e = .returned (.tuple #[.agg #[.int .u64 u0, .int .i64 u1, .int .u64 u2, .int .i64 u3, .int .u32 u4, .int .u64 u5, .slice ua un uc], .int .i64 E]) ∧ Kept NoB w' w'') := Lib.hid (fun w' hk => (URequest_any w' da dc k y v p x.cl nu od F (hd.kept hk (fun _ _ h => h)) (fun k hF' => Nat.lt_of_lt_of_le (hF k hF') hk.size) (ht.kept hk (fun h => h)) hod).mono (by
    rintro e w'' ⟨v', rfl, ⟨u, rfl, hu⟩, hk'⟩
    obtain ⟨ua, uc, rfl, _⟩ := hu
    rw [← hE]
    exact ⟨_, _, _, _, _, _, ua, _, uc, rfl, hk'⟩))
  rw [← hE]
  obtain ⟨m, hm⟩ : ∃ m, m = od.length := ⟨_, rfl⟩
  rw [← hm] at HRQ ⊢
  have HCC : Hid (∀ w', Kept NoB w w' → w'.cell? ⟨g, 0, none⟩ = some (.int .i64 x.cl)) := Lib.hid (fun w' hk => (h.no hk).c.1)
  have hgl : g < w.heap.size := heap_lt h
  have hkb : (k == 1) = false := beq_eq_false_iff_ne.2 hk
  have hkb2 : (k != 1) = true := by simpa using hk
  obtain ⟨cl, hcl⟩ : ∃ cl, cl = x.cl := ⟨_, rfl⟩
  rw [← hcl] at HRQ HCC
  obtain ⟨W, hW⟩ : ∃ W, W = w.alloc (.cells #[.int .i64 k, .int .u32 y, .int .u64 v, .slice da m dc, .int .i64 p] 26) := ⟨_, rfl⟩
  have HW := Lib.hid hW
  have HB : Hid (W.heap[w.heap.size]? = some (.cells #[.int .i64 k, .int .u32 y, .int .u64 v, .slice da m dc, .int .i64 p] 26 (0, 0))) := Lib.hid (by rw [hW]; exact heap_alloc_new w _)
  have HK : Hid (Kept NoB w W) := Lib.hid (by rw [hW]; exact (Kept.refl NoB w).alloc _)
  have HSZ : Hid (W.heap.size = w.heap.size + 1) := Lib.hid (by rw [hW]; simp)
  obtain ⟨b1, hb1⟩ : ∃ b1, b1 = w.heap.size := ⟨_, rfl⟩
  rw [← hb1] at HB
  have hv1 : ¬ g = W.heap.size := by have := HSZ.out; omega
  have hv2 : ¬ W.heap.size = g := fun h => hv1 h.symm
  have hv3 : ¬ b1 = W.heap.size := by have := HSZ.out; omega
  have hv4 : ¬ W.heap.size = b1 := fun h => hv3 h.symm
  clear hE hm hcl hW h hd hF ht hod
  go_enter Tryz.func15, Tryz.ntmps15
  go_upto_region 1 with fail
  rw [← hb1, ← HW.out]
  clear hb1
  obtain ⟨c0, c1, c2, c3, c4⟩ := cells5 HB.out
  go_upto_region 2 with fail
  clear c0 c1 c2 c3 c4
  have HTEN7 : Hid (∀ w', Kept NoB W w' → w'.cell? ⟨g, 0, none⟩ = some (.int .i64 cl) ∧ w'.cell? ⟨b1, 0, none⟩ = some (.int .i64 k) ∧ w'.cell? ⟨b1, 1, none⟩ = some (.int .u32 y) ∧ w'.cell? ⟨b1, 2, none⟩ = some (.int .u64 v) ∧ w'.cell? ⟨b1, 3, none⟩ = some (.slice da m dc) ∧ w'.cell? ⟨b1, 4, none⟩ = some (.int .i64 p)) := Lib.hid (fun w' hk => ⟨HCC.out w' (HK.out.trans hk (fun _ _ h => h)), cells5 (hk.heap (fun h => h) HB.out)⟩)
  have HKc := Lib.hid (Kept.refl NoB W).drew
  have HT := Lib.hid (HTEN7.out _ HKc.out)
  have HTA := Lib.hid (HTEN7.out _ ((Kept.refl NoB W).alloc (.cells #[.int .u64 0, .int .i64 0, .int .u64 0, .int .i64 0, .int .u32 0, .int .u64 0, .slice none 0 0] 84)).drew)
  go_region_held3 (fun w' => w'.cell? ⟨g, 0, none⟩ = some (.int .i64 cl) ∧ w'.cell? ⟨b1, 0, none⟩ = some (.int .i64 k) ∧ w'.cell? ⟨b1, 1, none⟩ = some (.int .u32 y) ∧ w'.cell? ⟨b1, 2, none⟩ = some (.int .u64 v) ∧ w'.cell? ⟨b1, 3, none⟩ = some (.slice da m dc) ∧ w'.cell? ⟨b1, 4, none⟩ = some (.int .i64 p))
    (first | (with_reducible exact HT.out) | (with_reducible exact HTA.out) | (with_reducible exact ⟨cell_alloc HT.out.1 _, cell_alloc HT.out.2.1 _, cell_alloc HT.out.2.2.1 _, cell_alloc HT.out.2.2.2.1 _, cell_alloc HT.out.2.2.2.2.1 _, cell_alloc HT.out.2.2.2.2.2 _⟩) | go_keep)
    ((first
      | (go_at_call 31; (with_reducible refine (HRQ.out _ (HK.out.trans (by first | exact HKc.out | exact HKc.out.alloc _ | exact ((Kept.refl NoB W).alloc _).drew) (fun _ _ h => h))).mono ?_); rintro e w3 ⟨u0, u1, u2, u3, u4, u5, ua3, un3, uc3, rfl, hk3⟩; (try (have HZ := Lib.hid (hk3.heap (fun h => h) (by exact heap_alloc_new W (.cells #[.int .u64 0, .int .i64 0, .int .u64 0, .int .i64 0, .int .u32 0, .int .u64 0, .slice none 0 0] 84))); have z0 := cell_of_row _ _ 0 _ _ _ HZ.out; have z1 := cell_of_row _ _ 1 _ _ _ HZ.out; have z2 := cell_of_row _ _ 2 _ _ _ HZ.out; have z3 := cell_of_row _ _ 3 _ _ _ HZ.out; have z4 := cell_of_row _ _ 4 _ _ _ HZ.out; have z5 := cell_of_row _ _ 5 _ _ _ HZ.out; have z6 := cell_of_row _ _ 6 _ _ _ HZ.out; have f0 := frz25 HZ.out 0; have f1 := frz25 HZ.out 1; have f2 := frz25 HZ.out 2; have f3 := frz25 HZ.out 3; have f4 := frz25 HZ.out 4; have f5 := frz25 HZ.out 5; have f6 := frz25 HZ.out 6)); replace HKc := Lib.hid ((by first | exact HKc.out | exact HKc.out.alloc _ | exact ((Kept.refl NoB W).alloc _).drew : Kept NoB W _).trans hk3 (fun _ _ h => h)); replace HT := Lib.hid (HTEN7.out _ HKc.out); clear hk3)
      | fail))
  · have HE := Lib.hid (HK.out.trans (HKc.out.alloc (.cells #[.int .u64 u0, .int .i64 u1, .int .u64 u2, .int .i64 u3, .int .u32 u4, .int .u64 u5, .slice ua3 un3 uc3] 84)) (fun _ _ h => h))
    go_wp2
    go_ret
    exact ⟨rfl, HE.out⟩
  · have HE := Lib.hid (HK.out.trans (HKc.out.seven26 (b := W.heap.size) (.inr (Nat.le_refl _)) (.int .u64 u0) (.int .i64 u1) (.int .u64 u2) (.int .i64 u3) (.int .u32 u4) (.int .u64 u5) (.slice ua3 un3 uc3)) (fun _ _ h => h))
    clear z0 z1 z2 z3 z4 z5 z6 f0 f1 f2 f3 f4 f5 f6
    go_wp2
    go_ret
    exact ⟨rfl, HE.out⟩
end Go.Proofs.YtclfecninhipnaaGreatDoor
namespace Go.Proofs.YtclfecninhipnaaGreatDoor
open Go.RowKit
set_option linter.unusedVariables false
set_option linter.unusedSimpArgs false

theorem ex26_chk : chkU areReq ⟨0, 3, 1, 2, 5, 0, []⟩ = 0 := by decide
def csBeg (x : CS) (nu k y v : Int) (d : Value) (p : Int) (q : Nat) : CS := { x with nu := nu, k := k, y := y, v := v, d := d, p := p, lp := .pointer (some ⟨q, 0, none⟩) }
/-- Seven cells of a caller, stored one by one. -/
def put26 (w : World) (g : Nat) (nu k y v : Int) (d : Value) (p : Int) (lp : Value) : World := ((((((w.setCell ⟨g, 4, none⟩ (.int .u64 nu)).setCell ⟨g, 5, none⟩ (.int .i64 k)).setCell ⟨g, 6, none⟩ (.int .u32 y)).setCell ⟨g, 7, none⟩ (.int .u64 v)).setCell ⟨g, 8, none⟩ d).setCell ⟨g, 9, none⟩ (.int .i64 p)).setCell ⟨g, 10, none⟩ lp
set_option maxHeartbeats 2000000 in
theorem put26_at {w : World} {g : Nat} {x : CS} (h : CaAt w g x) (nu k y v : Int) (d : Value) (p : Int) (q : Nat) : CaAt (put26 w g nu k y v d p (.pointer (some ⟨q, 0, none⟩))) g (csBeg x nu k y v d p q) := by
  have h := bset25 (bset25 (bset25 (bset25 (bset25 (bset25 (bset25 h 4 (.int .u64 nu)) 5 (.int .i64 k)) 6 (.int .u32 y)) 7 (.int .u64 v)) 8 d) 9 (.int .i64 p)) 10 (.pointer (some ⟨q, 0, none⟩))
  exact h
theorem Kept.put26 {S : Nat → Prop} {a w : World} (h : Kept S a w) {g : Nat} (hg : S g ∨ a.heap.size ≤ g) (nu k y v : Int) (d : Value) (p : Int) (lp : Value) : Kept S a (Go.Proofs.YtclfecninhipnaaGreatDoor.put26 w g nu k y v d p lp) :=
  ((((((h.setCell (p := ⟨g, 4, none⟩) hg _).setCell (p := ⟨g, 5, none⟩) hg _).setCell (p := ⟨g, 6, none⟩) hg _).setCell (p := ⟨g, 7, none⟩) hg _).setCell (p := ⟨g, 8, none⟩) hg _).setCell (p := ⟨g, 9, none⟩) hg _).setCell (p := ⟨g, 10, none⟩) hg _
theorem CaAt.frz {w : World} {g : Nat} {x : CS} (h : CaAt w g x) (i : Nat) : w.frozen? ⟨g, i, none⟩ = false := frz25 h i
theorem Tab10.far26 {w : World} (h : Tab10 w) {g : Nat} (hg : w.heap.size ≤ g) : ¬ 0 = g := fun e => by
  have := World.block_lt_of_cell? w _ (h.cell 0 (by decide))
  have : 0 < w.heap.size := this
  omega
set_option maxRecDepth 100000 in
set_option maxHeartbeats 4000000 in
theorem Begin26_write (w : World) (g B r z : Nat) (x : CS) (l : List Cf) (h : CaAt w g x) (hat : ∀ w2, Kept (fun b => g ≤ b) w w2 → AtAt w2 B x.ga r z l) (l1 : 1 ≤ l.length) (l2 : l.length ≤ 1000) (h0 : x.nu = 0) (c1 : 1 ≤ x.cl) (c6 : x.cl ≤ 6)
    (k y v p : Int) (hk : k ≠ 1) (y0 : 0 ≤ y) (y1 : y ≤ 4294967295)
    (da : Option Addr) (dc : Nat) (od : List Int) (F : Nat → Prop) (hd : BSl w F (.slice da od.length dc) od) (hF : ∀ k, F k → k < w.heap.size) (hod : od.length ≤ 1000000) (ht : Tab10 w) (hE : chkU areReq ⟨0, x.cl, 1, k, y, v, od⟩ = 0) (hgt : ¬ 0 = g) :
    Calls Tryz.prog 7 #[.pointer (some ⟨g, 0, none⟩), .agg #[.int .i64 k, .int .u32 y, .int .u64 v, .slice da od.length dc, .int .i64 p]] w fun e w' => ∃ (b : Nat) (q : LV) (qa : Option Addr) (qc lq : Nat), e = .returned (.tuple #[.slice (some ⟨b, 0, none⟩) 1 1, .int .i64 0]) ∧ w'.heap[b]? = some (.cells (lcs q) 48 (0, 0)) ∧ q.fr = 200 + x.cl ∧ q.to = headN (nthC l (plc25 y l)) ∧
      CaAt w' g (csBeg x 1 k y v (.slice qa od.length qc) p lq) ∧ RLat w' lq false 0 0 (.slice none 0 0) ∧ Own w' (fun b => w.heap.size ≤ b) (.slice qa od.length qc) od ∧ w.heap.size ≤ lq ∧ Kept (fun b => b = g) w w' := by
  have HG := Lib.hid h
  have HBU := Lib.hid (fun w' (hk : Kept NoB w w') => Busy26_none w' g x (h.no hk) h0)
  have HCH := Lib.hid (fun w' (hkk : Kept NoB w w') => Check26_write w' g x (h.no hkk) k y v p 1 hk da dc od F (hd.kept hkk (fun _ _ h => h)) (fun k hF' => Nat.lt_of_lt_of_le (hF k hF') hkk.size) hod (ht.kept hkk (fun h => h)))
  rw [hE] at HCH
  have HCO := Lib.hid (fun w' (hkk : Kept NoB w w') => COpy26_any w' k y v p da dc od F (hd.kept hkk (fun _ _ h => h)) hod)
  have HTB := Lib.hid ht
  have HAT := Lib.hid hat
  obtain ⟨m, hm⟩ : ∃ m, m = od.length := ⟨_, rfl⟩
  have HM : Hid (m = od.length) := Lib.hid hm
  have HOD : Hid (m ≤ 1000000) := Lib.hid (by omega)
  rw [← hm] at HCH HCO ⊢
  have hgl : g < w.heap.size := heap_lt h
  obtain ⟨W, hW⟩ : ∃ W, W = w.alloc (.cells #[.int .i64 k, .int .u32 y, .int .u64 v, .slice da m dc, .int .i64 p] 26) := ⟨_, rfl⟩
  have HW := Lib.hid hW
  have HB : Hid (W.heap[w.heap.size]? = some (.cells #[.int .i64 k, .int .u32 y, .int .u64 v, .slice da m dc, .int .i64 p] 26 (0, 0))) := Lib.hid (by rw [hW]; exact heap_alloc_new w _)
  have HK : Hid (Kept NoB w W) := Lib.hid (by rw [hW]; exact (Kept.refl NoB w).alloc _)
  have HZ0 : Hid (x.nu = 0) := Lib.hid h0
  clear hE hm hW h hd hF ht hod hat h0
  go_enter Tryz.func7, Tryz.ntmps7
  go_upto_region 1 with fail
  rw [← HW.out]
  go_wp2_with fail
  refine (HBU.out _ HK.out).mono ?_
  rintro e w1 ⟨rfl, hk1⟩
  have HK1 := Lib.hid (HK.out.trans hk1 (fun _ _ h => h))
  have HB1 := Lib.hid (hk1.heap (fun h => h) HB.out)
  have c4 := (HG.out.no HK1.out).c.2.2.2.2.1
  rw [HZ0.out] at c4
  obtain ⟨d0, d1, d2, d3, d4⟩ := cells5 HB1.out
  clear hk1
  go_wp2_with fail
  refine (HCH.out _ HK1.out).mono ?_
  rintro e w2 ⟨rfl, hk2⟩
  have HK2 := Lib.hid (HK1.out.trans hk2 (fun _ _ h => h))
  have HB2 := Lib.hid (hk2.heap (fun h => h) HB1.out)
  clear c4 d0 d1 d2 d3 d4 hk2
  obtain ⟨d0, d1, d2, d3, d4⟩ := cells5 HB2.out
  go_wp2_with fail
  refine (HCO.out _ HK2.out).mono ?_
  rintro e w3 ⟨qa, qc, rfl, hown, hk3⟩
  have HO3 := Lib.hid hown
  have HK3 := Lib.hid (HK2.out.trans hk3 (fun _ _ h => h))
  clear d0 d1 d2 d3 d4 hown hk3
  go_wp2_with fail
  refine (LNew26_any w3).mono ?_
  rintro e w4 ⟨rfl, hl4, hw4⟩
  have hk4 : Kept NoB w3 w4 := by rw [hw4]; exact (Kept.refl NoB w3).alloc _
  have HL4 := Lib.hid hl4
  have HZ4 : Hid (w3.heap.size < w4.heap.size) := Lib.hid (by rw [hw4]; simp)
  have HK4 := Lib.hid (HK3.out.trans hk4 (fun _ _ h => h))
  have HO4 := Lib.hid (HO3.out.kept hk4 (fun _ _ h => h))
  obtain ⟨lq, hlq⟩ : ∃ lq, lq = w3.heap.size := ⟨_, rfl⟩
  rw [← hlq] at HL4 HZ4 ⊢
  have HLQ : Hid (w.heap.size ≤ lq) := Lib.hid (by rw [hlq]; exact HK3.out.size)
  have HG4 := Lib.hid (HG.out.no HK4.out)
  obtain ⟨k0, k1, k2, k3, k4, k5, k6, k7, k8, k9, k10, _⟩ := HG4.out.c
  have f4 := HG4.out.frz 4
  have f5 := HG4.out.frz 5
  have f6 := HG4.out.frz 6
  have f7 := HG4.out.frz 7
  have f8 := HG4.out.frz 8
  have f9 := HG4.out.frz 9
  have f10 := HG4.out.frz 10
  clear hw4 hk4 hl4 hlq k0 k1 k2 k3
  have HP := Lib.hid (put26_at HG4.out 1 k y v (.slice qa m qc) p lq)
  have HKP : Hid (Kept (fun b => b = g) w (put26 w4 g 1 k y v (.slice qa m qc) p (.pointer (some ⟨lq, 0, none⟩)))) := Lib.hid ((HK4.out.mono (T := fun b => b = g) (fun _ _ h => h.elim)).put26 (g := g) (.inl rfl) 1 k y v (.slice qa m qc) p (.pointer (some ⟨lq, 0, none⟩)))
  have HKQ : Hid (Kept (fun b => b = g) w4 (put26 w4 g 1 k y v (.slice qa m qc) p (.pointer (some ⟨lq, 0, none⟩)))) := Lib.hid ((Kept.refl (fun b => b = g) w4).put26 (g := g) (.inl rfl) 1 k y v (.slice qa m qc) p (.pointer (some ⟨lq, 0, none⟩)))
  obtain ⟨V, hV⟩ : ∃ V, V = put26 w4 g 1 k y v (.slice qa m qc) p (.pointer (some ⟨lq, 0, none⟩)) := ⟨_, rfl⟩
  have HV : Hid (V = ((((((w4.setCell ⟨g, 4, none⟩ (.int .u64 1)).setCell ⟨g, 5, none⟩ (.int .i64 k)).setCell ⟨g, 6, none⟩ (.int .u32 y)).setCell ⟨g, 7, none⟩ (.int .u64 v)).setCell ⟨g, 8, none⟩ (.slice qa m qc)).setCell ⟨g, 9, none⟩ (.int .i64 p)).setCell ⟨g, 10, none⟩ (.pointer (some ⟨lq, 0, none⟩))) := Lib.hid hV
  rw [← hV] at HP HKP HKQ
  clear hV
  have HLV := Lib.hid (RLat.kept26 HL4.out HKQ.out (by have := HLQ.out; omega))
  have HO6 := Lib.hid ((HO4.out.mono (G := fun b => w.heap.size ≤ b) (fun b _ h => by have h : w2.heap.size ≤ b := h; have := HK2.out.size; omega)).kept HKQ.out (fun b h e => by have e : b = g := e; omega))
  have HRQ := Lib.hid (Req26_write V g B r z (csBeg x 1 k y v (.slice qa m qc) p lq) l HP.out (HAT.out V (HKP.out.mono (fun _ _ h => by have h := h; omega))) l1 l2 hk y0 y1 c1 c6 qa qc od (fun b => b < V.heap.size) (by rw [← HM.out]; rfl) (by rw [← HM.out]; exact HO6.out.bsl.mono (fun _ h _ => h)) (fun _ h => h) (by rw [← HM.out]; exact HOD.out) (HTB.out.kept HKP.out hgt))
  go_wp2_with fail
  rw [← HV.out]
  refine HRQ.out.mono ?_
  rintro e w5 ⟨q, rfl, q1, q2, q3, q4, ⟨ua, un, uc, q5⟩, q6, hk5⟩
  have HGE := Lib.hid (HP.out.no hk5)
  have HLE := Lib.hid (HLV.out.no hk5)
  have HOE := Lib.hid (HO6.out.kept hk5 (fun _ _ h => h))
  have HKE := Lib.hid (HKP.out.trans hk5 (fun _ _ h => h.elim))
  obtain ⟨Q, hQ⟩ : ∃ Q, Q = q := ⟨_, rfl⟩
  have HQ1 : Hid (Q.fr = 200 + x.cl ∧ Q.to = headN (nthC l (plc25 y l))) := Lib.hid (by rw [hQ]; exact ⟨q1, q2⟩)
  obtain ⟨kd, fr, tq, ch, ep, ba, nu, se, dn, ve, sl, ke, co, ck, cc, ce, cn, gc, ge, gn, gf, gj, vo, up, dda⟩ := q
  simp only at q3 q4 q5 q6
  subst q3 q4 q5 q6
  have HQ := Lib.hid hQ
  clear hk5 q1 q2 hQ
  have eV : (Value.agg (lcs (⟨kd, fr, tq, ch, ep, ba, nu, se, dn, ve, sl, ke, co, ck, cc, ce, cn, gc, ge, .slice none 0 0, gf, gj, .slice none 0 0, .slice ua un uc, .slice none 0 0⟩ : LV))) = .agg #[.int .i64 kd, .int .i64 fr, .int .i64 tq, .int .i64 ch, .int .u64 ep, .int .u64 ba, .int .u64 nu, .int .u64 se, .int .u64 dn, .int .u64 ve, .int .i64 sl, .int .u32 ke, .int .i64 co, .int .i64 ck, .int .i64 cc, .int .u64 ce, .int .i64 cn, .int .i64 gc, .int .u64 ge, .slice none 0 0, .bool gf, .int .i64 gj, .slice none 0 0, .slice ua un uc, .slice none 0 0] := rfl
  rw [eV]
  clear eV
  have HBE := Lib.hid (heap_alloc_new w5 (.cells #[.int .i64 kd, .int .i64 fr, .int .i64 tq, .int .i64 ch, .int .u64 ep, .int .u64 ba, .int .u64 nu, .int .u64 se, .int .u64 dn, .int .u64 ve, .int .i64 sl, .int .u32 ke, .int .i64 co, .int .i64 ck, .int .i64 cc, .int .u64 ce, .int .i64 cn, .int .i64 gc, .int .u64 ge, .slice none 0 0, .bool gf, .int .i64 gj, .slice none 0 0, .slice ua un uc, .slice none 0 0] 48))
  have HKA := Lib.hid ((Kept.refl NoB w5).alloc (.cells #[.int .i64 kd, .int .i64 fr, .int .i64 tq, .int .i64 ch, .int .u64 ep, .int .u64 ba, .int .u64 nu, .int .u64 se, .int .u64 dn, .int .u64 ve, .int .i64 sl, .int .u32 ke, .int .i64 co, .int .i64 ck, .int .i64 cc, .int .u64 ce, .int .i64 cn, .int .i64 gc, .int .u64 ge, .slice none 0 0, .bool gf, .int .i64 gj, .slice none 0 0, .slice ua un uc, .slice none 0 0] 48))
  have HMM := Lib.hid (HM.out)
  go_wp2
  go_ret2
  exact ⟨w5.heap.size, Q, qa, qc, lq, rfl, (by rw [HQ.out]; exact HBE.out), HQ1.out.1, HQ1.out.2, HGE.out.no HKA.out, HLE.out.no HKA.out, (by rw [HMM.out] at HOE ⊢; exact HOE.out.kept HKA.out (fun _ _ h => h)), HLQ.out, HKE.out.alloc _⟩
end Go.Proofs.YtclfecninhipnaaGreatDoor
namespace Go.Proofs.YtclfecninhipnaaGreatDoor
open Go.RowKit
set_option linter.unusedVariables false
set_option linter.unusedSimpArgs false

set_option maxRecDepth 100000 in
theorem Chain26_any (w : World) (g B r z : Nat) (x : CS) (l : List Cf) (h : CaAt w g x) (hat : AtAt w B x.ga r z l) (y0 : 0 ≤ x.y) (y1 : x.y ≤ 4294967295) :
    Calls Tryz.prog 26 #[.pointer (some ⟨g, 0, none⟩)] w fun e w' => e = .returned (.int .i64 (chn x.y l.length)) ∧ Kept NoB w w' := by
  obtain ⟨_, _, _, c3, _, _, c6, _⟩ := h.c
  have HCN := Lib.hid (fun w' (hk : Kept NoB w w') => Chains25_any w' _ _ _ _ l (hat.no hk))
  have HCH := Lib.hid (fun w' => Chain_any x.y l.length y0 y1 w')
  obtain ⟨y, hy⟩ : ∃ y, y = x.y := ⟨_, rfl⟩
  obtain ⟨ga, hga⟩ : ∃ ga, ga = x.ga := ⟨_, rfl⟩
  obtain ⟨n, hn⟩ : ∃ n, n = l.length := ⟨_, rfl⟩
  rw [← hy] at c6 HCH ⊢
  rw [← hga] at c3 HCN
  rw [← hn] at HCN HCH ⊢
  obtain ⟨C, hC⟩ : ∃ C, C = chn y n := ⟨_, rfl⟩
  rw [← hC] at HCH ⊢
  clear h hat hy hga hn hC y0 y1
  go_enter Tryz.func26, Tryz.ntmps26
  go_upto_region 1 with fail
  go_quiet (first
    | (go_at_call 45; refine Calls.quiet_of_same ((HCN.out _ ((Kept.refl NoB w).drewN _)).mono (by rintro e w6 ⟨rfl, rfl⟩; exact ⟨rfl, rfl⟩)))
    | (go_at_call 44; refine Calls.quiet_of_same ((HCH.out _).mono (by rintro e w6 ⟨rfl, rfl⟩; exact ⟨rfl, rfl⟩)))
    | fail)
  have HE := Lib.hid ((Kept.refl NoB w).drewN nq)
  clear c3 c6
  go_wp2
  go_ret
  exact ⟨rfl, HE.out⟩
set_option maxRecDepth 100000 in
set_option maxHeartbeats 4000000 in
theorem Tick26_write (w : World) (g B r z q : Nat) (x : CS) (l : List Cf) (h : CaAt w g x) (hat : ∀ w2, Kept (fun b => g ≤ b) w w2 → AtAt w2 B x.ga r z l) (l1 : 1 ≤ l.length) (l2 : l.length ≤ 1000) (hn1 : 1 ≤ x.nu) (hlp : x.lp = .pointer (some ⟨q, 0, none⟩)) (hqg : q ≠ g) (hr : RLat w q false 0 0 (.slice none 0 0))
    (hk : x.k ≠ 1) (y0 : 0 ≤ x.y) (y1 : x.y ≤ 4294967295) (c1 : 1 ≤ x.cl) (c6 : x.cl ≤ 6) (m1 : 1 ≤ x.ms) (m5 : x.ms ≤ 5) (t0 : 0 ≤ x.tk) (t1 : x.tk ≤ 100000)
    (da : Option Addr) (dc : Nat) (od : List Int) (F : Nat → Prop) (hdv : x.d = .slice da od.length dc) (hd : BSl w F (.slice da od.length dc) od) (hF : ∀ k, F k → k < w.heap.size) (hFg : ∀ k, F k → k ≠ g) (hod : od.length ≤ 1000000) (ht : Tab10 w) (hgt : ¬ 0 = g) :
    Calls Tryz.prog 12 #[.pointer (some ⟨g, 0, none⟩)] w fun e w' => ∃ b : Nat, e = .returned (.slice (some ⟨b, 0, none⟩) 2 2) ∧ CaAt w' g { x with tk := x.tk + 1 } ∧ RLat w' q false 0 0 (.slice none 0 0) ∧ Kept (fun b => b = g) w w' := by
  have hgl : g < w.heap.size := heap_lt h
  have hset : Kept (fun b => b = g) w (w.setCell ⟨g, 2, none⟩ (.int .i64 (x.tk + 1))) := (Kept.refl (fun b => b = g) w).setCell (p := ⟨g, 2, none⟩) (.inl rfl) _
  have hG : CaAt (w.setCell ⟨g, 2, none⟩ (.int .i64 (x.tk + 1))) g { x with tk := x.tk + 1 } := bset25 h 2 _
  have hR := hr.kept26 hset hqg
  have hA := hat _ (hset.mono (fun _ _ e => by have e := e; omega))
  have hD := hd.kept hset (fun k hk' e => hFg k hk' e)
  have hT := ht.kept hset hgt
  have f2 := h.frz 2
  have k2 := h.c.2.2.1
  obtain ⟨V, hV⟩ : ∃ V, V = w.setCell ⟨g, 2, none⟩ (.int .i64 (x.tk + 1)) := ⟨_, rfl⟩
  rw [← hV] at hset hG hR hA hD hT
  obtain ⟨X, hX⟩ : ∃ X : CS, X = { x with tk := x.tk + 1 } := ⟨_, rfl⟩
  have hXk : X.k = x.k ∧ X.y = x.y ∧ X.cl = x.cl ∧ X.ms = x.ms ∧ X.tk = x.tk + 1 ∧ X.ga = x.ga ∧ X.nu = x.nu ∧ X.lp = x.lp ∧ X.d = x.d := by rw [hX]; exact ⟨rfl, rfl, rfl, rfl, rfl, rfl, rfl, rfl, rfl⟩
  rw [← hX] at hG ⊢
  obtain ⟨e1, e2, e3, e4, e5, e6, e7, e8, e9⟩ := hXk
  have hsz : V.heap.size = w.heap.size := by rw [hV]; simp [World.setCell]
  have HG := Lib.hid hG
  have HR := Lib.hid hR
  have HBU := Lib.hid (Busy26_yes V g q X hG (by rw [e7]; exact hn1) (by rw [e8]; exact hlp) hR)
  have HRQ := Lib.hid (fun w' (hkk : Kept NoB V w') => Req26_write w' g B r z X l (hG.no hkk) (by rw [e6]; exact hA.no hkk) l1 l2 (by rw [e1]; exact hk) (by rw [e2]; exact y0) (by rw [e2]; exact y1) (by rw [e3]; exact c1) (by rw [e3]; exact c6) da dc od F (by rw [e9]; exact hdv) (hD.kept hkk (fun _ _ h => h)) (fun k hF' => Nat.lt_of_lt_of_le (hF k hF') (by have := hkk.size; omega)) hod (hT.kept hkk (fun h => h)))
  have HAD := Lib.hid (fun w' (hkk : Kept NoB V w') => CAddr_any w' g X (hG.no hkk) (by rw [e3]; exact c1) (by rw [e3]; exact c6))
  have HCH := Lib.hid (fun w' (hkk : Kept NoB V w') => Chain26_any w' g B r z X l (hG.no hkk) (by rw [e6]; exact hA.no hkk) (by rw [e2]; exact y0) (by rw [e2]; exact y1))
  obtain ⟨C, hC⟩ : ∃ C, C = chn X.y l.length := ⟨_, rfl⟩
  rw [← hC] at HCH
  have HM : Hid (1 ≤ X.ms ∧ X.ms ≤ 5 ∧ 1 ≤ X.tk ∧ X.tk ≤ 100001) := Lib.hid (by rw [e4, e5]; omega)
  have HSET := Lib.hid hset
  have HV := Lib.hid hV
  have hw : IntKind.i64.wrap (x.tk + 1) = x.tk + 1 := IntWalk.i64_in _ (by omega)
  clear e1 e2 e3 e4 e5 e6 e7 e8 e9 hset hG hR hA hD hT hV hX hC h hat hr hd hF hFg ht hgt hlp hdv hk y0 y1 c1 c6 m1 m5 hod hsz
  go_enter Tryz.func12, Tryz.ntmps12
  go_wp2_with fail
  rw [← HV.out]
  clear k2 f2 hw t0 t1
  refine HBU.out.mono ?_
  rintro e w1 ⟨rfl, hk1⟩
  have HK1 := Lib.hid hk1
  obtain ⟨_, k1, k2, _⟩ := (HG.out.no hk1).c
  obtain ⟨hm1, hm2, ht1, ht2⟩ := HM.out
  obtain ⟨M, hM⟩ : ∃ M, M = X.ms := ⟨_, rfl⟩
  obtain ⟨T, hT⟩ : ∃ T, T = X.tk := ⟨_, rfl⟩
  rw [← hM] at k1 hm1 hm2
  rw [← hT] at k2 ht1 ht2
  have hne : ¬ M = 0 := by omega
  have hmod0 : 0 ≤ T % M := Int.emod_nonneg _ hne
  have hmod1 : T % M < M := Int.emod_lt_of_pos _ (by omega)
  clear hk1 hM hT
  go_upto_region 6 with fail
  go_quiet (fail)
  have HK2 := Lib.hid (HK1.out.trans ((Kept.refl NoB w1).drewN nq) (fun _ _ h => h))
  go_wp2_with fail
  refine (HRQ.out _ HK2.out).mono ?_
  rintro e w5 ⟨Q, rfl, q1, q2, q3, q4, ⟨ua, un, uc, q5⟩, q6, hk5⟩
  have HK5 := Lib.hid (HK2.out.trans hk5 (fun _ _ h => h))
  obtain ⟨kd, fr, tq, ch, ep, ba, nu, se, dn, ve, sl, ke, co, ck, cc, ce, cn, gc, ge, gn, gf, gj, vo, up, dda⟩ := Q
  simp only at q3 q4 q5 q6
  subst q3 q4 q5 q6
  clear hk5 q1 q2
  have eV : (Value.agg (lcs (⟨kd, fr, tq, ch, ep, ba, nu, se, dn, ve, sl, ke, co, ck, cc, ce, cn, gc, ge, .slice none 0 0, gf, gj, .slice none 0 0, .slice ua un uc, .slice none 0 0⟩ : LV))) = .agg #[.int .i64 kd, .int .i64 fr, .int .i64 tq, .int .i64 ch, .int .u64 ep, .int .u64 ba, .int .u64 nu, .int .u64 se, .int .u64 dn, .int .u64 ve, .int .i64 sl, .int .u32 ke, .int .i64 co, .int .i64 ck, .int .i64 cc, .int .u64 ce, .int .i64 cn, .int .i64 gc, .int .u64 ge, .slice none 0 0, .bool gf, .int .i64 gj, .slice none 0 0, .slice ua un uc, .slice none 0 0] := rfl
  rw [eV]
  clear eV
  go_wp2_with fail
  refine (HAD.out _ HK5.out).mono ?_
  rintro e w6 ⟨rfl, rfl⟩
  go_wp2_with fail
  refine (HCH.out _ HK5.out).mono ?_
  rintro e w6 ⟨rfl, hk6⟩
  have HK6 := Lib.hid (HK5.out.trans hk6 (fun _ _ h => h))
  clear hk6
  go_wp2
  go_ret
  have hka : ∀ o, Kept NoB w6 (w6.alloc o) := fun o => (Kept.refl NoB w6).alloc o
  refine ⟨w6.heap.size, rfl, (HG.out.no HK6.out).no (hka _), (HR.out.no HK6.out).no (hka _), ?_⟩
  exact (HSET.out.trans HK6.out (fun _ _ h => h.elim)).alloc _
end Go.Proofs.YtclfecninhipnaaGreatDoor
namespace Go.Proofs.YtclfecninhipnaaGreatDoor
open Go.RowKit
set_option linter.unusedVariables false
set_option linter.unusedSimpArgs false

theorem ex26_all : allB (begC 1 2) = true := by decide
theorem ex26_x : begX 1 2 = 0 := by decide
theorem ex26_len : (begC 1 2).length = 1 := by decide
theorem ex26_to : headN (nthC (begC 1 2) (plc25 5 (begC 1 2))) = 1 := by decide
set_option maxRecDepth 100000 in
set_option maxHeartbeats 4000000 in
theorem awake26 (w : World) (ht : Tab10 w) : Calls Tryz.prog 6 #[] w (BoolE true w) := by
  have HB := Lib.hid (RBegin_any 1 2 w)
  have HTB := Lib.hid ht
  clear ht
  go_enter Tryz.func6, Tryz.ntmps6
  go_wp2_with fail
  refine HB.out.mono ?_
  rintro e w1 ⟨v, rfl, hc, hk1⟩
  rw [ex26_x]
  have HK1 := Lib.hid hk1
  have HN := Lib.hid (CNew_good w1 3 1 (by decide) (by decide) (by decide) (by decide) v (begC 1 2) _ hc.r25 (by decide) ex26_all)
  obtain ⟨a, cap, rfl, _⟩ := hc
  rw [ex26_len]
  rw [ex26_len] at HN
  clear hk1
  go_wp2_with fail
  refine HN.out.mono ?_
  rintro e w2 ⟨g, ga, r, z, rfl, hca, hat, hg, hk2⟩
  have HK2 := Lib.hid (HK1.out.trans hk2 (fun _ _ h => h))
  have HG2 := Lib.hid hca
  have HAT := Lib.hid hat
  have HGW : Hid (w.heap.size ≤ g) := Lib.hid (Nat.le_trans HK1.out.size hg)
  have HBG := Lib.hid (Begin26_write w2 g _ r z (csNew 3 1 ga) (begC 1 2) hca hat (by decide) (by decide) rfl (by show (1 : Int) ≤ 3; decide) (by show (3 : Int) ≤ 6; decide) 2 5 0 0 (by decide) (by decide) (by decide) none 0 [] (fun _ => False) (BSl.nil _ _) (fun _ h => h.elim) (by decide) (HTB.out.kept HK2.out (fun h => h)) ex26_chk (HTB.out.far26 HGW.out))
  clear hca hat hg hk2
  go_wp2_with fail
  refine HBG.out.mono ?_
  rintro e w3 ⟨b, q, qa, qc, lq, rfl, hb3, q1, q2, hg3, hl3, ho3, hlq3, hk3⟩
  have HG3 := Lib.hid hg3
  have HL3 := Lib.hid hl3
  have HB3 := Lib.hid hb3
  have HQ : Hid (q.fr = 203 ∧ q.to = 1) := Lib.hid ⟨q1, q2.trans ex26_to⟩
  have HK3 := Lib.hid (kept_far26 HK2.out hk3 (fun i h => by have h : i = g := h; have := HGW.out; omega))
  have hlg : lq ≠ g := fun e => by
    have h1 := hl3
    unfold RLat at h1
    rw [e, hg3] at h1
    injection h1 with h1
    injection h1 with h1 h2
    exact absurd h2 (by decide)
  have hbg : ¬ b = g := fun e => by
    rw [e, hg3] at hb3
    injection hb3 with h1
    injection h1 with h1 h2
    exact absurd h2 (by decide)
  have HLG : Hid (lq ≠ g) := Lib.hid hlg
  have HBN : Hid (¬ b = g) := Lib.hid hbg
  have hz2 : g < w2.heap.size := heap_lt HG2.out
  have HTK := Lib.hid (Tick26_write w3 g _ r z lq (csBeg (csNew 3 1 ga) 1 2 5 0 (.slice qa ([] : List Int).length qc) 0 lq) (begC 1 2) hg3 (fun w4 hk4 => HAT.out w4 ((hk3.mono (fun i _ e => by have e : i = g := e; show g ≤ i; omega)).trans hk4 (fun _ _ h => h))) (by decide) (by decide) (by show (1 : Int) ≤ 1; omega) rfl hlg hl3 (by show (2 : Int) ≠ 1; decide) (by show (0 : Int) ≤ 5; decide) (by show (5 : Int) ≤ 4294967295; decide) (by show (1 : Int) ≤ 3; decide) (by show (3 : Int) ≤ 6; decide) (by show (1 : Int) ≤ 1; decide) (by show (1 : Int) ≤ 5; decide) (by show (0 : Int) ≤ 0; decide) (by show (0 : Int) ≤ 100000; decide) qa qc [] (fun k => w2.heap.size ≤ k ∧ k < w3.heap.size) rfl (ho3.bsl.mono (fun k hk h => ⟨h, hk⟩)) (fun k h => h.2) (fun k h e => by omega) (by decide) (HTB.out.kept HK3.out (fun h => h)) (HTB.out.far26 HGW.out))
  clear hg3 hl3 hb3 q1 q2 ho3 hlq3 hk3 hlg hbg hz2
  go_wp2_with fail
  refine HTK.out.mono ?_
  rintro e w4 ⟨b4, rfl, hg4, hl4, hk4⟩
  have HG4 := Lib.hid hg4
  have HK4 := Lib.hid (kept_far26 HK3.out hk4 (fun i h => by have h : i = g := h; have := HGW.out; omega))
  have HB4 := Lib.hid (hk4.heap (fun h => HBN.out h) HB3.out)
  have e1 : w4.cell? ⟨b, 1, none⟩ = some (.int .i64 203) := by rw [← HQ.out.1]; exact cell_of_row _ _ 1 _ _ _ HB4.out
  have e2 : w4.cell? ⟨b, 2, none⟩ = some (.int .i64 1) := by rw [← HQ.out.2]; exact cell_of_row _ _ 2 _ _ _ HB4.out
  have HBU := Lib.hid (Busy26_yes w4 g lq _ hg4 (by show (1 : Int) ≤ 1; omega) rfl hl4)
  clear hg4 hl4 hk4
  go_wp2_with fail
  refine HBU.out.mono ?_
  rintro e w5 ⟨rfl, hk5⟩
  have HK5 := Lib.hid (HK4.out.trans hk5 (fun _ _ h => h))
  have HNU := Lib.hid (CNum_any w5 g _ (HG4.out.no hk5))
  clear hk5 e1 e2
  go_wp2_with fail
  refine HNU.out.mono ?_
  rintro e w6 ⟨rfl, rfl⟩
  have hnu : ({ csBeg (csNew 3 1 ga) 1 2 5 0 (.slice qa ([] : List Int).length qc) 0 lq with tk := (csBeg (csNew 3 1 ga) 1 2 5 0 (.slice qa ([] : List Int).length qc) 0 lq).tk + 1 } : CS).nu = 1 := rfl
  rw [hnu]
  clear hnu
  go_wp2
  go_ret
  exact ⟨rfl, HK5.out⟩
end Go.Proofs.YtclfecninhipnaaGreatDoor
namespace Go.Proofs.YtclfecninhipnaaGreatDoor
open Go.RowKit
set_option linter.unusedVariables false
set_option linter.unusedSimpArgs false

def RqCutR (V : World) (c6 : Nat) (q : LV) (hn nu y : Int) (wc : World) : Prop := wc.heap[c6]? = some (.cells (lcs { q with kd := 19, «to» := hn, nu := nu, ke := y }) 48 (0, 0)) ∧ Kept (fun b => b = c6) V wc
theorem lcs19 (q : LV) (hn nu y : Int) : ((((lcs q).setIfInBounds 0 (.int .i64 19)).setIfInBounds 2 (.int .i64 hn)).setIfInBounds 6 (.int .u64 nu)).setIfInBounds 11 (.int .u32 y) = lcs { q with kd := 19, «to» := hn, nu := nu, ke := y } := by rfl
theorem cutR_a {wc w3 : World} {c6 : Nat} {q : LV} {hn nu y : Int} (h : w3.heap[c6]? = some (.cells (lcs q) 48 (0, 0))) (hk0 : Kept NoB wc w3) : RqCutR wc c6 q hn nu y ((((w3.setCell ⟨c6, 0, none⟩ (.int .i64 19)).setCell ⟨c6, 2, none⟩ (.int .i64 hn)).setCell ⟨c6, 6, none⟩ (.int .u64 nu)).setCell ⟨c6, 11, none⟩ (.int .u32 y)) := by
  have hk := hk0.mono (T := fun b => b = c6) (fun _ _ h => h.elim)
  have h1 := bset25 (bset25 (bset25 (bset25 h 0 (.int .i64 19)) 2 (.int .i64 hn)) 6 (.int .u64 nu)) 11 (.int .u32 y)
  rw [lcs19 q hn nu y] at h1
  exact ⟨h1, (((hk.setCell (p := ⟨c6, 0, none⟩) (.inl rfl) _).setCell (p := ⟨c6, 2, none⟩) (.inl rfl) _).setCell (p := ⟨c6, 6, none⟩) (.inl rfl) _).setCell (p := ⟨c6, 11, none⟩) (.inl rfl) _⟩
set_option maxRecDepth 100000 in
set_option maxHeartbeats 4000000 in
theorem Req26_read (w : World) (g B r z : Nat) (x : CS) (l : List Cf) (h : CaAt w g x) (hat : AtAt w B x.ga r z l) (l1 : 1 ≤ l.length) (l2 : l.length ≤ 1000) (hk : x.k = 1) (y0 : 0 ≤ x.y) (y1 : x.y ≤ 4294967295) (c1 : 1 ≤ x.cl) (c6 : x.cl ≤ 6)
    (da : Option Addr) (m dc : Nat) (hdv : x.d = .slice da m dc) (hp : x.p ≤ 9223372036854775807) :
    Calls Tryz.prog 18 #[.pointer (some ⟨g, 0, none⟩)] w fun e w' => ∃ q : LV, e = .returned (.agg (lcs q)) ∧ q.fr = 200 + x.cl ∧ q.to = readN (nthC l (plc25 x.y l)) x.p ∧ q.gn = .slice none 0 0 ∧ q.vo = .slice none 0 0 ∧ (∃ ua un uc, q.up = .slice ua un uc) ∧ q.da = .slice none 0 0 ∧ Kept NoB w w' := by
  have HH := Lib.hid (heap_alloc_new w (.cells (lcs lv0) 48))
  have HK := Lib.hid ((Kept.refl NoB w).alloc (.cells (lcs lv0) 48))
  have HG := Lib.hid h
  have HOF := Lib.hid (fun w' (hk : Kept NoB w w') => Of25_any w' _ _ _ _ l (hat.no hk) l1 l2 x.y y0 y1)
  have HHD := Lib.hid (fun w' (hk : Kept NoB w w') => Reader25_any w' _ _ _ _ l (hat.no hk) l1 l2 x.y x.p y0 y1 hp)
  have HAD := Lib.hid (fun w' (hk : Kept NoB w w') => CAddr_any w' g x (h.no hk) c1 c6)
  have HHN : Hid (True) := Lib.hid trivial
  obtain ⟨cf, hcf⟩ : ∃ cf, cf = nthC l (plc25 x.y l) := ⟨_, rfl⟩
  rw [← hcf] at HOF HHD ⊢
  obtain ⟨hn, hhn⟩ : ∃ hn, hn = readN cf x.p := ⟨_, rfl⟩
  rw [← hhn] at HHD ⊢
  have HCC : Hid (∀ w', Kept NoB w w' → w'.cell? ⟨g, 0, none⟩ = some (.int .i64 x.cl) ∧ w'.cell? ⟨g, 3, none⟩ = some (.pointer (some ⟨x.ga, 0, none⟩)) ∧ w'.cell? ⟨g, 4, none⟩ = some (.int .u64 x.nu) ∧ w'.cell? ⟨g, 5, none⟩ = some (.int .i64 x.k) ∧ w'.cell? ⟨g, 6, none⟩ = some (.int .u32 x.y) ∧ w'.cell? ⟨g, 7, none⟩ = some (.int .u64 x.v) ∧ w'.cell? ⟨g, 8, none⟩ = some (.slice da m dc) ∧ w'.cell? ⟨g, 9, none⟩ = some (.int .i64 x.p)) := Lib.hid (fun w' hk => by
    obtain ⟨c0, _, _, c3, c4, c5, c6, c7, c8, c9, _⟩ := (h.no hk).c
    rw [hdv] at c8
    exact ⟨c0, c3, c4, c5, c6, c7, c8, c9⟩)
  have hgl : g < w.heap.size := heap_lt h
  obtain ⟨cl, ms, tk, ga, nu, k, y, v, d, p, lp, nu2, k2, yy2, v2, d2, p2, lp2⟩ := x
  simp only at HG HOF HHD HAD HCC hk ⊢
  subst hk
  obtain ⟨W, hW⟩ : ∃ W, W = w.alloc (.cells (lcs lv0) 48) := ⟨_, rfl⟩
  have HSZ : Hid (W.heap.size = w.heap.size + 1) := Lib.hid (by rw [hW]; simp)
  rw [← hW] at HH HK
  have HW : Hid (W = w.alloc (.cells #[.int .i64 0, .int .i64 0, .int .i64 0, .int .i64 0, .int .u64 0, .int .u64 0, .int .u64 0, .int .u64 0, .int .u64 0, .int .u64 0, .int .i64 0, .int .u32 0, .int .i64 0, .int .i64 0, .int .i64 0, .int .u64 0, .int .i64 0, .int .i64 0, .int .u64 0, .slice none 0 0, .bool false, .int .i64 0, .slice none 0 0, .slice none 0 0, .slice none 0 0] 48)) := Lib.hid hW
  clear hW hcf hhn hdv h hat l1 l2 HHN hp
  go_enter Tryz.func18, Tryz.ntmps18
  go_upto_region 1 with fail
  rw [← HW.out]
  have hq1 : ¬ g = W.heap.size := by have := HSZ.out; omega
  have hq2 : ¬ W.heap.size = g := fun h => hq1 h.symm
  have HTEN : Hid (∀ w', Kept (fun b => b = W.heap.size) W w' → w'.cell? ⟨g, 4, none⟩ = some (.int .u64 nu) ∧ w'.cell? ⟨g, 5, none⟩ = some (.int .i64 1) ∧ w'.cell? ⟨g, 6, none⟩ = some (.int .u32 y) ∧ w'.cell? ⟨g, 7, none⟩ = some (.int .u64 v) ∧ w'.cell? ⟨g, 8, none⟩ = some (.slice da m dc) ∧ w'.cell? ⟨g, 9, none⟩ = some (.int .i64 p)) := Lib.hid (fun w' hk => by
    obtain ⟨c0, c3, c4, c5, c6, c7, c8, c9⟩ := HCC.out W HK.out
    exact ⟨hk.cell (p := ⟨g, 4, none⟩) hq1 c4, hk.cell (p := ⟨g, 5, none⟩) hq1 c5, hk.cell (p := ⟨g, 6, none⟩) hq1 c6, hk.cell (p := ⟨g, 7, none⟩) hq1 c7, hk.cell (p := ⟨g, 8, none⟩) hq1 c8, hk.cell (p := ⟨g, 9, none⟩) hq1 c9⟩)
  have HT := Lib.hid (HTEN.out _ (Kept.refl _ W).drew)
  have HTA := Lib.hid (HTEN.out _ ((Kept.refl (fun b => b = W.heap.size) W).alloc (.cells #[.int .i64 0, .int .u32 0, .int .u64 0, .slice none 0 0, .int .i64 0] 26)).drew)
  have HTB := Lib.hid (HTEN.out _ ((Kept.refl (fun b => b = W.heap.size) W).alloc (.cells #[.int .i64 1, .int .u32 y, .int .u64 v, .slice da m dc, .int .i64 p] 26)).drew)
  go_region_held3 (fun w' => w'.cell? ⟨g, 4, none⟩ = some (.int .u64 nu) ∧ w'.cell? ⟨g, 5, none⟩ = some (.int .i64 1) ∧ w'.cell? ⟨g, 6, none⟩ = some (.int .u32 y) ∧ w'.cell? ⟨g, 7, none⟩ = some (.int .u64 v) ∧ w'.cell? ⟨g, 8, none⟩ = some (.slice da m dc) ∧ w'.cell? ⟨g, 9, none⟩ = some (.int .i64 p))
    (first | (with_reducible exact HT.out) | (with_reducible exact HTA.out) | (with_reducible exact HTB.out) | go_keep)
    (fail)
  have HVO := Lib.hid (heap_alloc_new W (.cells #[.int .i64 1, .int .u32 y, .int .u64 v, .slice da m dc, .int .i64 p] 26))
  have HKV := Lib.hid (((HK.out).alloc (.cells #[.int .i64 1, .int .u32 y, .int .u64 v, .slice da m dc, .int .i64 p] 26)).drew)
  have HHV := Lib.hid (blk_old25 HH.out (.cells #[.int .i64 1, .int .u32 y, .int .u64 v, .slice da m dc, .int .i64 p] 26))
  obtain ⟨V, hV⟩ : ∃ V, V = (W.alloc (.cells #[.int .i64 1, .int .u32 y, .int .u64 v, .slice da m dc, .int .i64 p] 26)).drew := ⟨_, rfl⟩
  have HVV := Lib.hid hV
  have HVZ : Hid (V.heap.size = w.heap.size + 2) := Lib.hid (by have h : V.heap.size = W.heap.size + 1 := (by rw [hV]; simp [World.drew]); have := HSZ.out; omega)
  replace HVO : Hid (V.heap[W.heap.size]? = some (.cells #[.int .i64 1, .int .u32 y, .int .u64 v, .slice da m dc, .int .i64 p] 26 (0, 0))) := Lib.hid (by rw [hV]; exact HVO.out)
  replace HHV : Hid (V.heap[w.heap.size]? = some (.cells (lcs lv0) 48 (0, 0))) := Lib.hid (by rw [hV]; exact HHV.out)
  rw [← hV] at HKV
  clear HT HTA HTB HTEN hV
  obtain ⟨b1, hb1⟩ : ∃ b1, b1 = W.heap.size := ⟨_, rfl⟩
  rw [← hb1] at HVO hq1 hq2 HSZ
  have HTEN : Hid (∀ w', Kept NoB V w' → w'.cell? ⟨g, 3, none⟩ = some (.pointer (some ⟨ga, 0, none⟩)) ∧ w'.cell? ⟨b1, 1, none⟩ = some (.int .u32 y)) := Lib.hid (fun w' hk => ⟨(HCC.out w' (HKV.out.trans hk (fun _ _ h => h))).2.1, cell_of_row _ _ 1 _ _ _ (hk.heap (fun h => h) HVO.out)⟩)
  go_upto_region 2 with fail
  rw [← hb1, ← HVV.out]
  clear hb1
  go_cut [5] from 9 to 76 (RqCut2 V cf)
  case first =>
    have HKc := Lib.hid (Kept.refl NoB V).drew
    have HT := Lib.hid (HTEN.out _ HKc.out)
    have HTA := Lib.hid (HTEN.out _ ((Kept.refl NoB V).alloc (.cells #[.int .i64 0, .int .u64 0, .slice none 0 0, .bool false, .int .i64 0] 44)).drew)
    have hv1 : ¬ g = V.heap.size := by have := HVZ.out; omega
    have hv2 : ¬ V.heap.size = g := fun h => hv1 h.symm
    have hv3 : ¬ b1 = V.heap.size := by have := HVZ.out; have := HSZ.out; omega
    have hv4 : ¬ V.heap.size = b1 := fun h => hv3 h.symm
    go_region_held3 (fun w' => w'.cell? ⟨g, 3, none⟩ = some (.pointer (some ⟨ga, 0, none⟩)) ∧ w'.cell? ⟨b1, 1, none⟩ = some (.int .u32 y))
      (first | (with_reducible exact HT.out) | (with_reducible exact HTA.out) | (with_reducible exact ⟨cell_alloc HT.out.1 _, cell_alloc HT.out.2 _⟩) | go_keep)
      ((first
        | (go_at_call 33; (with_reducible refine (HOF.out _ (HKV.out.trans (by first | exact HKc.out | exact HKc.out.alloc _ | exact ((Kept.refl NoB V).alloc _).drew) (fun _ _ h => h))).mono ?_); rintro e w3 ⟨v3, rfl, ⟨u3, rfl, hn3, _⟩, hk3⟩; obtain ⟨ua3, uc3, rfl, _⟩ := hn3; (try (have HZ := Lib.hid (hk3.heap (fun h => h) (by exact heap_alloc_new V (.cells #[.int .i64 0, .int .u64 0, .slice none 0 0, .bool false, .int .i64 0] 44))); have z0 := (cells5 HZ.out).1; have z1 := (cells5 HZ.out).2.1; have z2 := (cells5 HZ.out).2.2.1; have z3 := (cells5 HZ.out).2.2.2.1; have z4 := (cells5 HZ.out).2.2.2.2; have f0 := frz25 HZ.out 0; have f1 := frz25 HZ.out 1; have f2 := frz25 HZ.out 2; have f3 := frz25 HZ.out 3; have f4 := frz25 HZ.out 4)); replace HKc := Lib.hid ((by first | exact HKc.out | exact HKc.out.alloc _ | exact ((Kept.refl NoB V).alloc _).drew : Kept NoB V _).trans hk3 (fun _ _ h => h)); replace HT := Lib.hid (HTEN.out _ HKc.out); clear hk3)
        | fail))
    · have HREL : Hid (RqCut2 V cf (.pointer (some ⟨w3.heap.size, 0, none⟩)) (w3.alloc (.cells #[.int .i64 cf.ch, .int .u64 cf.ep, .slice ua3 cf.ns.length uc3, .bool cf.fr, .int .i64 cf.jn] 44))) := Lib.hid ⟨w3.heap.size, ua3, uc3, rfl, heap_alloc_new _ _, HKc.out.size, HKc.out.alloc _⟩
      go_wp2_with fail
      go_meet
      exact HREL.out
    · have HREL : Hid (RqCut2 V cf (.pointer (some ⟨V.heap.size, 0, none⟩)) (five25 w3 V.heap.size (.int .i64 cf.ch) (.int .u64 cf.ep) (.slice ua3 cf.ns.length uc3) (.bool cf.fr) (.int .i64 cf.jn))) := Lib.hid ⟨V.heap.size, ua3, uc3, rfl, five25_at HZ.out _ _ _ _ _, Nat.le_refl _, HKc.out.five25 (.inr (Nat.le_refl _)) _ _ _ _ _⟩
      clear z0 z1 z2 z3 z4 f0 f1 f2 f3 f4
      go_wp2_with fail
      go_meet
      exact HREL.out
  case rest =>
    obtain ⟨c, ua, uc, rfl, hcf, hcc, hkx⟩ := hcut
    have HKX := Lib.hid hkx
    have HCF := Lib.hid hcf
    have HCB : Hid (w.heap.size + 2 ≤ c) := Lib.hid (by rw [← HVZ.out]; exact hcc)
    have HVX := Lib.hid (hkx.heap (fun h => h) HVO.out)
    have HHX := Lib.hid (hkx.heap (fun h => h) HHV.out)
    have HKY := Lib.hid (HKV.out.trans hkx (fun _ _ h => h))
    clear hcf hcc hkx
    have HTEN2 : Hid (∀ w', Kept NoB wc w' → w'.cell? ⟨c, 0, none⟩ = some (.int .i64 cf.ch) ∧ w'.cell? ⟨c, 1, none⟩ = some (.int .u64 cf.ep)) := Lib.hid (fun w' hk => ⟨cell_of_row _ _ 0 _ _ _ (hk.heap (fun h => h) HCF.out), cell_of_row _ _ 1 _ _ _ (hk.heap (fun h => h) HCF.out)⟩)
    have HKc := Lib.hid (Kept.refl NoB wc).drew
    have HT := Lib.hid (HTEN2.out _ HKc.out)
    go_upto_region 3 with fail
    have HKz : Hid (Kept NoB wc ((wc.alloc (.cells #[.int .i64 0, .int .i64 0, .int .i64 0, .int .i64 0, .int .u64 0, .int .u64 0, .int .u64 0, .int .u64 0, .int .u64 0, .int .u64 0, .int .i64 0, .int .u32 0, .int .i64 0, .int .i64 0, .int .i64 0, .int .u64 0, .int .i64 0, .int .i64 0, .int .u64 0, .slice none 0 0, .bool false, .int .i64 0, .slice none 0 0, .slice none 0 0, .slice none 0 0] 48)).drew)) := Lib.hid ((Kept.refl NoB wc).alloc _).drew
    have HTZ := Lib.hid (HTEN2.out _ HKz.out)
    have HZA : Hid (((wc.alloc (.cells #[.int .i64 0, .int .i64 0, .int .i64 0, .int .i64 0, .int .u64 0, .int .u64 0, .int .u64 0, .int .u64 0, .int .u64 0, .int .u64 0, .int .i64 0, .int .u32 0, .int .i64 0, .int .i64 0, .int .i64 0, .int .u64 0, .int .i64 0, .int .i64 0, .int .u64 0, .slice none 0 0, .bool false, .int .i64 0, .slice none 0 0, .slice none 0 0, .slice none 0 0] 48)).drew).heap[wc.heap.size]? = some (.cells (lcs lv0) 48 (0, 0))) := Lib.hid (heap_alloc_new wc _)
    have hcw : c < wc.heap.size := heap_lt HCF.out
    have HRS : Hid ((((wc.alloc (.cells #[.int .i64 0, .int .i64 0, .int .i64 0, .int .i64 0, .int .u64 0, .int .u64 0, .int .u64 0, .int .u64 0, .int .u64 0, .int .u64 0, .int .i64 0, .int .u32 0, .int .i64 0, .int .i64 0, .int .i64 0, .int .u64 0, .int .i64 0, .int .i64 0, .int .u64 0, .slice none 0 0, .bool false, .int .i64 0, .slice none 0 0, .slice none 0 0, .slice none 0 0] 48)).drew).setRow wc.heap.size (lcs ({ lv0 with fr := 200 + cl, ch := cf.ch, ep := cf.ep } : LV))).heap[wc.heap.size]? = some (.cells (lcs ({ lv0 with fr := 200 + cl, ch := cf.ch, ep := cf.ep } : LV)) 48 (0, 0)) ∧ Kept NoB wc (((wc.alloc (.cells #[.int .i64 0, .int .i64 0, .int .i64 0, .int .i64 0, .int .u64 0, .int .u64 0, .int .u64 0, .int .u64 0, .int .u64 0, .int .u64 0, .int .i64 0, .int .u32 0, .int .i64 0, .int .i64 0, .int .i64 0, .int .u64 0, .int .i64 0, .int .i64 0, .int .u64 0, .slice none 0 0, .bool false, .int .i64 0, .slice none 0 0, .slice none 0 0, .slice none 0 0] 48)).drew).setRow wc.heap.size (lcs ({ lv0 with fr := 200 + cl, ch := cf.ch, ep := cf.ep } : LV)))) := Lib.hid ⟨setRow26_at HZA.out, HKz.out.setRow26 (.inr (Nat.le_refl _)) _⟩
    have HTS := Lib.hid (HTEN2.out _ HRS.out.2)
    go_cut [6] from 9 to 76 (RqCut3 wc ({ lv0 with fr := 200 + cl, ch := cf.ch, ep := cf.ep } : LV))
    case first =>
      refine wp_region_noPanic ?_
      refine wp_region_held_drew (S := (fun w' => w'.cell? ⟨c, 0, none⟩ = some (.int .i64 cf.ch) ∧ w'.cell? ⟨c, 1, none⟩ = some (.int .u64 cf.ep))) (by kernel_rfl) ?_ (fun hHeld => ?_)
      · (try dsimp only); with_reducible exact HT.out
      refine wpAnyH_take (i := 0) (oi := { dst := some 26, op := Op.move (Operand.tmp 0), type := 32, pos := "caller.go:165", after := #[], guard := none }) (v := ?_) rfl (by kernel_rfl) (by kernel_rfl) (by kernel_rfl) (fun _ _ _ h => h) (Or.inl ⟨by rfl, ?_⟩) (by assumption) ?_
      rotate_left
      · (intro w hSw; (try dsimp only at hSw); go_simp; try with_reducible rfl)
      try simp only [Act.put, List.setIfInBounds_toArray, List.set_cons_zero, List.set_cons_succ]
      refine wpAnyH_take (i := 2) (oi := { dst := some 28, op := Op.fieldAddr 44 (Operand.tmp 5) 0, type := 0, pos := "caller.go:165", after := #[], guard := none }) (v := ?_) rfl (by kernel_rfl) (by kernel_rfl) (by kernel_rfl) (fun _ _ _ h => h) (Or.inl ⟨by rfl, ?_⟩) (by assumption) ?_
      rotate_left
      · (intro w hSw; (try dsimp only at hSw); go_simp; try with_reducible rfl)
      try simp only [Act.put, List.setIfInBounds_toArray, List.set_cons_zero, List.set_cons_succ]
      refine wpAnyH_take (i := 3) (oi := { dst := some 29, op := Op.load 3 (Operand.tmp 28), type := 3, pos := "caller.go:165", after := #[{ on := 2, ground := Ground.data }], guard := none }) (v := ?_) rfl (by kernel_rfl) (by kernel_rfl) (by kernel_rfl) (fun _ _ _ h => h) (Or.inl ⟨by rfl, ?_⟩) (by assumption) ?_
      rotate_left
      · (intro w hSw; (try dsimp only at hSw); go_simp; try with_reducible rfl)
      try simp only [Act.put, List.setIfInBounds_toArray, List.set_cons_zero, List.set_cons_succ]
      refine wpAnyH_take (i := 4) (oi := { dst := some 30, op := Op.fieldAddr 44 (Operand.tmp 5) 1, type := 0, pos := "caller.go:165", after := #[], guard := none }) (v := ?_) rfl (by kernel_rfl) (by kernel_rfl) (by kernel_rfl) (fun _ _ _ h => h) (Or.inl ⟨by rfl, ?_⟩) (by assumption) ?_
      rotate_left
      · (intro w hSw; (try dsimp only at hSw); go_simp; try with_reducible rfl)
      try simp only [Act.put, List.setIfInBounds_toArray, List.set_cons_zero, List.set_cons_succ]
      refine wpAnyH_take (i := 5) (oi := { dst := some 31, op := Op.load 23 (Operand.tmp 30), type := 23, pos := "caller.go:165", after := #[{ on := 4, ground := Ground.data }], guard := none }) (v := ?_) rfl (by kernel_rfl) (by kernel_rfl) (by kernel_rfl) (fun _ _ _ h => h) (Or.inl ⟨by rfl, ?_⟩) (by assumption) ?_
      rotate_left
      · (intro w hSw; (try dsimp only at hSw); go_simp; try with_reducible rfl)
      try simp only [Act.put, List.setIfInBounds_toArray, List.set_cons_zero, List.set_cons_succ]
      refine wpAnyH_ready (rs := [1, 7]) (by kernel_rfl) (by simp) ?_
      refine AllReadyH.cons (o := { dst := some 27, op := Op.call { callee := Callee.value (Operand.func 21), args := #[Operand.tmp 26], argTypes := #[32] }, type := 3, pos := "caller.go:165", after := #[{ on := 0, ground := Ground.data }], guard := none }) rfl (fun K hK => ?_) (AllReadyH.cons (o := { dst := some 6, op := Op.alloc 48, type := 0, pos := "caller.go:165", after := #[], guard := none }) rfl (fun K hK => ?_) AllReadyH.nil)
      · skip
        rw [if_pos (by rfl)]
        go_simp
        refine (HAD.out _ (HKY.out.trans HKc.out (fun _ _ h => h))).mono ?_
        rintro e w3 ⟨rfl, rfl⟩
        try dsimp only
        refine hK.out _ _ ?_ (fun hHeld => ?_)
        · (try dsimp only); with_reducible exact HT.out
        clear hK K
        try simp only [Act.put, List.setIfInBounds_toArray, List.set_cons_zero, List.set_cons_succ]
        refine wpAnyH_take (i := 6) (oi := { dst := some 32, op := Op.build 48 #[(1, Operand.tmp 27), (3, Operand.tmp 29), (4, Operand.tmp 31)], type := 48, pos := "caller.go:165", after := #[{ on := 1, ground := Ground.data }, { on := 3, ground := Ground.data }, { on := 5, ground := Ground.data }], guard := none }) (v := ?_) rfl (by kernel_rfl) (by kernel_rfl) (by kernel_rfl) (fun _ _ _ h => h) (Or.inl ⟨by rfl, ?_⟩) (by assumption) ?_
        rotate_left
        · (intro w hSw; (try dsimp only at hSw); go_simp; try with_reducible rfl)
        try simp only [Act.put, List.setIfInBounds_toArray, List.set_cons_zero, List.set_cons_succ]
        refine wpAnyH_ready (rs := [7]) (by kernel_rfl) (by simp) ?_
        refine AllReadyH.cons (o := { dst := some 6, op := Op.alloc 48, type := 0, pos := "caller.go:165", after := #[], guard := none }) rfl (fun K hK => ?_) AllReadyH.nil
        rw [if_pos (by rfl)]
        go_simp
        refine hK.out _ _ ?_ (fun hHeld => ?_)
        · exact HTZ.out
        clear hK K
        try simp only [Act.put, List.setIfInBounds_toArray, List.set_cons_zero, List.set_cons_succ]
        refine wpAnyH_ready (rs := [8]) (by kernel_rfl) (by simp) ?_
        refine AllReadyH.cons (o := { dst := none, op := Op.store 48 (Operand.tmp 6) (Operand.tmp 32), type := 0, pos := "caller.go:165", after := #[{ on := 7, ground := Ground.data }, { on := 6, ground := Ground.data }, { on := 1, ground := Ground.chain }, { on := 0, ground := Ground.phase }, { on := 1, ground := Ground.phase }, { on := 2, ground := Ground.phase }, { on := 3, ground := Ground.phase }, { on := 4, ground := Ground.phase }, { on := 5, ground := Ground.phase }, { on := 6, ground := Ground.phase }, { on := 7, ground := Ground.phase }], guard := none }) rfl (fun K hK => ?_) AllReadyH.nil
        rw [if_pos (by rfl)]
        refine wp_store_row 48 (Operand.tmp 6) (Operand.tmp 32) rfl wc.heap.size (lcs ({ lv0 with fr := 200 + cl, ch := cf.ch, ep := cf.ep } : LV)) rfl rfl 48 (lcs lv0) HZA.out (by kernel_rfl) rfl (by rw [← Array.all_toList]; rfl) ?_
        refine hK.out _ _ ?_ (fun hHeld => ?_)
        · exact HTS.out
        clear hK K
        try simp only [Act.put, List.setIfInBounds_toArray, List.set_cons_zero, List.set_cons_succ]
        refine wpAnyH_done (by kernel_rfl) ?_ _
        refine NoPanic.normal ?_
        obtain ⟨ww, hww⟩ : ∃ ww, ww = ((wc.alloc (.cells #[.int .i64 0, .int .i64 0, .int .i64 0, .int .i64 0, .int .u64 0, .int .u64 0, .int .u64 0, .int .u64 0, .int .u64 0, .int .u64 0, .int .i64 0, .int .u32 0, .int .i64 0, .int .i64 0, .int .i64 0, .int .u64 0, .int .i64 0, .int .i64 0, .int .u64 0, .slice none 0 0, .bool false, .int .i64 0, .slice none 0 0, .slice none 0 0, .slice none 0 0] 48)).drew).setRow wc.heap.size (lcs ({ lv0 with fr := 200 + cl, ch := cf.ch, ep := cf.ep } : LV)) := ⟨_, rfl⟩
        have HREL : Hid (RqCut3 wc ({ lv0 with fr := 200 + cl, ch := cf.ch, ep := cf.ep } : LV) (.pointer (some ⟨wc.heap.size, 0, none⟩)) ww) := Lib.hid (by rw [hww]; exact ⟨wc.heap.size, rfl, HRS.out.1, Nat.le_refl _, HRS.out.2⟩)
        clear hHeld
        rw [← hww]
        clear hww HRS HTS HZA
        go_wp2_with fail
        go_meet
        exact HREL.out
      · skip
        rw [if_pos (by rfl)]
        go_simp
        refine hK.out _ _ ?_ (fun hHeld => ?_)
        · exact HTZ.out
        clear hK K
        try simp only [Act.put, List.setIfInBounds_toArray, List.set_cons_zero, List.set_cons_succ]
        refine wpAnyH_ready (rs := [1]) (by kernel_rfl) (by simp) ?_
        refine AllReadyH.cons (o := { dst := some 27, op := Op.call { callee := Callee.value (Operand.func 21), args := #[Operand.tmp 26], argTypes := #[32] }, type := 3, pos := "caller.go:165", after := #[{ on := 0, ground := Ground.data }], guard := none }) rfl (fun K hK => ?_) AllReadyH.nil
        rw [if_pos (by rfl)]
        go_simp
        refine (HAD.out _ (HKY.out.trans HKz.out (fun _ _ h => h))).mono ?_
        rintro e w3 ⟨rfl, rfl⟩
        try dsimp only
        refine hK.out _ _ ?_ (fun hHeld => ?_)
        · exact HTZ.out
        clear hK K
        try simp only [Act.put, List.setIfInBounds_toArray, List.set_cons_zero, List.set_cons_succ]
        refine wpAnyH_take (i := 6) (oi := { dst := some 32, op := Op.build 48 #[(1, Operand.tmp 27), (3, Operand.tmp 29), (4, Operand.tmp 31)], type := 48, pos := "caller.go:165", after := #[{ on := 1, ground := Ground.data }, { on := 3, ground := Ground.data }, { on := 5, ground := Ground.data }], guard := none }) (v := ?_) rfl (by kernel_rfl) (by kernel_rfl) (by kernel_rfl) (fun _ _ _ h => h) (Or.inl ⟨by rfl, ?_⟩) (by assumption) ?_
        rotate_left
        · (intro w hSw; (try dsimp only at hSw); go_simp; try with_reducible rfl)
        try simp only [Act.put, List.setIfInBounds_toArray, List.set_cons_zero, List.set_cons_succ]
        refine wpAnyH_ready (rs := [8]) (by kernel_rfl) (by simp) ?_
        refine AllReadyH.cons (o := { dst := none, op := Op.store 48 (Operand.tmp 6) (Operand.tmp 32), type := 0, pos := "caller.go:165", after := #[{ on := 7, ground := Ground.data }, { on := 6, ground := Ground.data }, { on := 1, ground := Ground.chain }, { on := 0, ground := Ground.phase }, { on := 1, ground := Ground.phase }, { on := 2, ground := Ground.phase }, { on := 3, ground := Ground.phase }, { on := 4, ground := Ground.phase }, { on := 5, ground := Ground.phase }, { on := 6, ground := Ground.phase }, { on := 7, ground := Ground.phase }], guard := none }) rfl (fun K hK => ?_) AllReadyH.nil
        rw [if_pos (by rfl)]
        refine wp_store_row 48 (Operand.tmp 6) (Operand.tmp 32) rfl wc.heap.size (lcs ({ lv0 with fr := 200 + cl, ch := cf.ch, ep := cf.ep } : LV)) rfl rfl 48 (lcs lv0) HZA.out (by kernel_rfl) rfl (by rw [← Array.all_toList]; rfl) ?_
        refine hK.out _ _ ?_ (fun hHeld => ?_)
        · exact HTS.out
        clear hK K
        try simp only [Act.put, List.setIfInBounds_toArray, List.set_cons_zero, List.set_cons_succ]
        refine wpAnyH_done (by kernel_rfl) ?_ _
        refine NoPanic.normal ?_
        obtain ⟨ww, hww⟩ : ∃ ww, ww = ((wc.alloc (.cells #[.int .i64 0, .int .i64 0, .int .i64 0, .int .i64 0, .int .u64 0, .int .u64 0, .int .u64 0, .int .u64 0, .int .u64 0, .int .u64 0, .int .i64 0, .int .u32 0, .int .i64 0, .int .i64 0, .int .i64 0, .int .u64 0, .int .i64 0, .int .i64 0, .int .u64 0, .slice none 0 0, .bool false, .int .i64 0, .slice none 0 0, .slice none 0 0, .slice none 0 0] 48)).drew).setRow wc.heap.size (lcs ({ lv0 with fr := 200 + cl, ch := cf.ch, ep := cf.ep } : LV)) := ⟨_, rfl⟩
        have HREL : Hid (RqCut3 wc ({ lv0 with fr := 200 + cl, ch := cf.ch, ep := cf.ep } : LV) (.pointer (some ⟨wc.heap.size, 0, none⟩)) ww) := Lib.hid (by rw [hww]; exact ⟨wc.heap.size, rfl, HRS.out.1, Nat.le_refl _, HRS.out.2⟩)
        clear hHeld
        rw [← hww]
        clear hww HRS HTS HZA
        go_wp2_with fail
        go_meet
        exact HREL.out
    case rest =>
      obtain ⟨c6, rfl, hl6, hc6, hk6⟩ := hcut
      have HKD := Lib.hid (HKY.out.trans hk6 (fun _ _ h => h))
      have HL6 := Lib.hid hl6
      have HOD := Lib.hid (hk6.heap (fun h => h) HVX.out)
      have HHD2 := Lib.hid (hk6.heap (fun h => h) HHX.out)
      have HC6 : Hid (w.heap.size + 2 < c6) := Lib.hid (by have := heap_lt HCF.out; have := HCB.out; omega)
      clear hl6 hc6 hk6 HTEN2 HKc HT HKz HTZ HZA hcw HRS HTS
      obtain ⟨c0, c1', c2, c3, c4⟩ := cells5 HOD.out
      go_upto_region 5 with fail
      clear c0 c1' c2 c3 c4
      have hx1 : ¬ c6 = g := by have := HC6.out; omega
      have hx2 : ¬ c6 = b1 := by have := HC6.out; have := HSZ.out; omega
      have hx1' : ¬ g = c6 := fun h => hx1 h.symm
      have hx2' : ¬ b1 = c6 := fun h => hx2 h.symm
      have HTEN8 : Hid (∀ w', Kept NoB wc w' → w'.cell? ⟨g, 3, none⟩ = some (.pointer (some ⟨ga, 0, none⟩)) ∧ w'.cell? ⟨b1, 1, none⟩ = some (.int .u32 y) ∧ w'.cell? ⟨b1, 4, none⟩ = some (.int .i64 p)) := Lib.hid (fun w' hk => ⟨(HCC.out w' (HKD.out.trans hk (fun _ _ h => h))).2.1, cell_of_row _ _ 1 _ _ _ (hk.heap (fun h => h) HOD.out), cell_of_row _ _ 4 _ _ _ (hk.heap (fun h => h) HOD.out)⟩)
      have HKc := Lib.hid (Kept.refl NoB wc).drew
      have HT := Lib.hid (HTEN8.out _ HKc.out)
      go_cut [] from 9 to 76 (RqCutR wc c6 ({ lv0 with fr := 200 + cl, ch := cf.ch, ep := cf.ep } : LV) hn nu y)
      case first =>
        go_region_held3 (fun w' => w'.cell? ⟨g, 3, none⟩ = some (.pointer (some ⟨ga, 0, none⟩)) ∧ w'.cell? ⟨b1, 1, none⟩ = some (.int .u32 y) ∧ w'.cell? ⟨b1, 4, none⟩ = some (.int .i64 p))
          (first | (with_reducible exact HT.out) | go_keep)
          ((first
            | (go_at_call 34; (with_reducible refine (HHD.out _ (HKD.out.trans HKc.out (fun _ _ h => h))).mono ?_); rintro e w3 ⟨rfl, hk3⟩; replace HKc := Lib.hid (HKc.out.trans hk3 (fun _ _ h => h)); replace HT := Lib.hid (HTEN8.out _ HKc.out); have HL8 := Lib.hid (HKc.out.heap (fun h => h) HL6.out); have e0 := cell_of_row _ _ 0 _ _ _ HL8.out; have e2 := cell_of_row _ _ 2 _ _ _ HL8.out; have e6 := cell_of_row _ _ 6 _ _ _ HL8.out; have e11 := cell_of_row _ _ 11 _ _ _ HL8.out; have f0 := frz25 HL8.out 0; have f2 := frz25 HL8.out 2; have f6 := frz25 HL8.out 6; have f11 := frz25 HL8.out 11; clear hk3)
            | fail))
        all_goals
          clear e0 e2 e6 e11 f0 f2 f6 f11
          go_wp2_with fail
          go_meet
          with_reducible exact cutR_a HL8.out HKc.out
      case rest =>
        obtain ⟨hl8, hk8⟩ := hcut
        have HX : Hid (wc.heap[c6]? = some (.cells (lcs ({ lv0 with kd := 19, fr := 200 + cl, «to» := hn, ch := cf.ch, ep := cf.ep, nu := nu, ke := y } : LV)) 48 (0, 0))) := Lib.hid hl8
        have hc6w : w.heap.size < c6 := by have := HC6.out; omega
        have HR3 := Lib.hid (hk8.heap (k := w.heap.size) (fun h => by have h : w.heap.size = c6 := h; omega) HHD2.out)
        have HKG := Lib.hid (kept_far26 HKD.out hk8 (fun i h => by have h : i = c6 := h; omega))
        have HRR := Lib.hid (setRow26_at (cs' := lcs ({ lv0 with kd := 19, fr := 200 + cl, «to» := hn, ch := cf.ch, ep := cf.ep, nu := nu, ke := y } : LV)) HR3.out)
        have HKH := Lib.hid (HKG.out.setRow26 (g := w.heap.size) (.inr (Nat.le_refl _)) (lcs ({ lv0 with kd := 19, fr := 200 + cl, «to» := hn, ch := cf.ch, ep := cf.ep, nu := nu, ke := y } : LV)))
        clear hl8 hk8 hc6w
        go_wp2_with (first
          | (refine wpList_load_row rfl 48 _ rfl c6 rfl 48 (lcs ({ lv0 with kd := 19, fr := 200 + cl, «to» := hn, ch := cf.ch, ep := cf.ep, nu := nu, ke := y } : LV)) (0, 0) _ HX.out Tryz.underlying48 rfl (by kernel_rfl) ?_)
          | (refine wpList_store_row rfl 48 _ _ rfl w.heap.size (lcs ({ lv0 with kd := 19, fr := 200 + cl, «to» := hn, ch := cf.ch, ep := cf.ep, nu := nu, ke := y } : LV)) rfl rfl 48 (lcs lv0) HR3.out (by kernel_rfl) rfl (by rw [← Array.all_toList]; rfl) ?_))
        exact bodyPost_ret (v := .agg (lcs ({ lv0 with kd := 19, fr := 200 + cl, «to» := hn, ch := cf.ch, ep := cf.ep, nu := nu, ke := y } : LV))) (results_cell_row rfl _ _ w.heap.size 48 (lcs ({ lv0 with kd := 19, fr := 200 + cl, «to» := hn, ch := cf.ch, ep := cf.ep, nu := nu, ke := y } : LV)) (0, 0) _ rfl HRR.out Tryz.underlying48 rfl (by kernel_rfl)) rfl ⟨({ lv0 with kd := 19, fr := 200 + cl, «to» := hn, ch := cf.ch, ep := cf.ep, nu := nu, ke := y } : LV), rfl, rfl, rfl, rfl, rfl, ⟨none, 0, 0, rfl⟩, rfl, HKH.out⟩
end Go.Proofs.YtclfecninhipnaaGreatDoor
namespace Go.Proofs.YtclfecninhipnaaGreatDoor
open Go.RowKit
set_option linter.unusedVariables false
set_option linter.unusedSimpArgs false

def chk26r (v : Int) (n : Nat) : Int := if v = 0 ∧ n = 0 then 0 else 4
set_option maxRecDepth 100000 in
set_option maxHeartbeats 2000000 in
theorem Check26_read (w : World) (g : Nat) (y v p nu : Int) (da : Option Addr) (m dc : Nat) :
    Calls Tryz.prog 15 #[.pointer (some ⟨g, 0, none⟩), .agg #[.int .i64 1, .int .u32 y, .int .u64 v, .slice da m dc, .int .i64 p], .int .u64 nu] w fun e w' => e = .returned (.int .i64 (chk26r v m)) ∧ Kept NoB w w' := by
  obtain ⟨W, hW⟩ : ∃ W, W = w.alloc (.cells #[.int .i64 1, .int .u32 y, .int .u64 v, .slice da m dc, .int .i64 p] 26) := ⟨_, rfl⟩
  have HW := Lib.hid hW
  have HB : Hid (W.heap[w.heap.size]? = some (.cells #[.int .i64 1, .int .u32 y, .int .u64 v, .slice da m dc, .int .i64 p] 26 (0, 0))) := Lib.hid (by rw [hW]; exact heap_alloc_new w _)
  have HK : Hid (Kept NoB w W) := Lib.hid (by rw [hW]; exact (Kept.refl NoB w).alloc _)
  clear hW
  unfold chk26r
  by_cases hv : v = 0
  · have hv1 : (v != 0) = false := by simpa using hv
    have hv2 : (v == 0) = true := by simpa using hv
    have hv3 : decide (v = 0) = true := decide_eq_true hv
    subst hv
    by_cases hn : m = 0
    · subst hn
      go_enter Tryz.func15, Tryz.ntmps15
      go_upto_region 1 with fail
      rw [← HW.out]
      obtain ⟨c0, c1, c2, c3, c4⟩ := cells5 HB.out
      go_wp2
      go_ret
      exact ⟨by simp, HK.out⟩
    · have hd : decide (0 < (m : Int)) = true := decide_eq_true (by omega)
      have hd2 : (0 : Int) < (m : Int) := by omega
      rw [if_neg (fun h => hn h.2)]
      clear hn
      go_enter Tryz.func15, Tryz.ntmps15
      go_upto_region 1 with fail
      rw [← HW.out]
      obtain ⟨c0, c1, c2, c3, c4⟩ := cells5 HB.out
      go_wp2
      go_ret
      exact ⟨rfl, HK.out⟩
  · have hv1 : (v != 0) = true := by simpa using hv
    have hv2 : (v == 0) = false := by simpa using hv
    have hv3 : decide (v = 0) = false := decide_eq_false hv
    rw [if_neg (fun h => hv h.1)]
    go_enter Tryz.func15, Tryz.ntmps15
    go_upto_region 1 with fail
    rw [← HW.out]
    obtain ⟨c0, c1, c2, c3, c4⟩ := cells5 HB.out
    go_wp2
    go_ret
    exact ⟨rfl, HK.out⟩
set_option maxRecDepth 100000 in
set_option maxHeartbeats 2000000 in
theorem Begin26_fail (w : World) (g : Nat) (x : CS) (h : CaAt w g x) (h0 : x.nu = 0) (k y v p E : Int) (da : Option Addr) (m dc : Nat) (hE : E ≠ 0)
    (hch : ∀ w', Kept NoB w w' → Calls Tryz.prog 15 #[.pointer (some ⟨g, 0, none⟩), .agg #[.int .i64 k, .int .u32 y, .int .u64 v, .slice da m dc, .int .i64 p], .int .u64 1] w' fun e w'' => e = .returned (.int .i64 E) ∧ Kept NoB w' w'') :
    Calls Tryz.prog 7 #[.pointer (some ⟨g, 0, none⟩), .agg #[.int .i64 k, .int .u32 y, .int .u64 v, .slice da m dc, .int .i64 p]] w fun e w' => e = .returned (.tuple #[.slice none 0 0, .int .i64 E]) ∧ Kept NoB w w' := by
  have HG := Lib.hid h
  have HBU := Lib.hid (fun w' (hk : Kept NoB w w') => Busy26_none w' g x (h.no hk) h0)
  have HCH := Lib.hid hch
  have hE1 : (E != 0) = true := by simpa using hE
  have hE2 : (E == 0) = false := by simpa using hE
  obtain ⟨W, hW⟩ : ∃ W, W = w.alloc (.cells #[.int .i64 k, .int .u32 y, .int .u64 v, .slice da m dc, .int .i64 p] 26) := ⟨_, rfl⟩
  have HW := Lib.hid hW
  have HB : Hid (W.heap[w.heap.size]? = some (.cells #[.int .i64 k, .int .u32 y, .int .u64 v, .slice da m dc, .int .i64 p] 26 (0, 0))) := Lib.hid (by rw [hW]; exact heap_alloc_new w _)
  have HK : Hid (Kept NoB w W) := Lib.hid (by rw [hW]; exact (Kept.refl NoB w).alloc _)
  have HZ0 : Hid (x.nu = 0) := Lib.hid h0
  clear hW h hch h0
  go_enter Tryz.func7, Tryz.ntmps7
  go_upto_region 1 with fail
  rw [← HW.out]
  go_wp2_with fail
  refine (HBU.out _ HK.out).mono ?_
  rintro e w1 ⟨rfl, hk1⟩
  have HK1 := Lib.hid (HK.out.trans hk1 (fun _ _ h => h))
  have HB1 := Lib.hid (hk1.heap (fun h => h) HB.out)
  have c4 := (HG.out.no HK1.out).c.2.2.2.2.1
  rw [HZ0.out] at c4
  obtain ⟨d0, d1, d2, d3, d4⟩ := cells5 HB1.out
  clear hk1
  go_wp2_with fail
  refine (HCH.out _ HK1.out).mono ?_
  rintro e w2 ⟨rfl, hk2⟩
  have HK2 := Lib.hid (HK1.out.trans hk2 (fun _ _ h => h))
  clear c4 d0 d1 d2 d3 d4 hk2
  go_wp2
  go_ret2
  exact ⟨rfl, HK2.out⟩
set_option maxRecDepth 100000 in
set_option maxHeartbeats 4000000 in
theorem Begin26_read (w : World) (g B r z : Nat) (x : CS) (l : List Cf) (h : CaAt w g x) (hat : ∀ w2, Kept (fun b => g ≤ b) w w2 → AtAt w2 B x.ga r z l) (l1 : 1 ≤ l.length) (l2 : l.length ≤ 1000) (h0 : x.nu = 0) (c1 : 1 ≤ x.cl) (c6 : x.cl ≤ 6)
    (k y v p : Int) (hk : k = 1) (hp : p ≤ 9223372036854775807) (y0 : 0 ≤ y) (y1 : y ≤ 4294967295)
    (da : Option Addr) (dc : Nat) (od : List Int) (F : Nat → Prop) (hd : BSl w F (.slice da od.length dc) od) (hF : ∀ k, F k → k < w.heap.size) (hod : od.length ≤ 1000000) (ht : Tab10 w) (hE : chk26r v od.length = 0) (hgt : ¬ 0 = g) :
    Calls Tryz.prog 7 #[.pointer (some ⟨g, 0, none⟩), .agg #[.int .i64 k, .int .u32 y, .int .u64 v, .slice da od.length dc, .int .i64 p]] w fun e w' => ∃ (b : Nat) (q : LV) (qa : Option Addr) (qc lq : Nat), e = .returned (.tuple #[.slice (some ⟨b, 0, none⟩) 1 1, .int .i64 0]) ∧ w'.heap[b]? = some (.cells (lcs q) 48 (0, 0)) ∧ q.fr = 200 + x.cl ∧ q.to = readN (nthC l (plc25 y l)) p ∧
      CaAt w' g (csBeg x 1 k y v (.slice qa od.length qc) p lq) ∧ RLat w' lq false 0 0 (.slice none 0 0) ∧ Own w' (fun b => w.heap.size ≤ b) (.slice qa od.length qc) od ∧ w.heap.size ≤ lq ∧ Kept (fun b => b = g) w w' := by
  subst hk
  have HG := Lib.hid h
  have HBU := Lib.hid (fun w' (hk : Kept NoB w w') => Busy26_none w' g x (h.no hk) h0)
  have HCH := Lib.hid (fun w' => Check26_read w' g y v p 1 da od.length dc)
  rw [hE] at HCH
  have HCO := Lib.hid (fun w' (hkk : Kept NoB w w') => COpy26_any w' 1 y v p da dc od F (hd.kept hkk (fun _ _ h => h)) hod)
  have HTB := Lib.hid ht
  have HAT := Lib.hid hat
  obtain ⟨m, hm⟩ : ∃ m, m = od.length := ⟨_, rfl⟩
  have HM : Hid (m = od.length) := Lib.hid hm
  have HOD : Hid (m ≤ 1000000) := Lib.hid (by omega)
  rw [← hm] at HCH HCO ⊢
  have hgl : g < w.heap.size := heap_lt h
  obtain ⟨W, hW⟩ : ∃ W, W = w.alloc (.cells #[.int .i64 1, .int .u32 y, .int .u64 v, .slice da m dc, .int .i64 p] 26) := ⟨_, rfl⟩
  have HW := Lib.hid hW
  have HB : Hid (W.heap[w.heap.size]? = some (.cells #[.int .i64 1, .int .u32 y, .int .u64 v, .slice da m dc, .int .i64 p] 26 (0, 0))) := Lib.hid (by rw [hW]; exact heap_alloc_new w _)
  have HK : Hid (Kept NoB w W) := Lib.hid (by rw [hW]; exact (Kept.refl NoB w).alloc _)
  have HZ0 : Hid (x.nu = 0) := Lib.hid h0
  clear hE hm hW h hd hF ht hod hat h0
  go_enter Tryz.func7, Tryz.ntmps7
  go_upto_region 1 with fail
  rw [← HW.out]
  go_wp2_with fail
  refine (HBU.out _ HK.out).mono ?_
  rintro e w1 ⟨rfl, hk1⟩
  have HK1 := Lib.hid (HK.out.trans hk1 (fun _ _ h => h))
  have HB1 := Lib.hid (hk1.heap (fun h => h) HB.out)
  have c4 := (HG.out.no HK1.out).c.2.2.2.2.1
  rw [HZ0.out] at c4
  obtain ⟨d0, d1, d2, d3, d4⟩ := cells5 HB1.out
  clear hk1
  go_wp2_with fail
  refine (HCH.out _).mono ?_
  rintro e w2 ⟨rfl, hk2⟩
  have HK2 := Lib.hid (HK1.out.trans hk2 (fun _ _ h => h))
  have HB2 := Lib.hid (hk2.heap (fun h => h) HB1.out)
  clear c4 d0 d1 d2 d3 d4 hk2
  obtain ⟨d0, d1, d2, d3, d4⟩ := cells5 HB2.out
  go_wp2_with fail
  refine (HCO.out _ HK2.out).mono ?_
  rintro e w3 ⟨qa, qc, rfl, hown, hk3⟩
  have HO3 := Lib.hid hown
  have HK3 := Lib.hid (HK2.out.trans hk3 (fun _ _ h => h))
  clear d0 d1 d2 d3 d4 hown hk3
  go_wp2_with fail
  refine (LNew26_any w3).mono ?_
  rintro e w4 ⟨rfl, hl4, hw4⟩
  have hk4 : Kept NoB w3 w4 := by rw [hw4]; exact (Kept.refl NoB w3).alloc _
  have HL4 := Lib.hid hl4
  have HZ4 : Hid (w3.heap.size < w4.heap.size) := Lib.hid (by rw [hw4]; simp)
  have HK4 := Lib.hid (HK3.out.trans hk4 (fun _ _ h => h))
  have HO4 := Lib.hid (HO3.out.kept hk4 (fun _ _ h => h))
  obtain ⟨lq, hlq⟩ : ∃ lq, lq = w3.heap.size := ⟨_, rfl⟩
  rw [← hlq] at HL4 HZ4 ⊢
  have HLQ : Hid (w.heap.size ≤ lq) := Lib.hid (by rw [hlq]; exact HK3.out.size)
  have HG4 := Lib.hid (HG.out.no HK4.out)
  obtain ⟨k0, k1, k2, k3, k4, k5, k6, k7, k8, k9, k10, _⟩ := HG4.out.c
  have f4 := HG4.out.frz 4
  have f5 := HG4.out.frz 5
  have f6 := HG4.out.frz 6
  have f7 := HG4.out.frz 7
  have f8 := HG4.out.frz 8
  have f9 := HG4.out.frz 9
  have f10 := HG4.out.frz 10
  clear hw4 hk4 hl4 hlq k0 k1 k2 k3
  have HP := Lib.hid (put26_at HG4.out 1 1 y v (.slice qa m qc) p lq)
  have HKP : Hid (Kept (fun b => b = g) w (put26 w4 g 1 1 y v (.slice qa m qc) p (.pointer (some ⟨lq, 0, none⟩)))) := Lib.hid ((HK4.out.mono (T := fun b => b = g) (fun _ _ h => h.elim)).put26 (g := g) (.inl rfl) 1 1 y v (.slice qa m qc) p (.pointer (some ⟨lq, 0, none⟩)))
  have HKQ : Hid (Kept (fun b => b = g) w4 (put26 w4 g 1 1 y v (.slice qa m qc) p (.pointer (some ⟨lq, 0, none⟩)))) := Lib.hid ((Kept.refl (fun b => b = g) w4).put26 (g := g) (.inl rfl) 1 1 y v (.slice qa m qc) p (.pointer (some ⟨lq, 0, none⟩)))
  obtain ⟨V, hV⟩ : ∃ V, V = put26 w4 g 1 1 y v (.slice qa m qc) p (.pointer (some ⟨lq, 0, none⟩)) := ⟨_, rfl⟩
  have HV : Hid (V = ((((((w4.setCell ⟨g, 4, none⟩ (.int .u64 1)).setCell ⟨g, 5, none⟩ (.int .i64 1)).setCell ⟨g, 6, none⟩ (.int .u32 y)).setCell ⟨g, 7, none⟩ (.int .u64 v)).setCell ⟨g, 8, none⟩ (.slice qa m qc)).setCell ⟨g, 9, none⟩ (.int .i64 p)).setCell ⟨g, 10, none⟩ (.pointer (some ⟨lq, 0, none⟩))) := Lib.hid hV
  rw [← hV] at HP HKP HKQ
  clear hV
  have HLV := Lib.hid (RLat.kept26 HL4.out HKQ.out (by have := HLQ.out; omega))
  have HO6 := Lib.hid ((HO4.out.mono (G := fun b => w.heap.size ≤ b) (fun b _ h => by have h : w2.heap.size ≤ b := h; have := HK2.out.size; omega)).kept HKQ.out (fun b h e => by have e : b = g := e; omega))
  have HRQ := Lib.hid (Req26_read V g B r z (csBeg x 1 1 y v (.slice qa m qc) p lq) l HP.out (HAT.out V (HKP.out.mono (fun _ _ h => by have h := h; omega))) l1 l2 rfl y0 y1 c1 c6 qa m qc rfl hp)
  go_wp2_with fail
  rw [← HV.out]
  refine HRQ.out.mono ?_
  rintro e w5 ⟨q, rfl, q1, q2, q3, q4, ⟨ua, un, uc, q5⟩, q6, hk5⟩
  have HGE := Lib.hid (HP.out.no hk5)
  have HLE := Lib.hid (HLV.out.no hk5)
  have HOE := Lib.hid (HO6.out.kept hk5 (fun _ _ h => h))
  have HKE := Lib.hid (HKP.out.trans hk5 (fun _ _ h => h.elim))
  obtain ⟨Q, hQ⟩ : ∃ Q, Q = q := ⟨_, rfl⟩
  have HQ1 : Hid (Q.fr = 200 + x.cl ∧ Q.to = readN (nthC l (plc25 y l)) p) := Lib.hid (by rw [hQ]; exact ⟨q1, q2⟩)
  obtain ⟨kd, fr, tq, ch, ep, ba, nu, se, dn, ve, sl, ke, co, ck, cc, ce, cn, gc, ge, gn, gf, gj, vo, up, dda⟩ := q
  simp only at q3 q4 q5 q6
  subst q3 q4 q5 q6
  have HQ := Lib.hid hQ
  clear hk5 q1 q2 hQ
  have eV : (Value.agg (lcs (⟨kd, fr, tq, ch, ep, ba, nu, se, dn, ve, sl, ke, co, ck, cc, ce, cn, gc, ge, .slice none 0 0, gf, gj, .slice none 0 0, .slice ua un uc, .slice none 0 0⟩ : LV))) = .agg #[.int .i64 kd, .int .i64 fr, .int .i64 tq, .int .i64 ch, .int .u64 ep, .int .u64 ba, .int .u64 nu, .int .u64 se, .int .u64 dn, .int .u64 ve, .int .i64 sl, .int .u32 ke, .int .i64 co, .int .i64 ck, .int .i64 cc, .int .u64 ce, .int .i64 cn, .int .i64 gc, .int .u64 ge, .slice none 0 0, .bool gf, .int .i64 gj, .slice none 0 0, .slice ua un uc, .slice none 0 0] := rfl
  rw [eV]
  clear eV
  have HBE := Lib.hid (heap_alloc_new w5 (.cells #[.int .i64 kd, .int .i64 fr, .int .i64 tq, .int .i64 ch, .int .u64 ep, .int .u64 ba, .int .u64 nu, .int .u64 se, .int .u64 dn, .int .u64 ve, .int .i64 sl, .int .u32 ke, .int .i64 co, .int .i64 ck, .int .i64 cc, .int .u64 ce, .int .i64 cn, .int .i64 gc, .int .u64 ge, .slice none 0 0, .bool gf, .int .i64 gj, .slice none 0 0, .slice ua un uc, .slice none 0 0] 48))
  have HKA := Lib.hid ((Kept.refl NoB w5).alloc (.cells #[.int .i64 kd, .int .i64 fr, .int .i64 tq, .int .i64 ch, .int .u64 ep, .int .u64 ba, .int .u64 nu, .int .u64 se, .int .u64 dn, .int .u64 ve, .int .i64 sl, .int .u32 ke, .int .i64 co, .int .i64 ck, .int .i64 cc, .int .u64 ce, .int .i64 cn, .int .i64 gc, .int .u64 ge, .slice none 0 0, .bool gf, .int .i64 gj, .slice none 0 0, .slice ua un uc, .slice none 0 0] 48))
  have HMM := Lib.hid (HM.out)
  go_wp2
  go_ret2
  exact ⟨w5.heap.size, Q, qa, qc, lq, rfl, (by rw [HQ.out]; exact HBE.out), HQ1.out.1, HQ1.out.2, HGE.out.no HKA.out, HLE.out.no HKA.out, (by rw [HMM.out] at HOE ⊢; exact HOE.out.kept HKA.out (fun _ _ h => h)), HLQ.out, HKE.out.alloc _⟩
end Go.Proofs.YtclfecninhipnaaGreatDoor
