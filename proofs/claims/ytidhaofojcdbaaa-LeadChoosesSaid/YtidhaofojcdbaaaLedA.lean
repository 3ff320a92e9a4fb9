/-
  Package lead: a leader in memory; what asks it, and enters a state.
-/
import Derived.Test.YtidhaofojcdbaaaAccD
import Derived.Test.YtidhaofojcdbaaaBalC
import Derived.Test.YtidhaofojcdbaaaBalF
import Derived.Test.YtidhaofojcdbaaaBalH
import Derived.Maps.RangeWalk
import Derived.Deep.Cut
import Derived.BigQuiet
import Derived.LoopTactic
namespace Go.Proofs.Ytidhaofojcdbaaa
open Go.RowKit
set_option linter.unusedVariables false

/-- A proposal as a value: b stands for the set of those that accepted it. -/
def ppv (v : Vt) : Value := .agg #[.int .i64 v.k, .int .i64 v.ch, .int .u64 v.ep, .int .i64 v.nd, .int .u64 v.b]
/-- No votes. -/
def nlv (v : Vt) : Value := .slice none 0 0
/-- Block g is a leader: P are those that promised (with no votes), Q its proposals by their slots. -/
structure LdAt (w : World) (g bp bq : Nat) (me ms st bal fr nx : Int) (P Q : List Vt) : Prop where
  cells : w.heap[g]? = some (.cells #[.int .i64 me, .int .i64 ms, .int .i64 st, .int .u64 bal, .int .i64 fr, .int .i64 nx, .map (some bp), .map (some bq)] 102 (0, 0))
  mp : MapV Try.prog 3 nlv w bp P
  mq : MapV Try.prog 3 ppv w bq Q
  ne : bp ≠ bq
/-- Its own blocks. -/
def LdB (g bp bq : Nat) : Nat → Prop := fun k => k = g ∨ k = bp ∨ k = bq
theorem LdAt.kept {S : Nat → Prop} {w w' : World} {g bp bq : Nat} {me ms st bal fr nx : Int} {P Q : List Vt} (h : LdAt w g bp bq me ms st bal fr nx P Q) (hk : Kept S w w') (hg : ¬ S g) (hp : ¬ S bp) (hq : ¬ S bq) : LdAt w' g bp bq me ms st bal fr nx P Q :=
  ⟨hk.heap hg h.cells, h.mp.kept hk hp, h.mq.kept hk hq, h.ne⟩
theorem LdAt.no {w w' : World} {g bp bq : Nat} {me ms st bal fr nx : Int} {P Q : List Vt} (h : LdAt w g bp bq me ms st bal fr nx P Q) (hk : Kept NoB w w') : LdAt w' g bp bq me ms st bal fr nx P Q := h.kept hk (fun h => h) (fun h => h) (fun h => h)
theorem LdAt.lt {w : World} {g bp bq : Nat} {me ms st bal fr nx : Int} {P Q : List Vt} (h : LdAt w g bp bq me ms st bal fr nx P Q) : g < w.heap.size ∧ bp < w.heap.size ∧ bq < w.heap.size ∧ bp ≠ g ∧ bq ≠ g ∧ bp ≠ bq :=
  ⟨heap_lt h.cells, h.mp.lt, h.mq.lt, h.mp.ne h.cells, h.mq.ne h.cells, h.ne⟩
structure LdC (w : World) (g bp bq : Nat) (me ms st bal fr nx : Int) : Prop where
  c0 : w.cell? ⟨g, 0, none⟩ = some (.int .i64 me)
  c1 : w.cell? ⟨g, 1, none⟩ = some (.int .i64 ms)
  c2 : w.cell? ⟨g, 2, none⟩ = some (.int .i64 st)
  c3 : w.cell? ⟨g, 3, none⟩ = some (.int .u64 bal)
  c4 : w.cell? ⟨g, 4, none⟩ = some (.int .i64 fr)
  c5 : w.cell? ⟨g, 5, none⟩ = some (.int .i64 nx)
  c6 : w.cell? ⟨g, 6, none⟩ = some (.map (some bp))
  c7 : w.cell? ⟨g, 7, none⟩ = some (.map (some bq))
theorem LdAt.c {w : World} {g bp bq : Nat} {me ms st bal fr nx : Int} {P Q : List Vt} (h : LdAt w g bp bq me ms st bal fr nx P Q) : LdC w g bp bq me ms st bal fr nx :=
  ⟨cell_of_row _ _ 0 _ _ _ h.cells, cell_of_row _ _ 1 _ _ _ h.cells, cell_of_row _ _ 2 _ _ _ h.cells, cell_of_row _ _ 3 _ _ _ h.cells, cell_of_row _ _ 4 _ _ _ h.cells, cell_of_row _ _ 5 _ _ _ h.cells, cell_of_row _ _ 6 _ _ _ h.cells, cell_of_row _ _ 7 _ _ _ h.cells⟩
theorem LdAt.f {w : World} {g bp bq : Nat} {me ms st bal fr nx : Int} {P Q : List Vt} (h : LdAt w g bp bq me ms st bal fr nx P Q) (o : Nat) : w.frozen? ⟨g, o, none⟩ = false := blkA_frozen h.cells o
theorem DState_any (w : World) (g bp bq : Nat) (me ms st bal fr nx : Int) (P Q : List Vt) (h : LdAt w g bp bq me ms st bal fr nx P Q) : Calls Try.prog 23 #[.pointer (some ⟨g, 0, none⟩)] w fun e w' => e = .returned (.int .i64 st) ∧ w = w' := by
  obtain ⟨c0, c1, c2, c3, c4, c5, c6, c7⟩ := h.c
  clear h
  go_enter Try.func23, Try.ntmps23
  go_wp2
  go_ret
  exact ⟨rfl, rfl⟩
theorem DNext_any (w : World) (g bp bq : Nat) (me ms st bal fr nx : Int) (P Q : List Vt) (h : LdAt w g bp bq me ms st bal fr nx P Q) : Calls Try.prog 20 #[.pointer (some ⟨g, 0, none⟩)] w fun e w' => e = .returned (.int .i64 nx) ∧ w = w' := by
  obtain ⟨c0, c1, c2, c3, c4, c5, c6, c7⟩ := h.c
  clear h
  go_enter Try.func20, Try.ntmps20
  go_wp2
  go_ret
  exact ⟨rfl, rfl⟩
theorem DState_nil (w : World) : Calls Try.prog 23 #[.pointer none] w fun e w' => e = .returned (.int .i64 0) ∧ w = w' := by
  go_enter Try.func23, Try.ntmps23
  go_wp2
  go_ret
  exact ⟨rfl, rfl⟩
theorem DNext_nil (w : World) : Calls Try.prog 20 #[.pointer none] w fun e w' => e = .returned (.int .i64 0) ∧ w = w' := by
  go_enter Try.func20, Try.ntmps20
  go_wp2
  go_ret
  exact ⟨rfl, rfl⟩
theorem DBallot_nil (w : World) : Calls Try.prog 24 #[.pointer none] w fun e w' => e = .returned (.int .u64 0) ∧ w = w' := by
  go_enter Try.func24, Try.ntmps24
  go_wp2
  go_ret
  exact ⟨rfl, rfl⟩
theorem DFrom_nil (w : World) : Calls Try.prog 25 #[.pointer none] w fun e w' => e = .returned (.int .i64 0) ∧ w = w' := by
  go_enter Try.func25, Try.ntmps25
  go_wp2
  go_ret
  exact ⟨rfl, rfl⟩
theorem DOpen_nil (w : World) : Calls Try.prog 22 #[.pointer none] w fun e w' => e = .returned (.slice none 0 0) ∧ w = w' := by
  go_enter Try.func22, Try.ntmps22
  go_wp2
  go_ret
  exact ⟨rfl, rfl⟩
theorem DRefuse_nil (w : World) (b : Int) : Calls Try.prog 17 #[.pointer none, .int .u64 b] w fun e w' => e = .returned (.bool false) ∧ w = w' := by
  go_enter Try.func17, Try.ntmps17
  go_wp2
  go_ret
  exact ⟨rfl, rfl⟩
theorem DStart_nil (w : World) (a f : Int) : Calls Try.prog 14 #[.pointer none, .int .u64 a, .int .i64 f] w fun e w' => e = .returned (.tuple #[.int .u64 0, .int .i64 2]) ∧ w = w' := by
  go_enter Try.func14, Try.ntmps14
  go_wp2
  go_ret2
  exact ⟨rfl, rfl⟩
theorem DPromise_nil (w : World) (b who : Int) (v : Value) : Calls Try.prog 19 #[.pointer none, .int .u64 b, .int .i64 who, v] w fun e w' => e = .returned (.tuple #[.slice none 0 0, .bool false]) ∧ w = w' := by
  go_enter Try.func19, Try.ntmps19
  go_wp2
  go_ret2
  exact ⟨rfl, rfl⟩
theorem cells6v {w : World} {b : Nat} {x0 x1 x2 x3 x4 x5 : Value} {t : TypeId} (h : w.heap[b]? = some (.cells #[x0, x1, x2, x3, x4, x5] t (0, 0))) : w.cell? ⟨b, 0, none⟩ = some x0 ∧ w.cell? ⟨b, 1, none⟩ = some x1 ∧ w.cell? ⟨b, 2, none⟩ = some x2 ∧ w.cell? ⟨b, 3, none⟩ = some x3 ∧ w.cell? ⟨b, 4, none⟩ = some x4 ∧ w.cell? ⟨b, 5, none⟩ = some x5 :=
  ⟨cell_of_row _ _ 0 _ _ _ h, cell_of_row _ _ 1 _ _ _ h, cell_of_row _ _ 2 _ _ _ h, cell_of_row _ _ 3 _ _ _ h, cell_of_row _ _ 4 _ _ _ h, cell_of_row _ _ 5 _ _ _ h⟩
/-- Six cells, stored one by one. -/
def six (w : World) (b : Nat) (x0 x1 x2 x3 x4 x5 : Value) : World := (((((w.setCell ⟨b, 0, none⟩ x0).setCell ⟨b, 1, none⟩ x1).setCell ⟨b, 2, none⟩ x2).setCell ⟨b, 3, none⟩ x3).setCell ⟨b, 4, none⟩ x4).setCell ⟨b, 5, none⟩ x5
theorem six_at {w : World} {b : Nat} {y0 y1 y2 y3 y4 y5 : Value} {t : TypeId} (h : w.heap[b]? = some (.cells #[y0, y1, y2, y3, y4, y5] t (0, 0))) (x0 x1 x2 x3 x4 x5 : Value) : (six w b x0 x1 x2 x3 x4 x5).heap[b]? = some (.cells #[x0, x1, x2, x3, x4, x5] t (0, 0)) :=
  blkA_set (blkA_set (blkA_set (blkA_set (blkA_set (blkA_set h 0 x0) 1 x1) 2 x2) 3 x3) 4 x4) 5 x5
theorem Kept.six {S : Nat → Prop} {a w : World} (h : Kept S a w) {b : Nat} (hb : S b ∨ a.heap.size ≤ b) (x0 x1 x2 x3 x4 x5 : Value) : Kept S a (Go.Proofs.Ytidhaofojcdbaaa.six w b x0 x1 x2 x3 x4 x5) :=
  (((((h.setCell (p := ⟨b, 0, none⟩) hb x0).setCell (p := ⟨b, 1, none⟩) hb x1).setCell (p := ⟨b, 2, none⟩) hb x2).setCell (p := ⟨b, 3, none⟩) hb x3).setCell (p := ⟨b, 4, none⟩) hb x4).setCell (p := ⟨b, 5, none⟩) hb x5
theorem frz6v {w : World} {b : Nat} {cs : Array Value} {t : TypeId} (h : w.heap[b]? = some (.cells cs t (0, 0))) : w.frozen? ⟨b, 0, none⟩ = false ∧ w.frozen? ⟨b, 1, none⟩ = false ∧ w.frozen? ⟨b, 2, none⟩ = false ∧ w.frozen? ⟨b, 3, none⟩ = false ∧ w.frozen? ⟨b, 4, none⟩ = false ∧ w.frozen? ⟨b, 5, none⟩ = false := by
  refine ⟨?_, ?_, ?_, ?_, ?_, ?_⟩ <;> simp [World.frozen?, h]
abbrev vtz : Value := .agg #[.int .i64 0, .int .u64 0, .int .i64 0, .int .i64 0, .int .u64 0, .int .i64 0]
theorem DAccepted_nil (w : World) (b s who : Int) : Calls Try.prog 21 #[.pointer none, .int .u64 b, .int .i64 s, .int .i64 who] w fun e w' => e = .returned (.tuple #[vtz, .bool false]) ∧ Kept NoB w w' := by
  have hr := heap_alloc_new w (.cells #[.int .i64 0, .int .u64 0, .int .i64 0, .int .i64 0, .int .u64 0, .int .i64 0] 48)
  have hk := (Kept.refl NoB w).alloc (.cells #[.int .i64 0, .int .u64 0, .int .i64 0, .int .i64 0, .int .u64 0, .int .i64 0] 48)
  obtain ⟨W, hW⟩ : ∃ W, W = w.alloc (.cells #[.int .i64 0, .int .u64 0, .int .i64 0, .int .i64 0, .int .u64 0, .int .i64 0] 48) := ⟨_, rfl⟩
  have HWW := Lib.hid hW
  rw [← hW] at hr hk
  have HR := Lib.hid hr
  have HK := Lib.hid hk
  clear hr hk hW
  go_enter Try.func21, Try.ntmps21
  go_upto_region 2 with fail
  rw [← HWW.out]
  obtain ⟨r0, r1, r2, r3, r4, r5⟩ := cells6v HR.out
  obtain ⟨f0, f1, f2, f3, f4, f5⟩ := frz6v HR.out
  go_wp2
  have hF := six_at HR.out (.int .i64 0) (.int .u64 0) (.int .i64 0) (.int .i64 0) (.int .u64 0) (.int .i64 0)
  have hK := HK.out.six (b := w.heap.size) (.inr (Nat.le_refl _)) (.int .i64 0) (.int .u64 0) (.int .i64 0) (.int .i64 0) (.int .u64 0) (.int .i64 0)
  clear r0 r1 r2 r3 r4 r5 f0 f1 f2 f3 f4 f5
  obtain ⟨r0, r1, r2, r3, r4, r5⟩ := cells6v hF
  clear hF
  unfold six at r0 r1 r2 r3 r4 r5 hK
  generalize hW : World.setCell _ _ _ = W2 at r0 r1 r2 r3 r4 r5 hK ⊢
  exact bodyPost_ret (v := .tuple #[.agg #[.int .i64 0, .int .u64 0, .int .i64 0, .int .i64 0, .int .u64 0, .int .i64 0], .bool false]) (by simp [results, Try.results21, go_sem, r0, r1, r2, r3, r4, r5]) rfl ⟨rfl, hK⟩
theorem DPropose_nil (w : World) (k ch ep nd : Int) : Calls Try.prog 16 #[.pointer none, .agg #[.int .i64 k, .int .i64 ch, .int .u64 ep, .int .i64 nd]] w fun e w' => e = .returned (.tuple #[vtz, .int .i64 2]) ∧ Kept NoB w w' := by
  have hr := heap_alloc_new (w.alloc (.cells #[.int .i64 k, .int .i64 ch, .int .u64 ep, .int .i64 nd] 39)) (.cells #[.int .i64 0, .int .u64 0, .int .i64 0, .int .i64 0, .int .u64 0, .int .i64 0] 48)
  have hz : (w.alloc (.cells #[.int .i64 k, .int .i64 ch, .int .u64 ep, .int .i64 nd] 39)).heap.size = w.heap.size + 1 := by simp
  rw [hz] at hr
  have hk := ((Kept.refl NoB w).alloc (.cells #[.int .i64 k, .int .i64 ch, .int .u64 ep, .int .i64 nd] 39)).alloc (.cells #[.int .i64 0, .int .u64 0, .int .i64 0, .int .i64 0, .int .u64 0, .int .i64 0] 48)
  obtain ⟨W, hW⟩ : ∃ W, W = (w.alloc (.cells #[.int .i64 k, .int .i64 ch, .int .u64 ep, .int .i64 nd] 39)).alloc (.cells #[.int .i64 0, .int .u64 0, .int .i64 0, .int .i64 0, .int .u64 0, .int .i64 0] 48) := ⟨_, rfl⟩
  have HWW := Lib.hid hW
  rw [← hW] at hr hk
  have HR := Lib.hid hr
  have HK := Lib.hid hk
  clear hr hk hW hz
  go_enter Try.func16, Try.ntmps16
  go_upto_region 2 with fail
  rw [← HWW.out]
  obtain ⟨r0, r1, r2, r3, r4, r5⟩ := cells6v HR.out
  obtain ⟨f0, f1, f2, f3, f4, f5⟩ := frz6v HR.out
  go_wp2
  have hF := six_at HR.out (.int .i64 0) (.int .u64 0) (.int .i64 0) (.int .i64 0) (.int .u64 0) (.int .i64 0)
  have hK := HK.out.six (b := w.heap.size + 1) (.inr (Nat.le_add_right _ _)) (.int .i64 0) (.int .u64 0) (.int .i64 0) (.int .i64 0) (.int .u64 0) (.int .i64 0)
  clear r0 r1 r2 r3 r4 r5 f0 f1 f2 f3 f4 f5
  obtain ⟨r0, r1, r2, r3, r4, r5⟩ := cells6v hF
  clear hF
  unfold six at r0 r1 r2 r3 r4 r5 hK
  generalize hW : World.setCell _ _ _ = W2 at r0 r1 r2 r3 r4 r5 hK ⊢
  exact bodyPost_ret (v := .tuple #[.agg #[.int .i64 0, .int .u64 0, .int .i64 0, .int .i64 0, .int .u64 0, .int .i64 0], .int .i64 2]) (by simp [results, Try.results16, go_sem, r0, r1, r2, r3, r4, r5]) rfl ⟨rfl, hK⟩
/-- become: a state with no promises, and no proposals. -/
theorem become_raw (w : World) (g : Nat) (me ms st bal fr nx st2 : Int) (x6 x7 : Value) (h : w.heap[g]? = some (.cells #[.int .i64 me, .int .i64 ms, .int .i64 st, .int .u64 bal, .int .i64 fr, .int .i64 nx, x6, x7] 102 (0, 0))) :
    Calls Try.prog 47 #[.pointer (some ⟨g, 0, none⟩), .int .i64 st2] w fun e w' => e = .returned (.tuple #[]) ∧ LdAt w' g w.heap.size (w.heap.size + 1) me ms st2 bal fr nx [] [] ∧ Kept (fun k => k = g) w w' := by
  have hmm := @run_makeMap Try.prog
  have f2 := blkA_frozen h 2
  have f6 := blkA_frozen h 6
  have f7 := blkA_frozen h 7
  have c2 := cell_of_row _ _ 2 _ _ _ h
  have c6 := cell_of_row _ _ 6 _ _ _ h
  have c7 := cell_of_row _ _ 7 _ _ _ h
  have HG : Hid (g < w.heap.size) := Lib.hid (heap_lt h)
  have H := Lib.hid h
  clear h
  go_enter Try.func47, Try.ntmps47
  go_upto_region 1 with fail
  have h1 := blkA_set H.out 2 (.int .i64 st2)
  have hk1 := (Kept.refl (fun k => k = g) w).setCell (p := ⟨g, 2, none⟩) (.inl rfl) (.int .i64 st2)
  have hz1 : (w.setCell ⟨g, 2, none⟩ (.int .i64 st2)).heap.size = w.heap.size := by simp
  obtain ⟨W1, hW1⟩ : ∃ x, x = w.setCell ⟨g, 2, none⟩ (.int .i64 st2) := ⟨_, rfl⟩
  rw [← hW1] at h1 hk1 hz1 ⊢
  have H1 := Lib.hid h1
  have HK1 := Lib.hid hk1
  have HZ1 := Lib.hid hz1
  clear hW1 f2 f6 f7 c2 c6 c7
  have f6 := blkA_frozen h1 6
  have c6 := cell_of_row _ _ 6 _ _ _ h1
  have HM1 := Lib.hid (MapV.made Try.prog 3 nlv W1)
  have h2 := blkA_alloc h1 (.map #[] 0)
  have f6' := blkA_frozen h2 6
  have c6' := cell_of_row _ _ 6 _ _ _ h2
  clear h1 hk1
  go_upto_region 2 with fail
  have h3 := blkA_set h2 6 (.map (some W1.heap.size))
  have hk3 := (HK1.out.alloc (.map #[] 0)).setCell (p := ⟨g, 6, none⟩) (.inl rfl) (.map (some W1.heap.size))
  have hks := (Kept.refl (fun k => k = g) (W1.alloc (.map #[] 0))).setCell (p := ⟨g, 6, none⟩) (.inl rfl) (.map (some W1.heap.size))
  have hm3 := HM1.out.kept hks (fun e => by have e : W1.heap.size = g := e; have := HG.out; omega)
  have hz3 : ((W1.alloc (.map #[] 0)).setCell ⟨g, 6, none⟩ (.map (some W1.heap.size))).heap.size = w.heap.size + 1 := by simp [hz1]
  rw [hz1] at h3 hk3 hm3 hz3
  try rw [hz1]
  obtain ⟨W3, hW3⟩ : ∃ x, x = (W1.alloc (.map #[] 0)).setCell ⟨g, 6, none⟩ (.map (some w.heap.size)) := ⟨_, rfl⟩
  rw [← hW3] at h3 hk3 hm3 hz3 ⊢
  have H3 := Lib.hid h3
  have HK3 := Lib.hid hk3
  have HM3 := Lib.hid hm3
  clear hW3 f6 f6' c6 c6' h2 hks hm3 HM1
  have HM5 := Lib.hid (MapV.made Try.prog 3 ppv W3)
  have h5 := blkA_alloc h3 (.map #[] 0)
  have f7 := blkA_frozen h3 7
  have c7 := cell_of_row _ _ 7 _ _ _ h3
  have f7' := blkA_frozen h5 7
  have c7' := cell_of_row _ _ 7 _ _ _ h5
  go_wp2
  have h6 := blkA_set h5 7 (.map (some W3.heap.size))
  have hk6 := (HK3.out.alloc (.map #[] 0)).setCell (p := ⟨g, 7, none⟩) (.inl rfl) (.map (some W3.heap.size))
  have hks := (Kept.refl (fun k => k = g) (W3.alloc (.map #[] 0))).setCell (p := ⟨g, 7, none⟩) (.inl rfl) (.map (some W3.heap.size))
  have hm6 := HM5.out.kept hks (fun e => by have e : W3.heap.size = g := e; have := HG.out; omega)
  have hm7 := (HM3.out.kept ((Kept.refl NoB W3).alloc (.map #[] 0)) (fun h => h)).kept hks (fun e => by have e : w.heap.size = g := e; have := HG.out; omega)
  rw [hz3] at h6 hk6 hm6 hm7
  try rw [hz3]
  go_end0
  exact ⟨rfl, ⟨h6, hm7, hm6, by omega⟩, hk6⟩
end Go.Proofs.Ytidhaofojcdbaaa
