/-
  Package latch: a latch's block; sync.Once's Do with the function literal that sets the value; Set, Get, Or; calls at no latch.
-/
import Derived.Test.YtfjgfeaeikjjhaaProg
import Derived.Test.YtfjgfeaeikjjhaaBase
import Derived.WalkKit
import Derived.WalkSpells
import Derived.WalkLawsBesides
import Derived.RegionTactic
import Derived.BigRegion
import Derived.Deep.QuietTactic
import Derived.BigQuiet
import Derived.Lib.Hide
import Derived.Outline
import Derived.KernelRfl
import Derived.Conc.MuLone
import Derived.Laws.LoneSync
import Derived.Laws.NewBlocks
import Derived.Defers
import Derived.RegionCalls
namespace Go.Proofs.Ytfjgfeaeikjjhaa
open Go.RowKit Go.MuLone
set_option linter.unusedVariables false

/-- Block g alone. -/
def One (g : Nat) : Nat → Prop := fun k => k = g
theorem Kept.one {g : Nat} {a w : World} (h : Kept (One g) a w) (o : Nat) (u : Value) : Kept (One g) a (w.setCell ⟨g, o, none⟩ u) := h.setCell (p := ⟨g, o, none⟩) (.inl (by show g = g; rfl)) u
theorem blk_frozen0 {w : World} {g : Nat} {cs : Array Value} {t : TypeId} (h : w.heap[g]? = some (.cells cs t (0, 0))) (o : Nat) : w.frozen? ⟨g, o, none⟩ = false := by simp [World.frozen?, h]
theorem blk_set {w : World} {g : Nat} {cs : Array Value} {t : TypeId} {fr : Nat × Nat} (h : w.heap[g]? = some (.cells cs t fr)) (i : Nat) (u : Value) :
    (w.setCell ⟨g, i, none⟩ u).heap[g]? = some (.cells (cs.setIfInBounds i u) t fr) := by simp [World.setCell, Array.getElem?_modify, h]
theorem blk_set_other {w : World} {g k : Nat} {o : Obj} (h : w.heap[g]? = some o) (i : Nat) (u : Value) (hk : k ≠ g) :
    (w.setCell ⟨k, i, none⟩ u).heap[g]? = some o := by simp [World.setCell, Array.getElem?_modify, h, hk]
theorem blk_alloc {w : World} {g : Nat} {o : Obj} (h : w.heap[g]? = some o) (x : Obj) : (w.alloc x).heap[g]? = some o := (heap_alloc_old w x (heap_lt h)).trans h

abbrev muLink : Go.Conc.Locks.MuLink := { lock := 30, unlock := 31, ilock := 32, iunlock := 33, lockSlow := 38, unlockSlow := 41, disable := 34, enable := 36, acquire := 37, relMerge := 39, cas32 := 35, add32 := 40, tMutex := 53, tIMutex := 51, tPMutex := 75, tPIMutex := 76, tPI32 := 78, tUP := 80, tNoCopy := 45, tU32 := 47 }
theorem muLib : Go.Conc.Locks.MuLib Try.prog muLink :=
  ⟨Try.func30, Try.func31, Try.func32, Try.func33, Try.func34, Try.func36, Try.func37, Try.func39, Try.func35, Try.func40, Try.underlying51, Try.runUnderlying51, Try.sizeOf51, Try.isAgg51, Try.zeroValue51, Try.underlying53, Try.runUnderlying53, Try.sizeOf53, Try.isAgg53, Try.zeroValue53, Try.underlying75, Try.runUnderlying75, Try.sizeOf75, Try.isAgg75, Try.zeroValue75, Try.underlying76, Try.runUnderlying76, Try.sizeOf76, Try.isAgg76, Try.zeroValue76, Try.underlying78, Try.runUnderlying78, Try.sizeOf78, Try.isAgg78, Try.zeroValue78, Try.underlying80, Try.runUnderlying80, Try.sizeOf80, Try.isAgg80, Try.zeroValue80, Try.underlying45, Try.runUnderlying45, Try.sizeOf45, Try.isAgg45, Try.zeroValue45, Try.underlying21, Try.runUnderlying21, Try.sizeOf21, Try.isAgg21, Try.zeroValue21, (by kernel_rfl)⟩

/-- Store of true. -/
theorem Store_any (a : Addr) (x : Value) (w : World) (hc : w.cell? a = some x) (hz : w.frozen? a = false) :
    Calls Try.prog 18 #[.pointer (some a), .bool true] w fun e w' => e = .returned (.tuple #[]) ∧ w' = w.drew.setCell a (.int .u32 1) := by
  have hc' : w.drew.cell? a = some x := by go_simp
  have hz' : w.drew.frozen? a = false := by go_simp
  have hst := run_call_store (P := Try.prog) Try.func25 (by kernel_rfl) (by kernel_rfl) (by kernel_rfl) (by kernel_rfl) (k := .u32) (y := 1) hc' hz'
  go_enter Try.func18, Try.ntmps18
  go_wp2
  go_region_calls
  all_goals (go_end0; exact ⟨rfl, rfl⟩)
/-- Store, entered as a deferred call. -/
theorem store_done (a : Addr) (x : Value) (u : FrameMode) (w : World) (hc : w.cell? a = some x) (hz : w.frozen? a = false) :
    CallsD Try.prog 18 #[.pointer (some a), .bool true] u w fun e u' w' => u' = u ∧ (e = .returned (.tuple #[]) ∧ w' = w.drew.setCell a (.int .u32 1)) := by
  have hc' : w.drew.cell? a = some x := by go_simp
  have hz' : w.drew.frozen? a = false := by go_simp
  have hst := run_call_store (P := Try.prog) Try.func25 (by kernel_rfl) (by kernel_rfl) (by kernel_rfl) (by kernel_rfl) (k := .u32) (y := 1) hc' hz'
  go_enter_d Try.func18, Try.ntmps18
  go_wp2
  go_region_calls
  all_goals (go_end0; exact ⟨rfl, rfl⟩)
/-- Load of an atomic bool. -/
theorem Load_any (a : Addr) (b : Bool) (w : World) (hc : w.cell? a = some (.int .u32 (if b then 1 else 0))) :
    Calls Try.prog 19 #[.pointer (some a)] w fun e w' => e = .returned (.bool b) ∧ w = w' := by
  have hl := run_call_load (P := Try.prog) Try.func27 (by kernel_rfl) (by kernel_rfl) (by kernel_rfl) .u32 (by kernel_rfl) hc
  cases b
  all_goals
    go_enter Try.func19, Try.ntmps19
    go_wp2
    go_ret
    exact ⟨rfl, rfl⟩

/-- Block g is a latch: whether it has a value, and which. -/
def LatAtU (w : World) (g : Nat) (b : Bool) (v : Int) : Prop :=
  w.heap[g]? = some (.cells #[.int .u32 (if b then 1 else 0), .int .i32 0, .int .u32 0, .int .u32 (if b then 1 else 0), .int .u64 v] 57 (0, 0))
theorem LatAtU.kept {S : Nat → Prop} {w w' : World} {g : Nat} {b : Bool} {v : Int} (h : LatAtU w g b v) (hk : Kept S w w') (hs : ¬ S g) : LatAtU w' g b v := hk.heap hs h
theorem LatAtU.alloc {w : World} {g : Nat} {b : Bool} {v : Int} (h : LatAtU w g b v) (o : Obj) : LatAtU (w.alloc o) g b v := blk_alloc h o
theorem NewU_any (w : World) : Calls Try.prog 5 #[] w fun e w' => e = .returned (.pointer (some ⟨w.heap.size, 0, none⟩)) ∧ LatAtU w' w.heap.size false 0 ∧ Kept NoB w w' ∧ w.heap.size < w'.heap.size := by
  go_enter Try.func5, Try.ntmps5
  go_wp2
  go_ret
  exact ⟨rfl, heap_alloc_new w _, (Kept.refl _ _).alloc _, by simp⟩
set_option maxRecDepth 100000 in
/-- What the function literal of Set does. -/
theorem litU_any (g a b c : Nat) (v y : Int) (d : Value) (w : World) (ha : w.cell? ⟨a, 0, none⟩ = some (.int .u64 v)) (hb : w.cell? ⟨b, 0, none⟩ = some (.pointer (some ⟨g, 0, none⟩))) (hc : w.cell? ⟨c, 0, none⟩ = some d)
    (hcz : w.frozen? ⟨c, 0, none⟩ = false) (hg : w.heap[g]? = some (.cells #[.int .u32 0, .int .i32 1, .int .u32 0, .int .u32 0, .int .u64 y] 57 (0, 0))) (hga : a ≠ g) (hgb : b ≠ g) (hgc : c ≠ g) :
    Calls Try.prog 17 #[.pointer (some ⟨a, 0, none⟩), .pointer (some ⟨b, 0, none⟩), .pointer (some ⟨c, 0, none⟩)] w fun e w' => e = .returned (.tuple #[]) ∧
      w' = (((w.setCell ⟨g, 4, none⟩ (.int .u64 v)).drew).setCell ⟨g, 3, none⟩ (.int .u32 1)).setCell ⟨c, 0, none⟩ (.bool true) := by
  have e4 : w.cell? ⟨g, 4, none⟩ = some (.int .u64 y) := cell_of_row w g 4 _ _ _ hg
  have e3 : w.cell? ⟨g, 3, none⟩ = some (.int .u32 0) := cell_of_row w g 3 _ _ _ hg
  have z4 : w.frozen? ⟨g, 4, none⟩ = false := blk_frozen0 hg 4
  have z3 : w.frozen? ⟨g, 3, none⟩ = false := blk_frozen0 hg 3
  have b1 : (w.setCell ⟨g, 4, none⟩ (.int .u64 v)).cell? ⟨b, 0, none⟩ = some (.pointer (some ⟨g, 0, none⟩)) := (World.cell?_setCell_other _ ⟨g, 4, none⟩ ⟨b, 0, none⟩ _ (by simp)).trans hb
  have c1 : (w.setCell ⟨g, 4, none⟩ (.int .u64 v)).cell? ⟨c, 0, none⟩ = some d := (World.cell?_setCell_other _ ⟨g, 4, none⟩ ⟨c, 0, none⟩ _ (by simp)).trans hc
  have HS := Lib.hid (Store_any ⟨g, 3, none⟩ (.int .u32 0) (w.setCell ⟨g, 4, none⟩ (.int .u64 v)) ((World.cell?_setCell_other _ ⟨g, 4, none⟩ ⟨g, 3, none⟩ _ (by simp)).trans e3) (by go_simp))
  have c2 : (((w.setCell ⟨g, 4, none⟩ (.int .u64 v)).drew).setCell ⟨g, 3, none⟩ (.int .u32 1)).cell? ⟨c, 0, none⟩ = some d := (World.cell?_setCell_other _ ⟨g, 3, none⟩ ⟨c, 0, none⟩ _ (by simp)).trans c1
  have z2 : (((w.setCell ⟨g, 4, none⟩ (.int .u64 v)).drew).setCell ⟨g, 3, none⟩ (.int .u32 1)).frozen? ⟨c, 0, none⟩ = false := by simp [hcz]
  clear c1 c2 z2
  go_enter Try.func17, Try.ntmps17
  go_wp2_with fail
  refine HS.out.mono ?_
  rintro e w1 ⟨rfl, rfl⟩
  go_wp2
  go_end0
  exact ⟨rfl, rfl⟩

set_option maxRecDepth 100000 in
set_option maxHeartbeats 1600000 in
/-- doSlow at the literal that sets the value (uint64): nothing has been done yet. -/
theorem slow_litU (x y z : Nat) (g : Nat) (w : World) (Q : World → Prop) (c0 : w.cell? ⟨g, 0, none⟩ = some (.int .u32 0)) (c1 : w.cell? ⟨g, 1, none⟩ = some (.int .i32 0)) (f0 : w.frozen? ⟨g, 0, none⟩ = false) (f1 : w.frozen? ⟨g, 1, none⟩ = false)
    (hf : Calls Try.prog 17 #[.pointer (some ⟨x, 0, none⟩), .pointer (some ⟨y, 0, none⟩), .pointer (some ⟨z, 0, none⟩)] (w.setCell ⟨g, 1, none⟩ (.int .i32 1)) fun e w' => e = .returned (.tuple #[]) ∧ w'.cell? ⟨g, 0, none⟩ = some (.int .u32 0) ∧ w'.cell? ⟨g, 1, none⟩ = some (.int .i32 1) ∧ w'.frozen? ⟨g, 0, none⟩ = false ∧ w'.frozen? ⟨g, 1, none⟩ = false ∧ Q w') :
    Calls Try.prog 24 #[.pointer (some ⟨g, 0, none⟩), .func (.func 17) #[] #[.pointer (some ⟨x, 0, none⟩), .pointer (some ⟨y, 0, none⟩), .pointer (some ⟨z, 0, none⟩)]] w fun e w' => e = .returned (.tuple #[]) ∧ ∃ w2, Q w2 ∧ w' = ((w2.drew).setCell ⟨g, 0, none⟩ (.int .u32 1)).setCell ⟨g, 1, none⟩ (.int .i32 0) := by
  have hl := run_call_load (P := Try.prog) Try.func27 (by kernel_rfl) (by kernel_rfl) (by kernel_rfl) .u32 (by kernel_rfl) (w := w.setCell ⟨g, 1, none⟩ (.int .i32 1)) (a := ⟨g, 0, none⟩) (x := 0) ((World.cell?_setCell_other _ ⟨g, 1, none⟩ ⟨g, 0, none⟩ _ (by simp)).trans c0)
  have hnot : ∀ (x : Bool) (w : World), (Op.unary .not (.bool x)).run Try.prog w = .ok (.bool (!x)) w := fun _ _ => rfl
  go_enter_defers Try.func24, Try.ntmps24
  go_wp2_with (go_at_call 30; refine (lock_free muLib ⟨g, 1, none⟩ _ (by go_simp) (by go_simp)).mono ?_; rintro e w' ⟨rfl, rfl⟩)
  go_in
  go_wp2_with fail
  refine hf.mono ?_
  rintro e w2 ⟨rfl, d0, d1, g0, g1, hq⟩
  go_wp2
  refine leaves_cons (f := 18) (args := #[.pointer (some ⟨g, 0, none⟩), .bool true]) (by simp) (by simp [go_sem]) ?_
  refine (store_done ⟨g, 0, none⟩ (.int .u32 0) .returning _ d0 g0).mono ?_
  rintro e u' w'' ⟨rfl, rfl, rfl⟩
  refine leaves_cons (f := 31) (args := #[.pointer (some ⟨g, 1, none⟩)]) (by simp [settle]) (by simp [go_sem]) ?_
  refine (unlock_deferred muLib ⟨g, 1, none⟩ _ _ ?_ (by simp [g1])).mono ?_
  · refine (World.cell?_setCell_other _ ⟨g, 0, none⟩ ⟨g, 1, none⟩ _ (by simp)).trans ?_
    rw [World.cell?_drew]
    exact d1
  rintro e u' w'' ⟨rfl, rfl, rfl⟩
  simp [Leaves, settle, results, Try.results24]
  exact ⟨w2, hq, rfl⟩
/-- Do at the literal that sets the value (uint64), nothing done yet. -/
theorem do_litU (x y z : Nat) (g : Nat) (w : World) (Q : World → Prop) (c0 : w.cell? ⟨g, 0, none⟩ = some (.int .u32 0)) (c1 : w.cell? ⟨g, 1, none⟩ = some (.int .i32 0)) (f0 : w.frozen? ⟨g, 0, none⟩ = false) (f1 : w.frozen? ⟨g, 1, none⟩ = false)
    (hf : Calls Try.prog 17 #[.pointer (some ⟨x, 0, none⟩), .pointer (some ⟨y, 0, none⟩), .pointer (some ⟨z, 0, none⟩)] (w.setCell ⟨g, 1, none⟩ (.int .i32 1)) fun e w' => e = .returned (.tuple #[]) ∧ w'.cell? ⟨g, 0, none⟩ = some (.int .u32 0) ∧ w'.cell? ⟨g, 1, none⟩ = some (.int .i32 1) ∧ w'.frozen? ⟨g, 0, none⟩ = false ∧ w'.frozen? ⟨g, 1, none⟩ = false ∧ Q w') :
    Calls Try.prog 16 #[.pointer (some ⟨g, 0, none⟩), .func (.func 17) #[] #[.pointer (some ⟨x, 0, none⟩), .pointer (some ⟨y, 0, none⟩), .pointer (some ⟨z, 0, none⟩)]] w fun e w' => e = .returned (.tuple #[]) ∧ ∃ w2, Q w2 ∧ w' = ((w2.drew).setCell ⟨g, 0, none⟩ (.int .u32 1)).setCell ⟨g, 1, none⟩ (.int .i32 0) := by
  have HS := Lib.hid (slow_litU x y z g w Q c0 c1 f0 f1 hf)
  have HL := Lib.hid (Load_any ⟨g, 0, none⟩ false w c0)
  clear hf c1 f0 f1 c0
  go_enter Try.func16, Try.ntmps16
  go_wp2_with fail
  refine HL.out.mono ?_
  rintro e w1 ⟨rfl, rfl⟩
  go_wp2_with fail
  refine HS.out.mono ?_
  rintro e w' ⟨rfl, w2, hq, rfl⟩
  have HQ := Lib.hid hq
  clear hq
  go_wp2
  go_end0
  exact ⟨rfl, w2, HQ.out, rfl⟩

/-- Block g is a latch: whether it has a value, and which. -/
def LatAtI (w : World) (g : Nat) (b : Bool) (v : Int) : Prop :=
  w.heap[g]? = some (.cells #[.int .u32 (if b then 1 else 0), .int .i32 0, .int .u32 0, .int .u32 (if b then 1 else 0), .int .i64 v] 74 (0, 0))
theorem LatAtI.kept {S : Nat → Prop} {w w' : World} {g : Nat} {b : Bool} {v : Int} (h : LatAtI w g b v) (hk : Kept S w w') (hs : ¬ S g) : LatAtI w' g b v := hk.heap hs h
theorem LatAtI.alloc {w : World} {g : Nat} {b : Bool} {v : Int} (h : LatAtI w g b v) (o : Obj) : LatAtI (w.alloc o) g b v := blk_alloc h o
theorem NewI_any (w : World) : Calls Try.prog 20 #[] w fun e w' => e = .returned (.pointer (some ⟨w.heap.size, 0, none⟩)) ∧ LatAtI w' w.heap.size false 0 ∧ Kept NoB w w' ∧ w.heap.size < w'.heap.size := by
  go_enter Try.func20, Try.ntmps20
  go_wp2
  go_ret
  exact ⟨rfl, heap_alloc_new w _, (Kept.refl _ _).alloc _, by simp⟩
set_option maxRecDepth 100000 in
/-- What the function literal of Set does. -/
theorem litI_any (g a b c : Nat) (v y : Int) (d : Value) (w : World) (ha : w.cell? ⟨a, 0, none⟩ = some (.int .i64 v)) (hb : w.cell? ⟨b, 0, none⟩ = some (.pointer (some ⟨g, 0, none⟩))) (hc : w.cell? ⟨c, 0, none⟩ = some d)
    (hcz : w.frozen? ⟨c, 0, none⟩ = false) (hg : w.heap[g]? = some (.cells #[.int .u32 0, .int .i32 1, .int .u32 0, .int .u32 0, .int .i64 y] 74 (0, 0))) (hga : a ≠ g) (hgb : b ≠ g) (hgc : c ≠ g) :
    Calls Try.prog 28 #[.pointer (some ⟨a, 0, none⟩), .pointer (some ⟨b, 0, none⟩), .pointer (some ⟨c, 0, none⟩)] w fun e w' => e = .returned (.tuple #[]) ∧
      w' = (((w.setCell ⟨g, 4, none⟩ (.int .i64 v)).drew).setCell ⟨g, 3, none⟩ (.int .u32 1)).setCell ⟨c, 0, none⟩ (.bool true) := by
  have e4 : w.cell? ⟨g, 4, none⟩ = some (.int .i64 y) := cell_of_row w g 4 _ _ _ hg
  have e3 : w.cell? ⟨g, 3, none⟩ = some (.int .u32 0) := cell_of_row w g 3 _ _ _ hg
  have z4 : w.frozen? ⟨g, 4, none⟩ = false := blk_frozen0 hg 4
  have z3 : w.frozen? ⟨g, 3, none⟩ = false := blk_frozen0 hg 3
  have b1 : (w.setCell ⟨g, 4, none⟩ (.int .i64 v)).cell? ⟨b, 0, none⟩ = some (.pointer (some ⟨g, 0, none⟩)) := (World.cell?_setCell_other _ ⟨g, 4, none⟩ ⟨b, 0, none⟩ _ (by simp)).trans hb
  have c1 : (w.setCell ⟨g, 4, none⟩ (.int .i64 v)).cell? ⟨c, 0, none⟩ = some d := (World.cell?_setCell_other _ ⟨g, 4, none⟩ ⟨c, 0, none⟩ _ (by simp)).trans hc
  have HS := Lib.hid (Store_any ⟨g, 3, none⟩ (.int .u32 0) (w.setCell ⟨g, 4, none⟩ (.int .i64 v)) ((World.cell?_setCell_other _ ⟨g, 4, none⟩ ⟨g, 3, none⟩ _ (by simp)).trans e3) (by go_simp))
  have c2 : (((w.setCell ⟨g, 4, none⟩ (.int .i64 v)).drew).setCell ⟨g, 3, none⟩ (.int .u32 1)).cell? ⟨c, 0, none⟩ = some d := (World.cell?_setCell_other _ ⟨g, 3, none⟩ ⟨c, 0, none⟩ _ (by simp)).trans c1
  have z2 : (((w.setCell ⟨g, 4, none⟩ (.int .i64 v)).drew).setCell ⟨g, 3, none⟩ (.int .u32 1)).frozen? ⟨c, 0, none⟩ = false := by simp [hcz]
  clear c1 c2 z2
  go_enter Try.func28, Try.ntmps28
  go_wp2_with fail
  refine HS.out.mono ?_
  rintro e w1 ⟨rfl, rfl⟩
  go_wp2
  go_end0
  exact ⟨rfl, rfl⟩

set_option maxRecDepth 100000 in
set_option maxHeartbeats 1600000 in
/-- doSlow at the literal that sets the value (int): nothing has been done yet. -/
theorem slow_litI (x y z : Nat) (g : Nat) (w : World) (Q : World → Prop) (c0 : w.cell? ⟨g, 0, none⟩ = some (.int .u32 0)) (c1 : w.cell? ⟨g, 1, none⟩ = some (.int .i32 0)) (f0 : w.frozen? ⟨g, 0, none⟩ = false) (f1 : w.frozen? ⟨g, 1, none⟩ = false)
    (hf : Calls Try.prog 28 #[.pointer (some ⟨x, 0, none⟩), .pointer (some ⟨y, 0, none⟩), .pointer (some ⟨z, 0, none⟩)] (w.setCell ⟨g, 1, none⟩ (.int .i32 1)) fun e w' => e = .returned (.tuple #[]) ∧ w'.cell? ⟨g, 0, none⟩ = some (.int .u32 0) ∧ w'.cell? ⟨g, 1, none⟩ = some (.int .i32 1) ∧ w'.frozen? ⟨g, 0, none⟩ = false ∧ w'.frozen? ⟨g, 1, none⟩ = false ∧ Q w') :
    Calls Try.prog 24 #[.pointer (some ⟨g, 0, none⟩), .func (.func 28) #[] #[.pointer (some ⟨x, 0, none⟩), .pointer (some ⟨y, 0, none⟩), .pointer (some ⟨z, 0, none⟩)]] w fun e w' => e = .returned (.tuple #[]) ∧ ∃ w2, Q w2 ∧ w' = ((w2.drew).setCell ⟨g, 0, none⟩ (.int .u32 1)).setCell ⟨g, 1, none⟩ (.int .i32 0) := by
  have hl := run_call_load (P := Try.prog) Try.func27 (by kernel_rfl) (by kernel_rfl) (by kernel_rfl) .u32 (by kernel_rfl) (w := w.setCell ⟨g, 1, none⟩ (.int .i32 1)) (a := ⟨g, 0, none⟩) (x := 0) ((World.cell?_setCell_other _ ⟨g, 1, none⟩ ⟨g, 0, none⟩ _ (by simp)).trans c0)
  have hnot : ∀ (x : Bool) (w : World), (Op.unary .not (.bool x)).run Try.prog w = .ok (.bool (!x)) w := fun _ _ => rfl
  go_enter_defers Try.func24, Try.ntmps24
  go_wp2_with (go_at_call 30; refine (lock_free muLib ⟨g, 1, none⟩ _ (by go_simp) (by go_simp)).mono ?_; rintro e w' ⟨rfl, rfl⟩)
  go_in
  go_wp2_with fail
  refine hf.mono ?_
  rintro e w2 ⟨rfl, d0, d1, g0, g1, hq⟩
  go_wp2
  refine leaves_cons (f := 18) (args := #[.pointer (some ⟨g, 0, none⟩), .bool true]) (by simp) (by simp [go_sem]) ?_
  refine (store_done ⟨g, 0, none⟩ (.int .u32 0) .returning _ d0 g0).mono ?_
  rintro e u' w'' ⟨rfl, rfl, rfl⟩
  refine leaves_cons (f := 31) (args := #[.pointer (some ⟨g, 1, none⟩)]) (by simp [settle]) (by simp [go_sem]) ?_
  refine (unlock_deferred muLib ⟨g, 1, none⟩ _ _ ?_ (by simp [g1])).mono ?_
  · refine (World.cell?_setCell_other _ ⟨g, 0, none⟩ ⟨g, 1, none⟩ _ (by simp)).trans ?_
    rw [World.cell?_drew]
    exact d1
  rintro e u' w'' ⟨rfl, rfl, rfl⟩
  simp [Leaves, settle, results, Try.results24]
  exact ⟨w2, hq, rfl⟩
/-- Do at the literal that sets the value (int), nothing done yet. -/
theorem do_litI (x y z : Nat) (g : Nat) (w : World) (Q : World → Prop) (c0 : w.cell? ⟨g, 0, none⟩ = some (.int .u32 0)) (c1 : w.cell? ⟨g, 1, none⟩ = some (.int .i32 0)) (f0 : w.frozen? ⟨g, 0, none⟩ = false) (f1 : w.frozen? ⟨g, 1, none⟩ = false)
    (hf : Calls Try.prog 28 #[.pointer (some ⟨x, 0, none⟩), .pointer (some ⟨y, 0, none⟩), .pointer (some ⟨z, 0, none⟩)] (w.setCell ⟨g, 1, none⟩ (.int .i32 1)) fun e w' => e = .returned (.tuple #[]) ∧ w'.cell? ⟨g, 0, none⟩ = some (.int .u32 0) ∧ w'.cell? ⟨g, 1, none⟩ = some (.int .i32 1) ∧ w'.frozen? ⟨g, 0, none⟩ = false ∧ w'.frozen? ⟨g, 1, none⟩ = false ∧ Q w') :
    Calls Try.prog 16 #[.pointer (some ⟨g, 0, none⟩), .func (.func 28) #[] #[.pointer (some ⟨x, 0, none⟩), .pointer (some ⟨y, 0, none⟩), .pointer (some ⟨z, 0, none⟩)]] w fun e w' => e = .returned (.tuple #[]) ∧ ∃ w2, Q w2 ∧ w' = ((w2.drew).setCell ⟨g, 0, none⟩ (.int .u32 1)).setCell ⟨g, 1, none⟩ (.int .i32 0) := by
  have HS := Lib.hid (slow_litI x y z g w Q c0 c1 f0 f1 hf)
  have HL := Lib.hid (Load_any ⟨g, 0, none⟩ false w c0)
  clear hf c1 f0 f1 c0
  go_enter Try.func16, Try.ntmps16
  go_wp2_with fail
  refine HL.out.mono ?_
  rintro e w1 ⟨rfl, rfl⟩
  go_wp2_with fail
  refine HS.out.mono ?_
  rintro e w' ⟨rfl, w2, hq, rfl⟩
  have HQ := Lib.hid hq
  clear hq
  go_wp2
  go_end0
  exact ⟨rfl, w2, HQ.out, rfl⟩

/-- Do, done already. -/
theorem do_done (g : Nat) (fv : Value) (w : World) (c0 : w.cell? ⟨g, 0, none⟩ = some (.int .u32 1)) :
    Calls Try.prog 16 #[.pointer (some ⟨g, 0, none⟩), fv] w fun e w' => e = .returned (.tuple #[]) ∧ w = w' := by
  have HL := Lib.hid (Load_any ⟨g, 0, none⟩ true w c0)
  clear c0
  go_enter Try.func16, Try.ntmps16
  go_wp2_with fail
  refine HL.out.mono ?_
  rintro e w1 ⟨rfl, rfl⟩
  go_wp2
  go_end0
  exact ⟨rfl, rfl⟩
end Go.Proofs.Ytfjgfeaeikjjhaa
