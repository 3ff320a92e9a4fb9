/-
  Package latch: lazy values: a function computes them once.
-/
import Derived.Test.YtfjgfeaeikjjhaaLatB
import Derived.Recover
import Derived.Laws.EntriesVeiled
import Derived.LoopTactic
import Derived.Deep.RegionHeld3
import Derived.Deep.DeepMust
namespace Go.Proofs.Ytfjgfeaeikjjhaa
open Go.RowKit Go.MuLone
set_option linter.unusedVariables false

/-- Block g is a lazy value: whether it is done, whether its function was called, the function, the value. -/
def LazAt (w : World) (g : Nat) (d b : Bool) (how : Value) (v : Int) : Prop :=
  w.heap[g]? = some (.cells #[.int .u32 (if d then 1 else 0), .int .i32 0, .int .u32 0, .int .u32 (if b then 1 else 0), how, .int .u64 v] 66 (0, 0))
theorem LazAt.kept {S : Nat → Prop} {w w' : World} {g : Nat} {d b : Bool} {how : Value} {v : Int} (h : LazAt w g d b how v) (hk : Kept S w w') (hs : ¬ S g) : LazAt w' g d b how v := hk.heap hs h
theorem LazAt.alloc {w : World} {g : Nat} {d b : Bool} {how : Value} {v : Int} (h : LazAt w g d b how v) (o : Obj) : LazAt (w.alloc o) g d b how v := blk_alloc h o
/-- The function literal of the statement, which captured cell c. -/
abbrev FnL (c : Nat) : Value := .func (.func 13) #[] #[.pointer (some ⟨c, 0, none⟩)]
theorem OfF_any (c : Nat) (w : World) : Calls Try.prog 12 #[FnL c] w fun e w' => e = .returned (.pointer (some ⟨w.heap.size, 0, none⟩)) ∧ LazAt w' w.heap.size false false (FnL c) 0 ∧ Kept NoB w w' ∧ w.heap.size < w'.heap.size := by
  go_enter Try.func12, Try.ntmps12
  go_wp2
  go_ret
  exact ⟨rfl, heap_alloc_new w _, (Kept.refl _ _).alloc _, by simp⟩
theorem OfN_any (w : World) : Calls Try.prog 12 #[.nilFunc] w fun e w' => e = .returned (.pointer (some ⟨w.heap.size, 0, none⟩)) ∧ LazAt w' w.heap.size false false .nilFunc 0 ∧ Kept NoB w w' ∧ w.heap.size < w'.heap.size := by
  go_enter Try.func12, Try.ntmps12
  go_wp2
  go_ret
  exact ⟨rfl, heap_alloc_new w _, (Kept.refl _ _).alloc _, by simp⟩
theorem Runs_any (g : Nat) (d b : Bool) (how : Value) (v : Int) (w : World) (h : LazAt w g d b how v) :
    Calls Try.prog 14 #[.pointer (some ⟨g, 0, none⟩)] w fun e w' => e = .returned (.int .i64 (if b then 1 else 0)) ∧ w = w' := by
  have c3 : w.cell? ⟨g, 3, none⟩ = some (.int .u32 (if b then 1 else 0)) := cell_of_row w g 3 _ _ _ h
  have HL := Lib.hid (Load_any ⟨g, 3, none⟩ b w c3)
  clear c3 h
  cases b
  all_goals
    go_enter Try.func14, Try.ntmps14
    go_wp2_with fail
    refine HL.out.mono ?_
    rintro e w' ⟨rfl, rfl⟩
    go_wp2
    go_ret
    exact ⟨rfl, rfl⟩
/-- The literal's own walk. -/
theorem FnL_any (c : Nat) (v : Int) (w : World) (h : w.cell? ⟨c, 0, none⟩ = some (.int .u64 v)) :
    Calls Try.prog 13 #[.pointer (some ⟨c, 0, none⟩)] w fun e w' => e = .returned (.int .u64 v) ∧ w = w' := by
  go_enter Try.func13, Try.ntmps13
  go_wp2
  go_ret
  exact ⟨rfl, rfl⟩
/-- What compute defers, where nothing panics. -/
theorem caught_idle (w : World) :
    CallsD Try.prog 29 #[] .returning w fun e u' w' => e = .returned (.tuple #[]) ∧ u' = .returning ∧ w' = w := by
  refine callsD_of_wpS Try.func29 rfl fun c₀ cs hu => ?_
  apply wpS_region
  simp [wpOpsS, go_sem, recoverD, hu, Try.ntmps29, bodyPostS, results, Try.results29]
  cases c₀
  simp_all
set_option maxRecDepth 100000 in
theorem comp_nil (g : Nat) (w : World) (h : w.cell? ⟨g, 4, none⟩ = some .nilFunc) :
    Calls Try.prog 23 #[.pointer (some ⟨g, 0, none⟩)] w fun e w' => e = .returned (.tuple #[]) ∧ w' = w := by
  go_enter_defers Try.func23, Try.ntmps23
  have hne : ∀ w : World, (binOp BinOp.eql 41 .nilFunc .nilFunc).run Try.prog w = .ok (.bool true) w := fun _ => rfl
  go_wp2
  simp [Leaves, bodyPostD, results, Try.results23]
set_option maxRecDepth 100000 in
theorem comp_fn (g c : Nat) (v x : Int) (w : World) (hg : w.heap[g]? = some (.cells #[.int .u32 0, .int .i32 1, .int .u32 0, .int .u32 0, FnL c, .int .u64 x] 66 (0, 0))) (hc : w.cell? ⟨c, 0, none⟩ = some (.int .u64 v)) (hcg : c ≠ g) :
    Calls Try.prog 23 #[.pointer (some ⟨g, 0, none⟩)] w fun e w' => e = .returned (.tuple #[]) ∧ w' = (((w.setCell ⟨g, 4, none⟩ .nilFunc).drew).setCell ⟨g, 3, none⟩ (.int .u32 1)).setCell ⟨g, 5, none⟩ (.int .u64 v) := by
  have e4 : w.cell? ⟨g, 4, none⟩ = some (FnL c) := cell_of_row w g 4 _ _ _ hg
  have e3 : w.cell? ⟨g, 3, none⟩ = some (.int .u32 0) := cell_of_row w g 3 _ _ _ hg
  have e5 : w.cell? ⟨g, 5, none⟩ = some (.int .u64 x) := cell_of_row w g 5 _ _ _ hg
  have z4 : w.frozen? ⟨g, 4, none⟩ = false := blk_frozen0 hg 4
  have z3 : w.frozen? ⟨g, 3, none⟩ = false := blk_frozen0 hg 3
  have z5 : w.frozen? ⟨g, 5, none⟩ = false := blk_frozen0 hg 5
  have c1 : (((w.setCell ⟨g, 4, none⟩ .nilFunc).drew).setCell ⟨g, 3, none⟩ (.int .u32 1)).cell? ⟨c, 0, none⟩ = some (.int .u64 v) := (World.cell?_setCell_other _ ⟨g, 3, none⟩ ⟨c, 0, none⟩ _ (by simp)).trans ((World.cell?_setCell_other w ⟨g, 4, none⟩ ⟨c, 0, none⟩ _ (by simp)).trans hc)
  have HF := Lib.hid (FnL_any c v _ c1)
  have HS := Lib.hid (Store_any ⟨g, 3, none⟩ (.int .u32 0) (w.setCell ⟨g, 4, none⟩ .nilFunc) ((World.cell?_setCell_other _ ⟨g, 4, none⟩ ⟨g, 3, none⟩ _ (by simp)).trans e3) (by go_simp))
  have hne : ∀ w : World, (binOp BinOp.eql 41 (FnL c) .nilFunc).run Try.prog w = .ok (.bool false) w := fun _ => rfl
  clear hg c1
  go_enter_defers Try.func23, Try.ntmps23
  go_wp2_with fail
  refine HS.out.mono ?_
  rintro e w1 ⟨rfl, rfl⟩
  go_wp2_with fail
  refine HF.out.mono ?_
  rintro e w1 ⟨rfl, rfl⟩
  go_wp2
  refine leaves_cons (f := 29) (args := #[]) (by simp) (by simp [go_sem]) ?_
  refine (caught_idle _).mono ?_
  rintro e u' w'' ⟨rfl, rfl, rfl⟩
  simp [Leaves, settle, results, Try.results23]
  rfl

set_option maxRecDepth 100000 in
set_option maxHeartbeats 1600000 in
/-- doSlow at a lazy value's compute: nothing has been done yet. -/
theorem slow_comp  (g : Nat) (w : World) (Q : World → Prop) (c0 : w.cell? ⟨g, 0, none⟩ = some (.int .u32 0)) (c1 : w.cell? ⟨g, 1, none⟩ = some (.int .i32 0)) (f0 : w.frozen? ⟨g, 0, none⟩ = false) (f1 : w.frozen? ⟨g, 1, none⟩ = false)
    (hf : Calls Try.prog 23 #[.pointer (some ⟨g, 0, none⟩)] (w.setCell ⟨g, 1, none⟩ (.int .i32 1)) fun e w' => e = .returned (.tuple #[]) ∧ w'.cell? ⟨g, 0, none⟩ = some (.int .u32 0) ∧ w'.cell? ⟨g, 1, none⟩ = some (.int .i32 1) ∧ w'.frozen? ⟨g, 0, none⟩ = false ∧ w'.frozen? ⟨g, 1, none⟩ = false ∧ Q w') :
    Calls Try.prog 24 #[.pointer (some ⟨g, 0, none⟩), .func (.func 23) #[.pointer (some ⟨g, 0, none⟩)] #[]] w fun e w' => e = .returned (.tuple #[]) ∧ ∃ w2, Q w2 ∧ w' = ((w2.drew).setCell ⟨g, 0, none⟩ (.int .u32 1)).setCell ⟨g, 1, none⟩ (.int .i32 0) := by
  have hl := run_call_load (P := Try.prog) Try.func27 (by kernel_rfl) (by kernel_rfl) (by kernel_rfl) .u32 (by kernel_rfl) (w := w.setCell ⟨g, 1, none⟩ (.int .i32 1)) (a := ⟨g, 0, none⟩) (x := 0) ((World.cell?_setCell_other _ ⟨g, 1, none⟩ ⟨g, 0, none⟩ _ (by simp)).trans c0)
  have hnot : ∀ (x : Bool) (w : World), (Op.unary .not (.bool x)).run Try.prog w = .ok (.bool (!x)) w := fun _ _ => rfl
  go_enter_defers Try.func24, Try.ntmps24
  go_wp2_with (go_at_call 30; refine (lock_free muLib ⟨g, 1, none⟩ _ (by go_simp) (by go_simp)).mono ?_; rintro e w' ⟨rfl, rfl⟩)
  go_in
  go_wp2_with fail
  refine hf.mono ?_
  rintro e w2 ⟨rfl, d0, d1, g0, g1, hq⟩
  go_wp2
  refine leaves_cons (f := 18) (args := #[.pointer (some ⟨g, 0, none⟩), .bool true]) (by simp) (by simp [go_sem]) ?_
  refine (store_done ⟨g, 0, none⟩ (.int .u32 0) .returning _ d0 g0).mono ?_
  rintro e u' w'' ⟨rfl, rfl, rfl⟩
  refine leaves_cons (f := 31) (args := #[.pointer (some ⟨g, 1, none⟩)]) (by simp [settle]) (by simp [go_sem]) ?_
  refine (unlock_deferred muLib ⟨g, 1, none⟩ _ _ ?_ (by simp [g1])).mono ?_
  · refine (World.cell?_setCell_other _ ⟨g, 0, none⟩ ⟨g, 1, none⟩ _ (by simp)).trans ?_
    rw [World.cell?_drew]
    exact d1
  rintro e u' w'' ⟨rfl, rfl, rfl⟩
  simp [Leaves, settle, results, Try.results24]
  exact ⟨w2, hq, rfl⟩
/-- Do at a lazy value's compute, nothing done yet. -/
theorem do_comp  (g : Nat) (w : World) (Q : World → Prop) (c0 : w.cell? ⟨g, 0, none⟩ = some (.int .u32 0)) (c1 : w.cell? ⟨g, 1, none⟩ = some (.int .i32 0)) (f0 : w.frozen? ⟨g, 0, none⟩ = false) (f1 : w.frozen? ⟨g, 1, none⟩ = false)
    (hf : Calls Try.prog 23 #[.pointer (some ⟨g, 0, none⟩)] (w.setCell ⟨g, 1, none⟩ (.int .i32 1)) fun e w' => e = .returned (.tuple #[]) ∧ w'.cell? ⟨g, 0, none⟩ = some (.int .u32 0) ∧ w'.cell? ⟨g, 1, none⟩ = some (.int .i32 1) ∧ w'.frozen? ⟨g, 0, none⟩ = false ∧ w'.frozen? ⟨g, 1, none⟩ = false ∧ Q w') :
    Calls Try.prog 16 #[.pointer (some ⟨g, 0, none⟩), .func (.func 23) #[.pointer (some ⟨g, 0, none⟩)] #[]] w fun e w' => e = .returned (.tuple #[]) ∧ ∃ w2, Q w2 ∧ w' = ((w2.drew).setCell ⟨g, 0, none⟩ (.int .u32 1)).setCell ⟨g, 1, none⟩ (.int .i32 0) := by
  have HS := Lib.hid (slow_comp g w Q c0 c1 f0 f1 hf)
  have HL := Lib.hid (Load_any ⟨g, 0, none⟩ false w c0)
  clear hf c1 f0 f1 c0
  go_enter Try.func16, Try.ntmps16
  go_wp2_with fail
  refine HL.out.mono ?_
  rintro e w1 ⟨rfl, rfl⟩
  go_wp2_with fail
  refine HS.out.mono ?_
  rintro e w' ⟨rfl, w2, hq, rfl⟩
  have HQ := Lib.hid hq
  clear hq
  go_wp2
  go_end0
  exact ⟨rfl, w2, HQ.out, rfl⟩

set_option maxRecDepth 100000 in
/-- Get of a value that is done. -/
theorem GetL_done (g : Nat) (b : Bool) (how : Value) (v : Int) (w : World) (h : LazAt w g true b how v) :
    Calls Try.prog 15 #[.pointer (some ⟨g, 0, none⟩)] w fun e w' => e = .returned (.int .u64 v) ∧ w = w' := by
  have c5 : w.cell? ⟨g, 5, none⟩ = some (.int .u64 v) := cell_of_row w g 5 _ _ _ h
  have HD := Lib.hid (cell_of_row w g 0 _ _ _ h)
  have hmf : ∀ (fn : Fn) (first cap : Array Value) (w : World), (Instr.makeFunc fn first cap).run Try.prog w = .ok (.func fn first cap) w := fun _ _ _ _ => rfl
  clear h
  go_enter Try.func15, Try.ntmps15
  go_wp2_with fail
  refine (do_done g _ _ HD.out).mono ?_
  rintro e w' ⟨rfl, rfl⟩
  go_wp2
  go_ret
  exact ⟨rfl, rfl⟩
set_option maxRecDepth 100000 in
/-- Get of a value without a function, for the first time. -/
theorem GetL_nil (g : Nat) (w : World) (h : LazAt w g false false .nilFunc 0) :
    Calls Try.prog 15 #[.pointer (some ⟨g, 0, none⟩)] w fun e w' => e = .returned (.int .u64 0) ∧ LazAt w' g true false .nilFunc 0 ∧ Kept (One g) w w' := by
  have hmf : ∀ (fn : Fn) (first cap : Array Value) (w : World), (Instr.makeFunc fn first cap).run Try.prog w = .ok (.func fn first cap) w := fun _ _ _ _ => rfl
  have hl := blk_set h 1 (.int .i32 1)
  have HD := Lib.hid (do_comp g w (fun w2 => w2 = w.setCell ⟨g, 1, none⟩ (.int .i32 1)) (cell_of_row w g 0 _ _ _ h) (cell_of_row w g 1 _ _ _ h) (blk_frozen0 h 0) (blk_frozen0 h 1)
    ((comp_nil g _ (cell_of_row _ g 4 _ _ _ hl)).mono (by rintro e w' ⟨rfl, rfl⟩; exact ⟨rfl, cell_of_row _ _ 0 _ _ _ hl, cell_of_row _ _ 1 _ _ _ hl, blk_frozen0 hl 0, blk_frozen0 hl 1, rfl⟩)))
  have HL := Lib.hid (blk_set (blk_set (w := (w.setCell ⟨g, 1, none⟩ (.int .i32 1)).drew) hl 0 (.int .u32 1)) 1 (.int .i32 0))
  have HK := Lib.hid ((((Kept.refl (One g) w).one 1 (.int .i32 1)).drew.one 0 (.int .u32 1)).one 1 (.int .i32 0))
  have c5 := cell_of_row _ g 5 _ _ _ HL.out
  clear h hl
  go_enter Try.func15, Try.ntmps15
  go_wp2_with fail
  refine HD.out.mono ?_
  rintro e w' ⟨rfl, w2, hw2, rfl⟩
  subst hw2
  obtain ⟨W, hW⟩ : ∃ W, W = (((w.setCell ⟨g, 1, none⟩ (.int .i32 1)).drew).setCell ⟨g, 0, none⟩ (.int .u32 1)).setCell ⟨g, 1, none⟩ (.int .i32 0) := ⟨_, rfl⟩
  rw [← hW] at HL HK c5 ⊢
  have c5' : W.cell? ⟨g, 5, none⟩ = some (.int .u64 0) := c5
  clear hW c5
  go_wp2
  go_ret
  exact ⟨rfl, HL.out, HK.out⟩
set_option maxRecDepth 100000 in
/-- Get of a value with its function, for the first time. -/
theorem GetL_fn (g c : Nat) (v : Int) (w : World) (h : LazAt w g false false (FnL c) 0) (hc : w.cell? ⟨c, 0, none⟩ = some (.int .u64 v)) (hcg : c ≠ g) :
    Calls Try.prog 15 #[.pointer (some ⟨g, 0, none⟩)] w fun e w' => e = .returned (.int .u64 v) ∧ LazAt w' g true true .nilFunc v ∧ Kept (One g) w w' := by
  have hmf : ∀ (fn : Fn) (first cap : Array Value) (w : World), (Instr.makeFunc fn first cap).run Try.prog w = .ok (.func fn first cap) w := fun _ _ _ _ => rfl
  have hl := blk_set h 1 (.int .i32 1)
  have hc1 : (w.setCell ⟨g, 1, none⟩ (.int .i32 1)).cell? ⟨c, 0, none⟩ = some (.int .u64 v) := (World.cell?_setCell_other w ⟨g, 1, none⟩ ⟨c, 0, none⟩ _ (by simp)).trans hc
  have hl2 := blk_set (blk_set (w := ((w.setCell ⟨g, 1, none⟩ (.int .i32 1)).setCell ⟨g, 4, none⟩ .nilFunc).drew) (blk_set hl 4 .nilFunc) 3 (.int .u32 1)) 5 (.int .u64 v)
  have hk := (((((Kept.refl (One g) w).one 1 (.int .i32 1)).one 4 .nilFunc).drew).one 3 (.int .u32 1)).one 5 (.int .u64 v)
  have HD := Lib.hid (do_comp g w (fun w2 => w2.heap[g]? = some (.cells #[.int .u32 0, .int .i32 1, .int .u32 0, .int .u32 1, .nilFunc, .int .u64 v] 66 (0, 0)) ∧ Kept (One g) w w2) (cell_of_row w g 0 _ _ _ h) (cell_of_row w g 1 _ _ _ h) (blk_frozen0 h 0) (blk_frozen0 h 1)
    ((comp_fn g c v 0 _ hl hc1 hcg).mono (by rintro e w' ⟨rfl, rfl⟩; exact ⟨rfl, cell_of_row _ _ 0 _ _ _ hl2, cell_of_row _ _ 1 _ _ _ hl2, blk_frozen0 hl2 0, blk_frozen0 hl2 1, hl2, hk⟩)))
  clear h hl hc1 hl2 hc hk
  go_enter Try.func15, Try.ntmps15
  go_wp2_with fail
  refine HD.out.mono ?_
  rintro e w' ⟨rfl, w2, ⟨hl, hk⟩, rfl⟩
  have hl3 := blk_set (blk_set (w := w2.drew) hl 0 (.int .u32 1)) 1 (.int .i32 0)
  have hk3 := (hk.drew.one 0 (.int .u32 1)).one 1 (.int .i32 0)
  obtain ⟨W, hW⟩ : ∃ W, W = ((w2.drew).setCell ⟨g, 0, none⟩ (.int .u32 1)).setCell ⟨g, 1, none⟩ (.int .i32 0) := ⟨_, rfl⟩
  rw [← hW] at hl3 hk3 ⊢
  have c5 : W.cell? ⟨g, 5, none⟩ = some (.int .u64 v) := cell_of_row _ g 5 _ _ _ hl3
  have HL := Lib.hid hl3
  have HK := Lib.hid hk3
  clear hW hl3 hk3 hl hk
  go_wp2
  go_ret
  exact ⟨rfl, HL.out, HK.out⟩
end Go.Proofs.Ytfjgfeaeikjjhaa
