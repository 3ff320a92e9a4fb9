/-
  Package latch: a latch's block; sync.Once's Do with the function literal that sets the value; Set, Get, Or; calls at no latch.
-/
import Derived.Test.YtpgchapemclocaaProg
import Derived.Test.YtpgchapemclocaaBase
import Derived.WalkKit
import Derived.WalkSpells
import Derived.WalkLawsBesides
import Derived.RegionTactic
import Derived.BigRegion
import Derived.Deep.QuietTactic
import Derived.BigQuiet
import Derived.Lib.Hide
import Derived.Outline
import Derived.KernelRfl
import Derived.Conc.MuLone
import Derived.Laws.LoneSync
import Derived.Laws.NewBlocks
import Derived.Defers
import Derived.RegionCalls
namespace Go.Proofs.Ytpgchapemclocaa
open Go.RowKit Go.MuLone
set_option linter.unusedVariables false

/-- Block g alone. -/
def One (g : Nat) : Nat → Prop := fun k => k = g
theorem Kept.one {g : Nat} {a w : World} (h : Kept (One g) a w) (o : Nat) (u : Value) : Kept (One g) a (w.setCell ⟨g, o, none⟩ u) := h.setCell (p := ⟨g, o, none⟩) (.inl (by show g = g; rfl)) u
theorem blk_frozen0 {w : World} {g : Nat} {cs : Array Value} {t : TypeId} (h : w.heap[g]? = some (.cells cs t (0, 0))) (o : Nat) : w.frozen? ⟨g, o, none⟩ = false := by simp [World.frozen?, h]
theorem blk_set {w : World} {g : Nat} {cs : Array Value} {t : TypeId} {fr : Nat × Nat} (h : w.heap[g]? = some (.cells cs t fr)) (i : Nat) (u : Value) :
    (w.setCell ⟨g, i, none⟩ u).heap[g]? = some (.cells (cs.setIfInBounds i u) t fr) := by simp [World.setCell, Array.getElem?_modify, h]
theorem blk_set_other {w : World} {g k : Nat} {o : Obj} (h : w.heap[g]? = some o) (i : Nat) (u : Value) (hk : k ≠ g) :
    (w.setCell ⟨k, i, none⟩ u).heap[g]? = some o := by simp [World.setCell, Array.getElem?_modify, h, hk]
theorem blk_alloc {w : World} {g : Nat} {o : Obj} (h : w.heap[g]? = some o) (x : Obj) : (w.alloc x).heap[g]? = some o := (heap_alloc_old w x (heap_lt h)).trans h

abbrev muLink : Go.Conc.Locks.MuLink := { lock := 68, unlock := 69, ilock := 72, iunlock := 73, lockSlow := 78, unlockSlow := 81, disable := 74, enable := 76, acquire := 77, relMerge := 79, cas32 := 75, add32 := 80, tMutex := 79, tIMutex := 77, tPMutex := 97, tPIMutex := 98, tPI32 := 100, tUP := 102, tNoCopy := 72, tU32 := 23 }
theorem muLib : Go.Conc.Locks.MuLib Try.prog muLink :=
  ⟨Try.func68, Try.func69, Try.func72, Try.func73, Try.func74, Try.func76, Try.func77, Try.func79, Try.func75, Try.func80, Try.underlying77, Try.runUnderlying77, Try.sizeOf77, Try.isAgg77, Try.zeroValue77, Try.underlying79, Try.runUnderlying79, Try.sizeOf79, Try.isAgg79, Try.zeroValue79, Try.underlying97, Try.runUnderlying97, Try.sizeOf97, Try.isAgg97, Try.zeroValue97, Try.underlying98, Try.runUnderlying98, Try.sizeOf98, Try.isAgg98, Try.zeroValue98, Try.underlying100, Try.runUnderlying100, Try.sizeOf100, Try.isAgg100, Try.zeroValue100, Try.underlying102, Try.runUnderlying102, Try.sizeOf102, Try.isAgg102, Try.zeroValue102, Try.underlying72, Try.runUnderlying72, Try.sizeOf72, Try.isAgg72, Try.zeroValue72, Try.underlying21, Try.runUnderlying21, Try.sizeOf21, Try.isAgg21, Try.zeroValue21, (by kernel_rfl)⟩

/-- Store of true. -/
theorem Store_any (a : Addr) (x : Value) (w : World) (hc : w.cell? a = some x) (hz : w.frozen? a = false) :
    Calls Try.prog 63 #[.pointer (some a), .bool true] w fun e w' => e = .returned (.tuple #[]) ∧ w' = w.drew.setCell a (.int .u32 1) := by
  have hc' : w.drew.cell? a = some x := by go_simp
  have hz' : w.drew.frozen? a = false := by go_simp
  have hst := run_call_store (P := Try.prog) Try.func70 (by kernel_rfl) (by kernel_rfl) (by kernel_rfl) (by kernel_rfl) (k := .u32) (y := 1) hc' hz'
  go_enter Try.func63, Try.ntmps63
  go_wp2
  go_region_calls
  all_goals (go_end0; exact ⟨rfl, rfl⟩)
/-- Store, entered as a deferred call. -/
theorem store_done (a : Addr) (x : Value) (u : FrameMode) (w : World) (hc : w.cell? a = some x) (hz : w.frozen? a = false) :
    CallsD Try.prog 63 #[.pointer (some a), .bool true] u w fun e u' w' => u' = u ∧ (e = .returned (.tuple #[]) ∧ w' = w.drew.setCell a (.int .u32 1)) := by
  have hc' : w.drew.cell? a = some x := by go_simp
  have hz' : w.drew.frozen? a = false := by go_simp
  have hst := run_call_store (P := Try.prog) Try.func70 (by kernel_rfl) (by kernel_rfl) (by kernel_rfl) (by kernel_rfl) (k := .u32) (y := 1) hc' hz'
  go_enter_d Try.func63, Try.ntmps63
  go_wp2
  go_region_calls
  all_goals (go_end0; exact ⟨rfl, rfl⟩)
/-- Load of an atomic bool. -/
theorem Load_any (a : Addr) (b : Bool) (w : World) (hc : w.cell? a = some (.int .u32 (if b then 1 else 0))) :
    Calls Try.prog 55 #[.pointer (some a)] w fun e w' => e = .returned (.bool b) ∧ w = w' := by
  have hl := run_call_load (P := Try.prog) Try.func65 (by kernel_rfl) (by kernel_rfl) (by kernel_rfl) .u32 (by kernel_rfl) hc
  cases b
  all_goals
    go_enter Try.func55, Try.ntmps55
    go_wp2
    go_ret
    exact ⟨rfl, rfl⟩

/-- Do, done already. -/
theorem do_done (g : Nat) (fv : Value) (w : World) (c0 : w.cell? ⟨g, 0, none⟩ = some (.int .u32 1)) :
    Calls Try.prog 53 #[.pointer (some ⟨g, 0, none⟩), fv] w fun e w' => e = .returned (.tuple #[]) ∧ w = w' := by
  have HL := Lib.hid (Load_any ⟨g, 0, none⟩ true w c0)
  clear c0
  go_enter Try.func53, Try.ntmps53
  go_wp2_with fail
  refine HL.out.mono ?_
  rintro e w1 ⟨rfl, rfl⟩
  go_wp2
  go_end0
  exact ⟨rfl, rfl⟩
end Go.Proofs.Ytpgchapemclocaa
