/-
  Package letter: Check of an update's letter. Package update: Check and Asked; the chapter's. catenaryref17: check, Check, Asked; what both sides tell. Package update: Request; the chapter's; the walk of UpdateRequests. The frame of the cards over letters' parts: an operation on a block that came in, opened; what the listed variable gives.
-/
import Derived.Test.YtclfecninhipnaaGreatDoorLtr1
import Derived.Deep.WholeRow
import Derived.Test.YtclfecninhipnaaGreatDoorUpd1
import Derived.Test.YtclfecninhipnaaGreatDoorUpd2
import Derived.LaidMore
import Derived.Stop.Joined
import Derived.Stop.LaidErr
import Derived.Lib.LaidTab
import Derived.Lib.SmallJoins
import Derived.Shelf.Vars
import Derived.HandedShaped
import Derived.Lay
import Derived.ChangeSlices
namespace Go.Proofs.YtclfecninhipnaaGreatDoor
open Go.RowKit
set_option linter.unusedVariables false
set_option linter.unusedSimpArgs false

def jN (j : Nat) : Int := (j : Int)
theorem q4_inj {x : Q4} {f1 f2 f3 f4 : FuncId} {br bp bg ba : Nat} (h : q4v x = PartAg f1 f2 f3 f4 br bp bg ba) : x.a = .func (.func f1) #[] #[pb br, pb ba] ∧ x.b = .func (.func f2) #[] #[pb bp, pb ba] ∧ x.c = .func (.func f3) #[] #[pb bg, pb ba] ∧ x.d = .func (.func f4) #[] #[pb ba] := by
  unfold q4v PartAg at h
  injection h with h
  simpa using h

set_option maxRecDepth 100000 in
def RestSt12 (ua : Option Addr) (uc : Nat) (l : List Up) (j : Nat) : Array Value :=
  match j with
  | 0 => #[.int .i64 0, .int .i64 0, .int .i64 0, .int .i64 0, .int .u64 1, .int .u64 0, .int .u64 0, .int .u64 0, .int .u64 0, .int .u64 0, .int .i64 0, .int .u32 0, .int .i64 0, .int .i64 0, .int .i64 0, .int .u64 0, .int .i64 0, .int .i64 0, .int .u64 0, .slice none 0 0, .bool false, .int .i64 0, .slice none 0 0, .slice ua l.length uc, .slice none 0 0]
  | 1 => #[.int .i64 0, .int .i64 0, .int .i64 0, .int .i64 0, .int .u64 1, .int .u64 0, .int .u64 0, .int .u64 0, .int .u64 0, .int .u64 0, .int .i64 0, .int .u32 0, .int .i64 0, .int .i64 0, .int .i64 0, .int .u64 0, .int .i64 0, .int .i64 0, .int .u64 0, .slice none 0 0, .bool false, .int .i64 0, .slice none 0 0, .slice ua l.length uc, .slice none 0 0]
  | 2 => #[.int .i64 0, .int .i64 0, .int .i64 0, .int .i64 0, .int .u64 0, .int .u64 0, .int .u64 0, .int .u64 0, .int .u64 0, .int .u64 0, .int .i64 0, .int .u32 0, .int .i64 0, .int .i64 0, .int .i64 0, .int .u64 0, .int .i64 0, .int .i64 0, .int .u64 0, .slice none 0 0, .bool false, .int .i64 0, .slice none 0 0, .slice ua l.length uc, .slice none 0 0]
  | 3 => #[.int .i64 0, .int .i64 0, .int .i64 0, .int .i64 0, .int .u64 0, .int .u64 0, .int .u64 0, .int .u64 0, .int .u64 0, .int .u64 0, .int .i64 0, .int .u32 0, .int .i64 0, .int .i64 0, .int .i64 0, .int .u64 0, .int .i64 0, .int .i64 0, .int .u64 0, .slice none 0 0, .bool false, .int .i64 0, .slice none 0 0, .slice ua l.length uc, .slice none 0 0]
  | 4 => #[.int .i64 0, .int .i64 0, .int .i64 0, .int .i64 0, .int .u64 0, .int .u64 0, .int .u64 0, .int .u64 0, .int .u64 0, .int .u64 0, .int .i64 0, .int .u32 0, .int .i64 0, .int .i64 0, .int .i64 0, .int .u64 0, .int .i64 0, .int .i64 0, .int .u64 0, .slice none 0 0, .bool false, .int .i64 0, .slice none 0 0, .slice ua l.length uc, .slice none 0 0]
  | 5 => #[.int .i64 0, .int .i64 0, .int .i64 0, .int .i64 0, .int .u64 0, .int .u64 0, .int .u64 0, .int .u64 0, .int .u64 0, .int .u64 0, .int .i64 0, .int .u32 0, .int .i64 0, .int .i64 0, .int .i64 0, .int .u64 0, .int .i64 0, .int .i64 0, .int .u64 0, .slice none 0 0, .bool false, .int .i64 0, .slice none 0 0, .slice none 0 0, .slice none 0 0]
  | _ => #[.int .i64 0, .int .i64 0, .int .i64 0, .int .i64 0, .int .u64 0, .int .u64 0, .int .u64 0, .int .u64 0, .int .u64 0, .int .u64 0, .int .i64 0, .int .u32 0, .int .i64 0, .int .i64 0, .int .i64 0, .int .u64 0, .int .i64 0, .int .i64 0, .int .u64 0, .slice none 0 0, .bool false, .int .i64 0, .slice none 0 0, .slice none 0 0, .slice none 0 0]
def ChkRel12 (w W : World) (g : Nat) (ua : Option Addr) (uc : Nat) (l : List Up) (jv : Value) (wr : World) : Prop :=
  ∃ j, j ≤ 5 ∧ jv = .int .i64 (jN j) ∧ wr.heap[g]? = some (.cells (RestSt12 ua uc l j) 48 (0, 0)) ∧ (5 ≤ j → areUs l = true) ∧ Kept (fun k => k = g) W wr
theorem rest12_set0 (ua : Option Addr) (uc : Nat) (l : List Up) : (RestSt12 ua uc l 0).setIfInBounds 3 (.int .i64 0) = RestSt12 ua uc l 1 := by rfl
theorem rest12_row0 {w : World} {g : Nat} {ua : Option Addr} {uc : Nat} {l : List Up} (h : w.heap[g]? = some (.cells (RestSt12 ua uc l 0) 48 (0, 0))) : (w.setCell ⟨g, 3, none⟩ (.int .i64 0)).heap[g]? = some (.cells (RestSt12 ua uc l 1) 48 (0, 0)) := by rw [← rest12_set0]; exact blkU_set h 3 _
theorem rest12_len0 (ua : Option Addr) (uc : Nat) (l : List Up) : (RestSt12 ua uc l 0).size = 25 := by rfl
theorem rest12_set1 (ua : Option Addr) (uc : Nat) (l : List Up) : (RestSt12 ua uc l 1).setIfInBounds 4 (.int .u64 0) = RestSt12 ua uc l 2 := by rfl
theorem rest12_row1 {w : World} {g : Nat} {ua : Option Addr} {uc : Nat} {l : List Up} (h : w.heap[g]? = some (.cells (RestSt12 ua uc l 1) 48 (0, 0))) : (w.setCell ⟨g, 4, none⟩ (.int .u64 0)).heap[g]? = some (.cells (RestSt12 ua uc l 2) 48 (0, 0)) := by rw [← rest12_set1]; exact blkU_set h 4 _
theorem rest12_len1 (ua : Option Addr) (uc : Nat) (l : List Up) : (RestSt12 ua uc l 1).size = 25 := by rfl
theorem rest12_set2 (ua : Option Addr) (uc : Nat) (l : List Up) : (RestSt12 ua uc l 2).setIfInBounds 7 (.int .u64 0) = RestSt12 ua uc l 3 := by rfl
theorem rest12_row2 {w : World} {g : Nat} {ua : Option Addr} {uc : Nat} {l : List Up} (h : w.heap[g]? = some (.cells (RestSt12 ua uc l 2) 48 (0, 0))) : (w.setCell ⟨g, 7, none⟩ (.int .u64 0)).heap[g]? = some (.cells (RestSt12 ua uc l 3) 48 (0, 0)) := by rw [← rest12_set2]; exact blkU_set h 7 _
theorem rest12_len2 (ua : Option Addr) (uc : Nat) (l : List Up) : (RestSt12 ua uc l 2).size = 25 := by rfl
theorem rest12_set3 (ua : Option Addr) (uc : Nat) (l : List Up) : (RestSt12 ua uc l 3).setIfInBounds 8 (.int .u64 0) = RestSt12 ua uc l 4 := by rfl
theorem rest12_row3 {w : World} {g : Nat} {ua : Option Addr} {uc : Nat} {l : List Up} (h : w.heap[g]? = some (.cells (RestSt12 ua uc l 3) 48 (0, 0))) : (w.setCell ⟨g, 8, none⟩ (.int .u64 0)).heap[g]? = some (.cells (RestSt12 ua uc l 4) 48 (0, 0)) := by rw [← rest12_set3]; exact blkU_set h 8 _
theorem rest12_len3 (ua : Option Addr) (uc : Nat) (l : List Up) : (RestSt12 ua uc l 3).size = 25 := by rfl
theorem rest12_set4 (ua : Option Addr) (uc : Nat) (l : List Up) : (RestSt12 ua uc l 4).setIfInBounds 23 (.slice none 0 0) = RestSt12 ua uc l 5 := by rfl
theorem rest12_row4 {w : World} {g : Nat} {ua : Option Addr} {uc : Nat} {l : List Up} (h : w.heap[g]? = some (.cells (RestSt12 ua uc l 4) 48 (0, 0))) : (w.setCell ⟨g, 23, none⟩ (.slice none 0 0)).heap[g]? = some (.cells (RestSt12 ua uc l 5) 48 (0, 0)) := by rw [← rest12_set4]; exact blkU_set h 23 _
theorem rest12_len4 (ua : Option Addr) (uc : Nat) (l : List Up) : (RestSt12 ua uc l 4).size = 25 := by rfl
theorem rest12_end (ua : Option Addr) (uc : Nat) (l : List Up) : RestSt12 ua uc l 5 = #[.int .i64 0, .int .i64 0, .int .i64 0, .int .i64 0, .int .u64 0, .int .u64 0, .int .u64 0, .int .u64 0, .int .u64 0, .int .u64 0, .int .i64 0, .int .u32 0, .int .i64 0, .int .i64 0, .int .i64 0, .int .u64 0, .int .i64 0, .int .i64 0, .int .u64 0, .slice none 0 0, .bool false, .int .i64 0, .slice none 0 0, .slice none 0 0, .slice none 0 0] := by rfl
theorem let12_3 {w : World} {g : Nat} {ua : Option Addr} {uc : Nat} {l : List Up} (h : w.heap[g]? = some (.cells #[.int .i64 12, .int .i64 201, .int .i64 1, .int .i64 0, .int .u64 1, .int .u64 0, .int .u64 0, .int .u64 0, .int .u64 0, .int .u64 0, .int .i64 0, .int .u32 0, .int .i64 0, .int .i64 0, .int .i64 0, .int .u64 0, .int .i64 0, .int .i64 0, .int .u64 0, .slice none 0 0, .bool false, .int .i64 0, .slice none 0 0, .slice ua l.length uc, .slice none 0 0] 48 (0, 0))) : w.cell? ⟨g, 3, none⟩ = some (.int .i64 0) := cell_of_row _ _ 3 _ _ _ h
theorem let12_4 {w : World} {g : Nat} {ua : Option Addr} {uc : Nat} {l : List Up} (h : w.heap[g]? = some (.cells #[.int .i64 12, .int .i64 201, .int .i64 1, .int .i64 0, .int .u64 1, .int .u64 0, .int .u64 0, .int .u64 0, .int .u64 0, .int .u64 0, .int .i64 0, .int .u32 0, .int .i64 0, .int .i64 0, .int .i64 0, .int .u64 0, .int .i64 0, .int .i64 0, .int .u64 0, .slice none 0 0, .bool false, .int .i64 0, .slice none 0 0, .slice ua l.length uc, .slice none 0 0] 48 (0, 0))) : w.cell? ⟨g, 4, none⟩ = some (.int .u64 1) := cell_of_row _ _ 4 _ _ _ h
theorem let12_7 {w : World} {g : Nat} {ua : Option Addr} {uc : Nat} {l : List Up} (h : w.heap[g]? = some (.cells #[.int .i64 12, .int .i64 201, .int .i64 1, .int .i64 0, .int .u64 1, .int .u64 0, .int .u64 0, .int .u64 0, .int .u64 0, .int .u64 0, .int .i64 0, .int .u32 0, .int .i64 0, .int .i64 0, .int .i64 0, .int .u64 0, .int .i64 0, .int .i64 0, .int .u64 0, .slice none 0 0, .bool false, .int .i64 0, .slice none 0 0, .slice ua l.length uc, .slice none 0 0] 48 (0, 0))) : w.cell? ⟨g, 7, none⟩ = some (.int .u64 0) := cell_of_row _ _ 7 _ _ _ h
theorem let12_8 {w : World} {g : Nat} {ua : Option Addr} {uc : Nat} {l : List Up} (h : w.heap[g]? = some (.cells #[.int .i64 12, .int .i64 201, .int .i64 1, .int .i64 0, .int .u64 1, .int .u64 0, .int .u64 0, .int .u64 0, .int .u64 0, .int .u64 0, .int .i64 0, .int .u32 0, .int .i64 0, .int .i64 0, .int .i64 0, .int .u64 0, .int .i64 0, .int .i64 0, .int .u64 0, .slice none 0 0, .bool false, .int .i64 0, .slice none 0 0, .slice ua l.length uc, .slice none 0 0] 48 (0, 0))) : w.cell? ⟨g, 8, none⟩ = some (.int .u64 0) := cell_of_row _ _ 8 _ _ _ h
theorem let12_23 {w : World} {g : Nat} {ua : Option Addr} {uc : Nat} {l : List Up} (h : w.heap[g]? = some (.cells #[.int .i64 12, .int .i64 201, .int .i64 1, .int .i64 0, .int .u64 1, .int .u64 0, .int .u64 0, .int .u64 0, .int .u64 0, .int .u64 0, .int .i64 0, .int .u32 0, .int .i64 0, .int .i64 0, .int .i64 0, .int .u64 0, .int .i64 0, .int .i64 0, .int .u64 0, .slice none 0 0, .bool false, .int .i64 0, .slice none 0 0, .slice ua l.length uc, .slice none 0 0] 48 (0, 0))) : w.cell? ⟨g, 23, none⟩ = some (.slice ua l.length uc) := cell_of_row _ _ 23 _ _ _ h
set_option maxRecDepth 100000 in
set_option maxHeartbeats 4000000 in
theorem LCheck_12 (w : World) (ua : Option Addr) (uc : Nat) (l : List Up) (F : Nat → Prop) (hx : UsAt w F (.slice ua l.length uc) l) (hF : ∀ k, F k → k < w.heap.size) (ht : Tab10 w) : Calls Tryz.prog 20 #[.agg #[.int .i64 12, .int .i64 201, .int .i64 1, .int .i64 0, .int .u64 1, .int .u64 0, .int .u64 0, .int .u64 0, .int .u64 0, .int .u64 0, .int .i64 0, .int .u32 0, .int .i64 0, .int .i64 0, .int .i64 0, .int .u64 0, .int .i64 0, .int .i64 0, .int .u64 0, .slice none 0 0, .bool false, .int .i64 0, .slice none 0 0, .slice ua l.length uc, .slice none 0 0]] w fun e w' => e = .returned (.int .i64 (if areUs l then 0 else 4)) ∧ Kept NoB w w' := by
  obtain ⟨eb, heb⟩ : ∃ x : Int, x = if areUs l then 0 else 4 := ⟨_, rfl⟩
  rw [← heb]
  have HEB : Hid ((areUs l = true → eb = 0) ∧ (areUs l = false → eb = 4)) := Lib.hid ⟨fun h => by rw [heb, h]; rfl, fun h => by rw [heb, h]; rfl⟩
  clear heb
  obtain ⟨W0, hW0⟩ : ∃ W0, W0 = (w.alloc (.cells #[.int .i64 12, .int .i64 201, .int .i64 1, .int .i64 0, .int .u64 1, .int .u64 0, .int .u64 0, .int .u64 0, .int .u64 0, .int .u64 0, .int .i64 0, .int .u32 0, .int .i64 0, .int .i64 0, .int .i64 0, .int .u64 0, .int .i64 0, .int .i64 0, .int .u64 0, .slice none 0 0, .bool false, .int .i64 0, .slice none 0 0, .slice ua l.length uc, .slice none 0 0] 48 (0, 0))).alloc (.cells #[.int .i64 12, .int .i64 201, .int .i64 1, .int .i64 0, .int .u64 1, .int .u64 0, .int .u64 0, .int .u64 0, .int .u64 0, .int .u64 0, .int .i64 0, .int .u32 0, .int .i64 0, .int .i64 0, .int .i64 0, .int .u64 0, .int .i64 0, .int .i64 0, .int .u64 0, .slice none 0 0, .bool false, .int .i64 0, .slice none 0 0, .slice ua l.length uc, .slice none 0 0] 48 (0, 0)) := ⟨_, rfl⟩
  have g1 : W0.heap[w.heap.size]? = some (.cells #[.int .i64 12, .int .i64 201, .int .i64 1, .int .i64 0, .int .u64 1, .int .u64 0, .int .u64 0, .int .u64 0, .int .u64 0, .int .u64 0, .int .i64 0, .int .u32 0, .int .i64 0, .int .i64 0, .int .i64 0, .int .u64 0, .int .i64 0, .int .i64 0, .int .u64 0, .slice none 0 0, .bool false, .int .i64 0, .slice none 0 0, .slice ua l.length uc, .slice none 0 0] 48 (0, 0)) := by rw [hW0]; exact blkU_alloc (heap_alloc_new w _) _
  have g2 : W0.heap[w.heap.size + 1]? = some (.cells #[.int .i64 12, .int .i64 201, .int .i64 1, .int .i64 0, .int .u64 1, .int .u64 0, .int .u64 0, .int .u64 0, .int .u64 0, .int .u64 0, .int .i64 0, .int .u32 0, .int .i64 0, .int .i64 0, .int .i64 0, .int .u64 0, .int .i64 0, .int .i64 0, .int .u64 0, .slice none 0 0, .bool false, .int .i64 0, .slice none 0 0, .slice ua l.length uc, .slice none 0 0] 48 (0, 0)) := by
    have := heap_alloc_new (w.alloc (.cells #[.int .i64 12, .int .i64 201, .int .i64 1, .int .i64 0, .int .u64 1, .int .u64 0, .int .u64 0, .int .u64 0, .int .u64 0, .int .u64 0, .int .i64 0, .int .u32 0, .int .i64 0, .int .i64 0, .int .i64 0, .int .u64 0, .int .i64 0, .int .i64 0, .int .u64 0, .slice none 0 0, .bool false, .int .i64 0, .slice none 0 0, .slice ua l.length uc, .slice none 0 0] 48 (0, 0))) (.cells #[.int .i64 12, .int .i64 201, .int .i64 1, .int .i64 0, .int .u64 1, .int .u64 0, .int .u64 0, .int .u64 0, .int .u64 0, .int .u64 0, .int .i64 0, .int .u32 0, .int .i64 0, .int .i64 0, .int .i64 0, .int .u64 0, .int .i64 0, .int .i64 0, .int .u64 0, .slice none 0 0, .bool false, .int .i64 0, .slice none 0 0, .slice ua l.length uc, .slice none 0 0] 48 (0, 0))
    rw [show (w.alloc (.cells #[.int .i64 12, .int .i64 201, .int .i64 1, .int .i64 0, .int .u64 1, .int .u64 0, .int .u64 0, .int .u64 0, .int .u64 0, .int .u64 0, .int .i64 0, .int .u32 0, .int .i64 0, .int .i64 0, .int .i64 0, .int .u64 0, .int .i64 0, .int .i64 0, .int .u64 0, .slice none 0 0, .bool false, .int .i64 0, .slice none 0 0, .slice ua l.length uc, .slice none 0 0] 48 (0, 0))).heap.size = w.heap.size + 1 by simp] at this
    rw [hW0]; exact this
  have HSR : Hid (((w.alloc (.cells #[.int .i64 12, .int .i64 201, .int .i64 1, .int .i64 0, .int .u64 1, .int .u64 0, .int .u64 0, .int .u64 0, .int .u64 0, .int .u64 0, .int .i64 0, .int .u32 0, .int .i64 0, .int .i64 0, .int .i64 0, .int .u64 0, .int .i64 0, .int .i64 0, .int .u64 0, .slice none 0 0, .bool false, .int .i64 0, .slice none 0 0, .slice ua l.length uc, .slice none 0 0] 48 (0, 0))).alloc (.cells #[.int .i64 0, .int .i64 0, .int .i64 0, .int .i64 0, .int .u64 0, .int .u64 0, .int .u64 0, .int .u64 0, .int .u64 0, .int .u64 0, .int .i64 0, .int .u32 0, .int .i64 0, .int .i64 0, .int .i64 0, .int .u64 0, .int .i64 0, .int .i64 0, .int .u64 0, .slice none 0 0, .bool false, .int .i64 0, .slice none 0 0, .slice none 0 0, .slice none 0 0] 48 (0, 0))).setRow (w.heap.size + 1) #[.int .i64 12, .int .i64 201, .int .i64 1, .int .i64 0, .int .u64 1, .int .u64 0, .int .u64 0, .int .u64 0, .int .u64 0, .int .u64 0, .int .i64 0, .int .u32 0, .int .i64 0, .int .i64 0, .int .i64 0, .int .u64 0, .int .i64 0, .int .i64 0, .int .u64 0, .slice none 0 0, .bool false, .int .i64 0, .slice none 0 0, .slice ua l.length uc, .slice none 0 0] = W0) := Lib.hid (by
    have := World.setRow_alloc_new (w.alloc (.cells #[.int .i64 12, .int .i64 201, .int .i64 1, .int .i64 0, .int .u64 1, .int .u64 0, .int .u64 0, .int .u64 0, .int .u64 0, .int .u64 0, .int .i64 0, .int .u32 0, .int .i64 0, .int .i64 0, .int .i64 0, .int .u64 0, .int .i64 0, .int .i64 0, .int .u64 0, .slice none 0 0, .bool false, .int .i64 0, .slice none 0 0, .slice ua l.length uc, .slice none 0 0] 48 (0, 0))) #[.int .i64 0, .int .i64 0, .int .i64 0, .int .i64 0, .int .u64 0, .int .u64 0, .int .u64 0, .int .u64 0, .int .u64 0, .int .u64 0, .int .i64 0, .int .u32 0, .int .i64 0, .int .i64 0, .int .i64 0, .int .u64 0, .int .i64 0, .int .i64 0, .int .u64 0, .slice none 0 0, .bool false, .int .i64 0, .slice none 0 0, .slice none 0 0, .slice none 0 0] #[.int .i64 12, .int .i64 201, .int .i64 1, .int .i64 0, .int .u64 1, .int .u64 0, .int .u64 0, .int .u64 0, .int .u64 0, .int .u64 0, .int .i64 0, .int .u32 0, .int .i64 0, .int .i64 0, .int .i64 0, .int .u64 0, .int .i64 0, .int .i64 0, .int .u64 0, .slice none 0 0, .bool false, .int .i64 0, .slice none 0 0, .slice ua l.length uc, .slice none 0 0] 48
    rw [show (w.alloc (.cells #[.int .i64 12, .int .i64 201, .int .i64 1, .int .i64 0, .int .u64 1, .int .u64 0, .int .u64 0, .int .u64 0, .int .u64 0, .int .u64 0, .int .i64 0, .int .u32 0, .int .i64 0, .int .i64 0, .int .i64 0, .int .u64 0, .int .i64 0, .int .i64 0, .int .u64 0, .slice none 0 0, .bool false, .int .i64 0, .slice none 0 0, .slice ua l.length uc, .slice none 0 0] 48 (0, 0))).heap.size = w.heap.size + 1 by simp] at this
    rw [hW0]; exact this)
  have HGZ : Hid (((w.alloc (.cells #[.int .i64 12, .int .i64 201, .int .i64 1, .int .i64 0, .int .u64 1, .int .u64 0, .int .u64 0, .int .u64 0, .int .u64 0, .int .u64 0, .int .i64 0, .int .u32 0, .int .i64 0, .int .i64 0, .int .i64 0, .int .u64 0, .int .i64 0, .int .i64 0, .int .u64 0, .slice none 0 0, .bool false, .int .i64 0, .slice none 0 0, .slice ua l.length uc, .slice none 0 0] 48 (0, 0))).alloc (.cells #[.int .i64 0, .int .i64 0, .int .i64 0, .int .i64 0, .int .u64 0, .int .u64 0, .int .u64 0, .int .u64 0, .int .u64 0, .int .u64 0, .int .i64 0, .int .u32 0, .int .i64 0, .int .i64 0, .int .i64 0, .int .u64 0, .int .i64 0, .int .i64 0, .int .u64 0, .slice none 0 0, .bool false, .int .i64 0, .slice none 0 0, .slice none 0 0, .slice none 0 0] 48 (0, 0))).heap[w.heap.size + 1]? = some (.cells #[.int .i64 0, .int .i64 0, .int .i64 0, .int .i64 0, .int .u64 0, .int .u64 0, .int .u64 0, .int .u64 0, .int .u64 0, .int .u64 0, .int .i64 0, .int .u32 0, .int .i64 0, .int .i64 0, .int .i64 0, .int .u64 0, .int .i64 0, .int .i64 0, .int .u64 0, .slice none 0 0, .bool false, .int .i64 0, .slice none 0 0, .slice none 0 0, .slice none 0 0] 48 (0, 0))) := Lib.hid (by
    have := heap_alloc_new (w.alloc (.cells #[.int .i64 12, .int .i64 201, .int .i64 1, .int .i64 0, .int .u64 1, .int .u64 0, .int .u64 0, .int .u64 0, .int .u64 0, .int .u64 0, .int .i64 0, .int .u32 0, .int .i64 0, .int .i64 0, .int .i64 0, .int .u64 0, .int .i64 0, .int .i64 0, .int .u64 0, .slice none 0 0, .bool false, .int .i64 0, .slice none 0 0, .slice ua l.length uc, .slice none 0 0] 48 (0, 0))) (.cells #[.int .i64 0, .int .i64 0, .int .i64 0, .int .i64 0, .int .u64 0, .int .u64 0, .int .u64 0, .int .u64 0, .int .u64 0, .int .u64 0, .int .i64 0, .int .u32 0, .int .i64 0, .int .i64 0, .int .i64 0, .int .u64 0, .int .i64 0, .int .i64 0, .int .u64 0, .slice none 0 0, .bool false, .int .i64 0, .slice none 0 0, .slice none 0 0, .slice none 0 0] 48 (0, 0))
    rw [show (w.alloc (.cells #[.int .i64 12, .int .i64 201, .int .i64 1, .int .i64 0, .int .u64 1, .int .u64 0, .int .u64 0, .int .u64 0, .int .u64 0, .int .u64 0, .int .i64 0, .int .u32 0, .int .i64 0, .int .i64 0, .int .i64 0, .int .u64 0, .int .i64 0, .int .i64 0, .int .u64 0, .slice none 0 0, .bool false, .int .i64 0, .slice none 0 0, .slice ua l.length uc, .slice none 0 0] 48 (0, 0))).heap.size = w.heap.size + 1 by simp] at this
    exact this)
  have kW0 : Kept NoB w W0 := by rw [hW0]; exact ((Kept.refl NoB w).alloc _).alloc _
  have sW0 : W0.heap.size = w.heap.size + 2 := by rw [hW0]; simp
  have HNE : Hid (¬ w.heap.size + 1 = w.heap.size) := Lib.hid (by omega)
  clear hW0
  obtain ⟨W, hW⟩ : ∃ W, W = ((W0.setCell ⟨w.heap.size + 1, 0, none⟩ (.int .i64 0)).setCell ⟨w.heap.size + 1, 1, none⟩ (.int .i64 0)).setCell ⟨w.heap.size + 1, 2, none⟩ (.int .i64 0) := ⟨_, rfl⟩
  have h1 : W.heap[w.heap.size]? = some (.cells #[.int .i64 12, .int .i64 201, .int .i64 1, .int .i64 0, .int .u64 1, .int .u64 0, .int .u64 0, .int .u64 0, .int .u64 0, .int .u64 0, .int .i64 0, .int .u32 0, .int .i64 0, .int .i64 0, .int .i64 0, .int .u64 0, .int .i64 0, .int .i64 0, .int .u64 0, .slice none 0 0, .bool false, .int .i64 0, .slice none 0 0, .slice ua l.length uc, .slice none 0 0] 48 (0, 0)) := by rw [hW]; exact blkU_set_other (blkU_set_other (blkU_set_other g1 _ _ HNE.out) _ _ HNE.out) _ _ HNE.out
  have h2 : W.heap[w.heap.size + 1]? = some (.cells #[.int .i64 0, .int .i64 0, .int .i64 0, .int .i64 0, .int .u64 1, .int .u64 0, .int .u64 0, .int .u64 0, .int .u64 0, .int .u64 0, .int .i64 0, .int .u32 0, .int .i64 0, .int .i64 0, .int .i64 0, .int .u64 0, .int .i64 0, .int .i64 0, .int .u64 0, .slice none 0 0, .bool false, .int .i64 0, .slice none 0 0, .slice ua l.length uc, .slice none 0 0] 48 (0, 0)) := by
    have a0 : (W0.setCell ⟨w.heap.size + 1, 0, none⟩ (.int .i64 0)).heap[w.heap.size + 1]? = some (.cells #[.int .i64 0, .int .i64 201, .int .i64 1, .int .i64 0, .int .u64 1, .int .u64 0, .int .u64 0, .int .u64 0, .int .u64 0, .int .u64 0, .int .i64 0, .int .u32 0, .int .i64 0, .int .i64 0, .int .i64 0, .int .u64 0, .int .i64 0, .int .i64 0, .int .u64 0, .slice none 0 0, .bool false, .int .i64 0, .slice none 0 0, .slice ua l.length uc, .slice none 0 0] 48 (0, 0)) := blkU_set g2 0 _
    have a1 : ((W0.setCell ⟨w.heap.size + 1, 0, none⟩ (.int .i64 0)).setCell ⟨w.heap.size + 1, 1, none⟩ (.int .i64 0)).heap[w.heap.size + 1]? = some (.cells #[.int .i64 0, .int .i64 0, .int .i64 1, .int .i64 0, .int .u64 1, .int .u64 0, .int .u64 0, .int .u64 0, .int .u64 0, .int .u64 0, .int .i64 0, .int .u32 0, .int .i64 0, .int .i64 0, .int .i64 0, .int .u64 0, .int .i64 0, .int .i64 0, .int .u64 0, .slice none 0 0, .bool false, .int .i64 0, .slice none 0 0, .slice ua l.length uc, .slice none 0 0] 48 (0, 0)) := blkU_set a0 1 _
    rw [hW]
    exact blkU_set a1 2 _
  have hkW : Kept NoB w W := by
    rw [hW]
    exact ((kW0.setCell (p := ⟨w.heap.size + 1, 0, none⟩) (.inr (by show w.heap.size ≤ w.heap.size + 1; omega)) _).setCell (p := ⟨w.heap.size + 1, 1, none⟩) (.inr (by show w.heap.size ≤ w.heap.size + 1; omega)) _).setCell (p := ⟨w.heap.size + 1, 2, none⟩) (.inr (by show w.heap.size ≤ w.heap.size + 1; omega)) _
  have hsW : W.heap.size = w.heap.size + 2 := by rw [hW]; simp [World.setCell, sW0]
  have d0 : W0.cell? ⟨w.heap.size + 1, 0, none⟩ = some (.int .i64 12) := cell_of_row _ _ 0 _ _ _ g2
  have d1 : W0.cell? ⟨w.heap.size + 1, 1, none⟩ = some (.int .i64 201) := cell_of_row _ _ 1 _ _ _ g2
  have d2 : W0.cell? ⟨w.heap.size + 1, 2, none⟩ = some (.int .i64 1) := cell_of_row _ _ 2 _ _ _ g2
  have z0 := blkU_frozen g2
  have e0 : W.cell? ⟨w.heap.size, 0, none⟩ = some (.int .i64 12) := cell_of_row _ _ 0 _ _ _ h1
  clear g1 g2 kW0 sW0
  have HH1 := Lib.hid h1
  have HH2 := Lib.hid h2
  have HKW := Lib.hid hkW
  have HSW := Lib.hid hsW
  have HX := Lib.hid (hx.no hkW)
  have HF := Lib.hid hF
  have HTB := Lib.hid (ht.kept hkW (fun h => h))
  have HW := Lib.hid hW
  have HIK := Lib.hid (fun w => LisKind_any w 12)
  have HA1 := Lib.hid (fun w => LAddress_any w 201)
  have HA2 := Lib.hid (fun w => LAddress_any w 1)
  have hik : kindB 12 = true := by decide
  have ha1 : addrB 201 = true := by decide
  have ha2 : addrB 1 = true := by decide
  rw [hik] at HIK
  rw [ha1] at HA1
  rw [ha2] at HA2
  have HPO := Lib.hid (partsOf_12 W HTB.out)
  have c0 : (w.alloc (.cells #[.int .i64 12, .int .i64 201, .int .i64 1, .int .i64 0, .int .u64 1, .int .u64 0, .int .u64 0, .int .u64 0, .int .u64 0, .int .u64 0, .int .i64 0, .int .u32 0, .int .i64 0, .int .i64 0, .int .i64 0, .int .u64 0, .int .i64 0, .int .i64 0, .int .u64 0, .slice none 0 0, .bool false, .int .i64 0, .slice none 0 0, .slice ua l.length uc, .slice none 0 0] 48 (0, 0))).cell? ⟨w.heap.size, 0, none⟩ = some (.int .i64 12) := cell_of_row _ _ 0 _ _ _ (heap_alloc_new w _)
  have c1 : (w.alloc (.cells #[.int .i64 12, .int .i64 201, .int .i64 1, .int .i64 0, .int .u64 1, .int .u64 0, .int .u64 0, .int .u64 0, .int .u64 0, .int .u64 0, .int .i64 0, .int .u32 0, .int .i64 0, .int .i64 0, .int .i64 0, .int .u64 0, .int .i64 0, .int .i64 0, .int .u64 0, .slice none 0 0, .bool false, .int .i64 0, .slice none 0 0, .slice ua l.length uc, .slice none 0 0] 48 (0, 0))).cell? ⟨w.heap.size, 1, none⟩ = some (.int .i64 201) := cell_of_row _ _ 1 _ _ _ (heap_alloc_new w _)
  have c2 : (w.alloc (.cells #[.int .i64 12, .int .i64 201, .int .i64 1, .int .i64 0, .int .u64 1, .int .u64 0, .int .u64 0, .int .u64 0, .int .u64 0, .int .u64 0, .int .i64 0, .int .u32 0, .int .i64 0, .int .i64 0, .int .i64 0, .int .u64 0, .int .i64 0, .int .i64 0, .int .u64 0, .slice none 0 0, .bool false, .int .i64 0, .slice none 0 0, .slice ua l.length uc, .slice none 0 0] 48 (0, 0))).cell? ⟨w.heap.size, 2, none⟩ = some (.int .i64 1) := cell_of_row _ _ 2 _ _ _ (heap_alloc_new w _)
  clear h1 h2 hkW hsW hx ht hF hik ha1 ha2 hW
  go_enter Tryz.func20, Tryz.ntmps20
  go_wp2_with fail
  refine (HIK.out _).mono ?_
  rintro e w1 ⟨rfl, rfl⟩
  go_wp2_with fail
  refine (HA1.out _).mono ?_
  rintro e w1 ⟨rfl, rfl⟩
  go_wp2_with fail
  refine (HA2.out _).mono ?_
  rintro e w1 ⟨rfl, rfl⟩
  have HG0 := Lib.hid (heap_alloc_new w (.cells #[.int .i64 12, .int .i64 201, .int .i64 1, .int .i64 0, .int .u64 1, .int .u64 0, .int .u64 0, .int .u64 0, .int .u64 0, .int .u64 0, .int .i64 0, .int .u32 0, .int .i64 0, .int .i64 0, .int .i64 0, .int .u64 0, .int .i64 0, .int .i64 0, .int .u64 0, .slice none 0 0, .bool false, .int .i64 0, .slice none 0 0, .slice ua l.length uc, .slice none 0 0] 48 (0, 0)))
  clear c0 c1 c2
  have hone : (#[.int .i64 12, .int .i64 201, .int .i64 1, .int .i64 0, .int .u64 1, .int .u64 0, .int .u64 0, .int .u64 0, .int .u64 0, .int .u64 0, .int .i64 0, .int .u32 0, .int .i64 0, .int .i64 0, .int .i64 0, .int .u64 0, .int .i64 0, .int .i64 0, .int .u64 0, .slice none 0 0, .bool false, .int .i64 0, .slice none 0 0, .slice ua l.length uc, .slice none 0 0] : Array Value).all (·.oneCell') = true := by rw [← Array.all_toList]; rfl
  have HONE := Lib.hid hone
  clear hone
  go_upto_region 7 with (first
    | (refine wpList_load_row rfl 48 _ rfl w.heap.size rfl 48 #[.int .i64 12, .int .i64 201, .int .i64 1, .int .i64 0, .int .u64 1, .int .u64 0, .int .u64 0, .int .u64 0, .int .u64 0, .int .u64 0, .int .i64 0, .int .u32 0, .int .i64 0, .int .i64 0, .int .i64 0, .int .u64 0, .int .i64 0, .int .i64 0, .int .u64 0, .slice none 0 0, .bool false, .int .i64 0, .slice none 0 0, .slice ua l.length uc, .slice none 0 0] (0, 0) _ HG0.out Tryz.underlying48 rfl (by kernel_rfl) ?_)
    | (refine wpList_store_row rfl 48 _ _ rfl (w.heap.size + 1) #[.int .i64 12, .int .i64 201, .int .i64 1, .int .i64 0, .int .u64 1, .int .u64 0, .int .u64 0, .int .u64 0, .int .u64 0, .int .u64 0, .int .i64 0, .int .u32 0, .int .i64 0, .int .i64 0, .int .i64 0, .int .u64 0, .int .i64 0, .int .i64 0, .int .u64 0, .slice none 0 0, .bool false, .int .i64 0, .slice none 0 0, .slice ua l.length uc, .slice none 0 0] rfl rfl 48 #[.int .i64 0, .int .i64 0, .int .i64 0, .int .i64 0, .int .u64 0, .int .u64 0, .int .u64 0, .int .u64 0, .int .u64 0, .int .u64 0, .int .i64 0, .int .u32 0, .int .i64 0, .int .i64 0, .int .i64 0, .int .u64 0, .int .i64 0, .int .i64 0, .int .u64 0, .slice none 0 0, .bool false, .int .i64 0, .slice none 0 0, .slice none 0 0, .slice none 0 0] HGZ.out (by kernel_rfl) rfl HONE.out ?_; rw [HSR.out]))
  rw [← HW.out]
  clear d0 d1 d2 z0
  go_wp2_with fail
  refine HPO.out.mono ?_
  rintro e w1 ⟨pa, pc, ps, rfl, hrow, hps, hk⟩
  have HROW := Lib.hid hrow
  have HPS := Lib.hid hps
  have HK1 := Lib.hid hk
  have HR1 := Lib.hid (hk.heap (fun h => h) HH1.out)
  have HR2 := Lib.hid (hk.heap (fun h => h) HH2.out)
  have HX1 := Lib.hid (HX.out.no hk)
  clear hrow hps hk
  go_wp2
  generalize Value.agg #[.int .i64 12, .int .i64 201, .int .i64 1, .int .i64 0, .int .u64 1, .int .u64 0, .int .u64 0, .int .u64 0, .int .u64 0, .int .u64 0, .int .i64 0, .int .u32 0, .int .i64 0, .int .i64 0, .int .i64 0, .int .u64 0, .int .i64 0, .int .i64 0, .int .u64 0, .slice none 0 0, .bool false, .int .i64 0, .slice none 0 0, .slice ua l.length uc, .slice none 0 0] = LV0
  go_loopw [28] (ChkRel12 w w1 (w.heap.size + 1) ua uc l) (fun j _ => 5 - (RowKit.intOf j).toNat)
  case atStart => exact ⟨0, by omega, rfl, HR2.out, fun h => absurd h (by omega), Kept.refl _ _⟩
  case round =>
    obtain ⟨j, hj, rfl, hg2, hfin, hK⟩ := hrel
    have HFIN := Lib.hid hfin
    have hsB : ∀ k, W.heap.size ≤ k → ¬ k = w.heap.size + 1 := fun k hk => by have := HSW.out; omega
    have HG2 := Lib.hid hg2
    have HKR := Lib.hid hK
    have HRW := Lib.hid (HROW.out.kept hK hsB)
    have HPR := Lib.hid (HPS.out.kept hK hsB)
    have HG1 := Lib.hid (hK.heap (k := w.heap.size) (by omega) HR1.out)
    have HXR := Lib.hid (HX1.out.kept hK (fun k hf => by have := HF.out k hf; omega))
    clear hg2 hK hsB hfin
    have hcase : j = 0 ∨ j = 1 ∨ j = 2 ∨ j = 3 ∨ j = 4 ∨ j = 5 := by omega
    clear hj
    rcases hcase with rfl | rfl | rfl | rfl | rfl | rfl

    · as_aux_lemma =>
        have hjj : jN 0 = 0 := rfl
        rw [hjj] at *
        clear hjj
        have hlen : ps.length = 5 := HPR.out.1
        obtain ⟨r, rfl, hBr, f0, f1, f2, f3⟩ := HRW.out.at_ (j := 0) (by omega)
        have hp : Part1 W.heap.size wr (q4v (ps.getD 0 q40)) := HPR.out.2 0 (by decide)
        have hgd : ps.getD 0 q40 = ps[0]'(by omega) := by rw [List.getD_eq_getElem?_getD, List.getElem?_eq_getElem (by omega)]; rfl
        rw [hgd] at hp
        obtain ⟨bm, hbm, hm, s, bw, hs, hbw, he, a1, a2, a3, a4, a5⟩ := hp
        obtain ⟨i0, i1, i2, i3⟩ := q4_inj he
        rw [i0] at f0
        rw [i1] at f1
        rw [i2] at f2
        rw [i3] at f3
        simp only [Nat.reduceMul, Nat.reduceAdd, Nat.zero_mul, Nat.zero_add] at f0 f1 f2 f3
        have hsI : W.heap.size ≤ s := hs
        have hka := (Kept.refl NoB wr).alloc (.cells #[(.func (.func 192) #[] #[pb s, pb (s + 3)]), (.func (.func 193) #[] #[pb (s + 1), pb (s + 3)]), (.func (.func 194) #[] #[pb (s + 2), pb (s + 3)]), (.func (.func 195) #[] #[pb (s + 3)])] 112 (0, 0))
        obtain ⟨b0, b1, b2, b3⟩ := cells4p (heap_alloc_new wr (.cells #[(.func (.func 192) #[] #[pb s, pb (s + 3)]), (.func (.func 193) #[] #[pb (s + 1), pb (s + 3)]), (.func (.func 194) #[] #[pb (s + 2), pb (s + 3)]), (.func (.func 195) #[] #[pb (s + 3)])] 112 (0, 0)))
        have HB := Lib.hid (heap_alloc_new wr (.cells #[(.func (.func 192) #[] #[pb s, pb (s + 3)]), (.func (.func 193) #[] #[pb (s + 1), pb (s + 3)]), (.func (.func 194) #[] #[pb (s + 2), pb (s + 3)]), (.func (.func 195) #[] #[pb (s + 3)])] 112 (0, 0)))
        have hR := right_1 _ w.heap.size s bm 0 (hm.no hka) (a1.no hka) (a4.no hka) (hka.cell (p := ⟨w.heap.size, 3, none⟩) (fun h => h) (let12_3 HG1.out))
        have HKA := Lib.hid hka
        have HA4 := Lib.hid a4
        have hent1 : ∀ (args : Array Value) (w : World), Sem.run Tryz.prog (callFunc 192 args) w = .ok (.enter 192 args) w := fun args w => by kernel_rfl
        have hent4 : ∀ (args : Array Value) (w : World), Sem.run Tryz.prog (callFunc 195 args) w = .ok (.enter 195 args) w := fun args w => by kernel_rfl
        rw [(by decide : (decide ((0 : Int) ≤ 0) && decide ((0 : Int) ≤ 3)) = true)] at hR
        have HRI := Lib.hid hR
        clear hka a1 a2 a3 a4 he i0 i1 i2 i3 hs hgd hBr hm hbm hbw a5 hR
        go_wp2_with fail
        refine HRI.out.mono ?_
        rintro e w2 ⟨rfl, hk2⟩
        have hb2 := hk2.heap (fun h => h) HB.out
        obtain ⟨b0, b1, b2, b3⟩ := cells4p hb2
        have hg2 := (HKA.out.trans hk2 (fun _ _ h => h)).heap (fun h => h) HG2.out
        have HG := Lib.hid hg2
        have HD := Lib.hid (drop_1 w2 (w.heap.size + 1) (s + 3) _ (HA4.out.no (HKA.out.trans hk2 (fun _ _ h => h))) hg2 (rest12_len0 _ _ _))
        have HK2 := Lib.hid (HKR.out.trans (HKA.out.trans hk2 (fun _ _ h => h)) (fun _ _ h => absurd h (fun h => h)))
        clear hk2 hb2 hg2
        go_wp2_with fail
        refine HD.out.mono ?_
        rintro e w3 ⟨rfl, rfl⟩
        go_wp2
        exact ⟨⟨1, by omega, rfl, rest12_row0 HG.out, fun h => absurd h (by omega), HK2.out.setCell (p := ⟨w.heap.size + 1, 3, none⟩) (.inl rfl) _⟩, by simp [RowKit.intOf, jN]⟩
    · as_aux_lemma =>
        have hjj : jN 1 = 1 := rfl
        rw [hjj] at *
        clear hjj
        have hlen : ps.length = 5 := HPR.out.1
        obtain ⟨r, rfl, hBr, f0, f1, f2, f3⟩ := HRW.out.at_ (j := 1) (by omega)
        have hp : Part2 W.heap.size wr (q4v (ps.getD 1 q40)) := HPR.out.2 1 (by decide)
        have hgd : ps.getD 1 q40 = ps[1]'(by omega) := by rw [List.getD_eq_getElem?_getD, List.getElem?_eq_getElem (by omega)]; rfl
        rw [hgd] at hp
        obtain ⟨s, bw, hs, hbw, he, a1, a2, a3, a4, a5⟩ := hp
        obtain ⟨i0, i1, i2, i3⟩ := q4_inj he
        rw [i0] at f0
        rw [i1] at f1
        rw [i2] at f2
        rw [i3] at f3
        simp only [Nat.reduceMul, Nat.reduceAdd, Nat.zero_mul, Nat.zero_add] at f0 f1 f2 f3
        have hsI : W.heap.size ≤ s := hs
        have hka := (Kept.refl NoB wr).alloc (.cells #[(.func (.func 187) #[] #[pb s, pb (s + 3)]), (.func (.func 188) #[] #[pb (s + 1), pb (s + 3)]), (.func (.func 189) #[] #[pb (s + 2), pb (s + 3)]), (.func (.func 190) #[] #[pb (s + 3)])] 112 (0, 0))
        obtain ⟨b0, b1, b2, b3⟩ := cells4p (heap_alloc_new wr (.cells #[(.func (.func 187) #[] #[pb s, pb (s + 3)]), (.func (.func 188) #[] #[pb (s + 1), pb (s + 3)]), (.func (.func 189) #[] #[pb (s + 2), pb (s + 3)]), (.func (.func 190) #[] #[pb (s + 3)])] 112 (0, 0)))
        have HB := Lib.hid (heap_alloc_new wr (.cells #[(.func (.func 187) #[] #[pb s, pb (s + 3)]), (.func (.func 188) #[] #[pb (s + 1), pb (s + 3)]), (.func (.func 189) #[] #[pb (s + 2), pb (s + 3)]), (.func (.func 190) #[] #[pb (s + 3)])] 112 (0, 0)))
        have hR := right_2 _ w.heap.size s 1 (a1.no hka) (a4.no hka) (hka.cell (p := ⟨w.heap.size, 4, none⟩) (fun h => h) (let12_4 HG1.out))
        have HKA := Lib.hid hka
        have HA4 := Lib.hid a4
        have hent1 : ∀ (args : Array Value) (w : World), Sem.run Tryz.prog (callFunc 187 args) w = .ok (.enter 187 args) w := fun args w => by kernel_rfl
        have hent4 : ∀ (args : Array Value) (w : World), Sem.run Tryz.prog (callFunc 190 args) w = .ok (.enter 190 args) w := fun args w => by kernel_rfl
        rw [(by decide : decide ((1 : Int) ≤ 1) = true)] at hR
        have HRI := Lib.hid hR
        clear hka a1 a2 a3 a4 he i0 i1 i2 i3 hs hgd hBr hbw a5 hR
        go_wp2_with fail
        refine HRI.out.mono ?_
        rintro e w2 ⟨rfl, hk2⟩
        have hb2 := hk2.heap (fun h => h) HB.out
        obtain ⟨b0, b1, b2, b3⟩ := cells4p hb2
        have hg2 := (HKA.out.trans hk2 (fun _ _ h => h)).heap (fun h => h) HG2.out
        have HG := Lib.hid hg2
        have HD := Lib.hid (drop_2 w2 (w.heap.size + 1) (s + 3) _ (HA4.out.no (HKA.out.trans hk2 (fun _ _ h => h))) hg2 (rest12_len1 _ _ _))
        have HK2 := Lib.hid (HKR.out.trans (HKA.out.trans hk2 (fun _ _ h => h)) (fun _ _ h => absurd h (fun h => h)))
        clear hk2 hb2 hg2
        go_wp2_with fail
        refine HD.out.mono ?_
        rintro e w3 ⟨rfl, rfl⟩
        go_wp2
        exact ⟨⟨2, by omega, rfl, rest12_row1 HG.out, fun h => absurd h (by omega), HK2.out.setCell (p := ⟨w.heap.size + 1, 4, none⟩) (.inl rfl) _⟩, by simp [RowKit.intOf, jN]⟩
    · as_aux_lemma =>
        have hjj : jN 2 = 2 := rfl
        rw [hjj] at *
        clear hjj
        have hlen : ps.length = 5 := HPR.out.1
        obtain ⟨r, rfl, hBr, f0, f1, f2, f3⟩ := HRW.out.at_ (j := 2) (by omega)
        have hp : Part3 W.heap.size wr (q4v (ps.getD 2 q40)) := HPR.out.2 2 (by decide)
        have hgd : ps.getD 2 q40 = ps[2]'(by omega) := by rw [List.getD_eq_getElem?_getD, List.getElem?_eq_getElem (by omega)]; rfl
        rw [hgd] at hp
        obtain ⟨s, bw, hs, hbw, he, a1, a2, a3, a4, a5⟩ := hp
        obtain ⟨i0, i1, i2, i3⟩ := q4_inj he
        rw [i0] at f0
        rw [i1] at f1
        rw [i2] at f2
        rw [i3] at f3
        simp only [Nat.reduceMul, Nat.reduceAdd, Nat.zero_mul, Nat.zero_add] at f0 f1 f2 f3
        have hsI : W.heap.size ≤ s := hs
        have hka := (Kept.refl NoB wr).alloc (.cells #[(.func (.func 187) #[] #[pb s, pb (s + 3)]), (.func (.func 188) #[] #[pb (s + 1), pb (s + 3)]), (.func (.func 189) #[] #[pb (s + 2), pb (s + 3)]), (.func (.func 190) #[] #[pb (s + 3)])] 112 (0, 0))
        obtain ⟨b0, b1, b2, b3⟩ := cells4p (heap_alloc_new wr (.cells #[(.func (.func 187) #[] #[pb s, pb (s + 3)]), (.func (.func 188) #[] #[pb (s + 1), pb (s + 3)]), (.func (.func 189) #[] #[pb (s + 2), pb (s + 3)]), (.func (.func 190) #[] #[pb (s + 3)])] 112 (0, 0)))
        have HB := Lib.hid (heap_alloc_new wr (.cells #[(.func (.func 187) #[] #[pb s, pb (s + 3)]), (.func (.func 188) #[] #[pb (s + 1), pb (s + 3)]), (.func (.func 189) #[] #[pb (s + 2), pb (s + 3)]), (.func (.func 190) #[] #[pb (s + 3)])] 112 (0, 0)))
        have hR := right_3 _ w.heap.size s 0 (a1.no hka) (a4.no hka) (hka.cell (p := ⟨w.heap.size, 7, none⟩) (fun h => h) (let12_7 HG1.out))
        have HKA := Lib.hid hka
        have HA4 := Lib.hid a4
        have hent1 : ∀ (args : Array Value) (w : World), Sem.run Tryz.prog (callFunc 187 args) w = .ok (.enter 187 args) w := fun args w => by kernel_rfl
        have hent4 : ∀ (args : Array Value) (w : World), Sem.run Tryz.prog (callFunc 190 args) w = .ok (.enter 190 args) w := fun args w => by kernel_rfl
        rw [(rfl : true = true)] at hR
        have HRI := Lib.hid hR
        clear hka a1 a2 a3 a4 he i0 i1 i2 i3 hs hgd hBr hbw a5 hR
        go_wp2_with fail
        refine HRI.out.mono ?_
        rintro e w2 ⟨rfl, hk2⟩
        have hb2 := hk2.heap (fun h => h) HB.out
        obtain ⟨b0, b1, b2, b3⟩ := cells4p hb2
        have hg2 := (HKA.out.trans hk2 (fun _ _ h => h)).heap (fun h => h) HG2.out
        have HG := Lib.hid hg2
        have HD := Lib.hid (drop_3 w2 (w.heap.size + 1) (s + 3) _ (HA4.out.no (HKA.out.trans hk2 (fun _ _ h => h))) hg2 (rest12_len2 _ _ _))
        have HK2 := Lib.hid (HKR.out.trans (HKA.out.trans hk2 (fun _ _ h => h)) (fun _ _ h => absurd h (fun h => h)))
        clear hk2 hb2 hg2
        go_wp2_with fail
        refine HD.out.mono ?_
        rintro e w3 ⟨rfl, rfl⟩
        go_wp2
        exact ⟨⟨3, by omega, rfl, rest12_row2 HG.out, fun h => absurd h (by omega), HK2.out.setCell (p := ⟨w.heap.size + 1, 7, none⟩) (.inl rfl) _⟩, by simp [RowKit.intOf, jN]⟩
    · as_aux_lemma =>
        have hjj : jN 3 = 3 := rfl
        rw [hjj] at *
        clear hjj
        have hlen : ps.length = 5 := HPR.out.1
        obtain ⟨r, rfl, hBr, f0, f1, f2, f3⟩ := HRW.out.at_ (j := 3) (by omega)
        have hp : Part4 W.heap.size wr (q4v (ps.getD 3 q40)) := HPR.out.2 3 (by decide)
        have hgd : ps.getD 3 q40 = ps[3]'(by omega) := by rw [List.getD_eq_getElem?_getD, List.getElem?_eq_getElem (by omega)]; rfl
        rw [hgd] at hp
        obtain ⟨s, bw, hs, hbw, he, a1, a2, a3, a4, a5⟩ := hp
        obtain ⟨i0, i1, i2, i3⟩ := q4_inj he
        rw [i0] at f0
        rw [i1] at f1
        rw [i2] at f2
        rw [i3] at f3
        simp only [Nat.reduceMul, Nat.reduceAdd, Nat.zero_mul, Nat.zero_add] at f0 f1 f2 f3
        have hsI : W.heap.size ≤ s := hs
        have hka := (Kept.refl NoB wr).alloc (.cells #[(.func (.func 187) #[] #[pb s, pb (s + 3)]), (.func (.func 188) #[] #[pb (s + 1), pb (s + 3)]), (.func (.func 189) #[] #[pb (s + 2), pb (s + 3)]), (.func (.func 190) #[] #[pb (s + 3)])] 112 (0, 0))
        obtain ⟨b0, b1, b2, b3⟩ := cells4p (heap_alloc_new wr (.cells #[(.func (.func 187) #[] #[pb s, pb (s + 3)]), (.func (.func 188) #[] #[pb (s + 1), pb (s + 3)]), (.func (.func 189) #[] #[pb (s + 2), pb (s + 3)]), (.func (.func 190) #[] #[pb (s + 3)])] 112 (0, 0)))
        have HB := Lib.hid (heap_alloc_new wr (.cells #[(.func (.func 187) #[] #[pb s, pb (s + 3)]), (.func (.func 188) #[] #[pb (s + 1), pb (s + 3)]), (.func (.func 189) #[] #[pb (s + 2), pb (s + 3)]), (.func (.func 190) #[] #[pb (s + 3)])] 112 (0, 0)))
        have hR := right_4 _ w.heap.size s 0 (a1.no hka) (a4.no hka) (hka.cell (p := ⟨w.heap.size, 8, none⟩) (fun h => h) (let12_8 HG1.out))
        have HKA := Lib.hid hka
        have HA4 := Lib.hid a4
        have hent1 : ∀ (args : Array Value) (w : World), Sem.run Tryz.prog (callFunc 187 args) w = .ok (.enter 187 args) w := fun args w => by kernel_rfl
        have hent4 : ∀ (args : Array Value) (w : World), Sem.run Tryz.prog (callFunc 190 args) w = .ok (.enter 190 args) w := fun args w => by kernel_rfl
        rw [(rfl : true = true)] at hR
        have HRI := Lib.hid hR
        clear hka a1 a2 a3 a4 he i0 i1 i2 i3 hs hgd hBr hbw a5 hR
        go_wp2_with fail
        refine HRI.out.mono ?_
        rintro e w2 ⟨rfl, hk2⟩
        have hb2 := hk2.heap (fun h => h) HB.out
        obtain ⟨b0, b1, b2, b3⟩ := cells4p hb2
        have hg2 := (HKA.out.trans hk2 (fun _ _ h => h)).heap (fun h => h) HG2.out
        have HG := Lib.hid hg2
        have HD := Lib.hid (drop_4 w2 (w.heap.size + 1) (s + 3) _ (HA4.out.no (HKA.out.trans hk2 (fun _ _ h => h))) hg2 (rest12_len3 _ _ _))
        have HK2 := Lib.hid (HKR.out.trans (HKA.out.trans hk2 (fun _ _ h => h)) (fun _ _ h => absurd h (fun h => h)))
        clear hk2 hb2 hg2
        go_wp2_with fail
        refine HD.out.mono ?_
        rintro e w3 ⟨rfl, rfl⟩
        go_wp2
        exact ⟨⟨4, by omega, rfl, rest12_row3 HG.out, fun h => absurd h (by omega), HK2.out.setCell (p := ⟨w.heap.size + 1, 8, none⟩) (.inl rfl) _⟩, by simp [RowKit.intOf, jN]⟩
    · as_aux_lemma =>
        have hjj : jN 4 = 4 := rfl
        rw [hjj] at *
        clear hjj
        have hlen : ps.length = 5 := HPR.out.1
        obtain ⟨r, rfl, hBr, f0, f1, f2, f3⟩ := HRW.out.at_ (j := 4) (by omega)
        have hp : Part14 W.heap.size wr (q4v (ps.getD 4 q40)) := HPR.out.2 4 (by decide)
        have hgd : ps.getD 4 q40 = ps[4]'(by omega) := by rw [List.getD_eq_getElem?_getD, List.getElem?_eq_getElem (by omega)]; rfl
        rw [hgd] at hp
        obtain ⟨s, hs, he, a1, a2, a3, a4⟩ := hp
        obtain ⟨i0, i1, i2, i3⟩ := q4_inj he
        rw [i0] at f0
        rw [i1] at f1
        rw [i2] at f2
        rw [i3] at f3
        simp only [Nat.reduceMul, Nat.reduceAdd, Nat.zero_mul, Nat.zero_add] at f0 f1 f2 f3
        have hsI : W.heap.size ≤ s := hs
        have hka := (Kept.refl NoB wr).alloc (.cells #[(.func (.func 165) #[] #[pb s, pb (s + 3)]), (.func (.func 166) #[] #[pb (s + 1), pb (s + 3)]), (.func (.func 167) #[] #[pb (s + 2), pb (s + 3)]), (.func (.func 168) #[] #[pb (s + 3)])] 112 (0, 0))
        obtain ⟨b0, b1, b2, b3⟩ := cells4p (heap_alloc_new wr (.cells #[(.func (.func 165) #[] #[pb s, pb (s + 3)]), (.func (.func 166) #[] #[pb (s + 1), pb (s + 3)]), (.func (.func 167) #[] #[pb (s + 2), pb (s + 3)]), (.func (.func 168) #[] #[pb (s + 3)])] 112 (0, 0)))
        have HB := Lib.hid (heap_alloc_new wr (.cells #[(.func (.func 165) #[] #[pb s, pb (s + 3)]), (.func (.func 166) #[] #[pb (s + 1), pb (s + 3)]), (.func (.func 167) #[] #[pb (s + 2), pb (s + 3)]), (.func (.func 168) #[] #[pb (s + 3)])] 112 (0, 0)))
        have hR := right_14 _ w.heap.size s _ l F (HXR.out.no hka) (a1.no hka) (a4.no hka) (hka.cell (p := ⟨w.heap.size, 23, none⟩) (fun h => h) (let12_23 HG1.out))
        have HKA := Lib.hid hka
        have HA4 := Lib.hid a4
        have hent1 : ∀ (args : Array Value) (w : World), Sem.run Tryz.prog (callFunc 165 args) w = .ok (.enter 165 args) w := fun args w => by kernel_rfl
        have hent4 : ∀ (args : Array Value) (w : World), Sem.run Tryz.prog (callFunc 168 args) w = .ok (.enter 168 args) w := fun args w => by kernel_rfl
        have HRI := Lib.hid hR
        clear hka a1 a2 a3 a4 he i0 i1 i2 i3 hs hgd hBr hR
        cases hfine : areUs l with
        | true =>
          rw [hfine] at HRI
          have HFN := Lib.hid hfine
          clear hfine
          go_wp2_with fail
          refine HRI.out.mono ?_
          rintro e w2 ⟨rfl, hk2⟩
          have hb2 := hk2.heap (fun h => h) HB.out
          obtain ⟨b0, b1, b2, b3⟩ := cells4p hb2
          have hg2 := (HKA.out.trans hk2 (fun _ _ h => h)).heap (fun h => h) HG2.out
          have HG := Lib.hid hg2
          have HD := Lib.hid (drop_14 w2 (w.heap.size + 1) (s + 3) _ (HA4.out.no (HKA.out.trans hk2 (fun _ _ h => h))) hg2 (rest12_len4 _ _ _))
          have HK2 := Lib.hid (HKR.out.trans (HKA.out.trans hk2 (fun _ _ h => h)) (fun _ _ h => absurd h (fun h => h)))
          clear hk2 hb2 hg2
          go_wp2_with fail
          refine HD.out.mono ?_
          rintro e w3 ⟨rfl, rfl⟩
          go_wp2
          exact ⟨⟨5, by omega, rfl, rest12_row4 HG.out, fun _ => HFN.out, HK2.out.setCell (p := ⟨w.heap.size + 1, 23, none⟩) (.inl rfl) _⟩, by simp [RowKit.intOf, jN]⟩
        | false =>
          rw [hfine] at HRI
          have HFN := Lib.hid hfine
          clear hfine
          go_wp2_with fail
          refine HRI.out.mono ?_
          rintro e w2 ⟨rfl, hk2⟩
          have HK2 := Lib.hid (HKR.out.trans (HKA.out.trans hk2 (fun _ _ h => h)) (fun _ _ h => absurd h (fun h => h)))
          clear hk2
          go_wp2
          go_ret
          exact ⟨by rw [HEB.out.2 HFN.out]; rfl, (HKW.out.trans HK1.out (fun _ _ h => h)).trans HK2.out (fun i hi h => by omega)⟩
    · as_aux_lemma =>
        have hjj : jN 5 = 5 := rfl
        rw [hjj] at *
        clear hjj
        have HK3 := Lib.hid ((HKW.out.trans HK1.out (fun _ _ h => h)).trans HKR.out (fun i hi h => by omega))
        have hz := HG2.out
        rw [rest12_end] at hz
        go_wp2_with (refine wpList_load_row rfl 48 _ rfl (w.heap.size + 1) rfl 48 #[.int .i64 0, .int .i64 0, .int .i64 0, .int .i64 0, .int .u64 0, .int .u64 0, .int .u64 0, .int .u64 0, .int .u64 0, .int .u64 0, .int .i64 0, .int .u32 0, .int .i64 0, .int .i64 0, .int .i64 0, .int .u64 0, .int .i64 0, .int .i64 0, .int .u64 0, .slice none 0 0, .bool false, .int .i64 0, .slice none 0 0, .slice none 0 0, .slice none 0 0] (0, 0) _ hz Tryz.underlying48 rfl (by kernel_rfl) ?_)
        refine (LSame_zero _).mono ?_
        rintro e w2 ⟨rfl, hk2⟩
        have HK4 := Lib.hid (HK3.out.trans hk2 (fun _ _ h => h))
        clear hk2
        go_wp2
        go_ret
        exact ⟨by rw [HEB.out.1 (HFIN.out (by omega))]; rfl, HK4.out⟩
set_option maxRecDepth 100000 in
def RestSt17 (ua : Option Addr) (uc : Nat) (l : List Up) (j : Nat) : Array Value :=
  match j with
  | 0 => #[.int .i64 0, .int .i64 0, .int .i64 0, .int .i64 0, .int .u64 1, .int .u64 0, .int .u64 0, .int .u64 0, .int .u64 0, .int .u64 0, .int .i64 0, .int .u32 0, .int .i64 0, .int .i64 0, .int .i64 0, .int .u64 0, .int .i64 0, .int .i64 0, .int .u64 0, .slice none 0 0, .bool false, .int .i64 0, .slice none 0 0, .slice ua l.length uc, .slice none 0 0]
  | 1 => #[.int .i64 0, .int .i64 0, .int .i64 0, .int .i64 0, .int .u64 1, .int .u64 0, .int .u64 0, .int .u64 0, .int .u64 0, .int .u64 0, .int .i64 0, .int .u32 0, .int .i64 0, .int .i64 0, .int .i64 0, .int .u64 0, .int .i64 0, .int .i64 0, .int .u64 0, .slice none 0 0, .bool false, .int .i64 0, .slice none 0 0, .slice ua l.length uc, .slice none 0 0]
  | 2 => #[.int .i64 0, .int .i64 0, .int .i64 0, .int .i64 0, .int .u64 0, .int .u64 0, .int .u64 0, .int .u64 0, .int .u64 0, .int .u64 0, .int .i64 0, .int .u32 0, .int .i64 0, .int .i64 0, .int .i64 0, .int .u64 0, .int .i64 0, .int .i64 0, .int .u64 0, .slice none 0 0, .bool false, .int .i64 0, .slice none 0 0, .slice ua l.length uc, .slice none 0 0]
  | 3 => #[.int .i64 0, .int .i64 0, .int .i64 0, .int .i64 0, .int .u64 0, .int .u64 0, .int .u64 0, .int .u64 0, .int .u64 0, .int .u64 0, .int .i64 0, .int .u32 0, .int .i64 0, .int .i64 0, .int .i64 0, .int .u64 0, .int .i64 0, .int .i64 0, .int .u64 0, .slice none 0 0, .bool false, .int .i64 0, .slice none 0 0, .slice none 0 0, .slice none 0 0]
  | _ => #[.int .i64 0, .int .i64 0, .int .i64 0, .int .i64 0, .int .u64 0, .int .u64 0, .int .u64 0, .int .u64 0, .int .u64 0, .int .u64 0, .int .i64 0, .int .u32 0, .int .i64 0, .int .i64 0, .int .i64 0, .int .u64 0, .int .i64 0, .int .i64 0, .int .u64 0, .slice none 0 0, .bool false, .int .i64 0, .slice none 0 0, .slice none 0 0, .slice none 0 0]
def ChkRel17 (w W : World) (g : Nat) (ua : Option Addr) (uc : Nat) (l : List Up) (jv : Value) (wr : World) : Prop :=
  ∃ j, j ≤ 3 ∧ jv = .int .i64 (jN j) ∧ wr.heap[g]? = some (.cells (RestSt17 ua uc l j) 48 (0, 0)) ∧ (3 ≤ j → areReq l = true) ∧ Kept (fun k => k = g) W wr
theorem rest17_set0 (ua : Option Addr) (uc : Nat) (l : List Up) : (RestSt17 ua uc l 0).setIfInBounds 3 (.int .i64 0) = RestSt17 ua uc l 1 := by rfl
theorem rest17_row0 {w : World} {g : Nat} {ua : Option Addr} {uc : Nat} {l : List Up} (h : w.heap[g]? = some (.cells (RestSt17 ua uc l 0) 48 (0, 0))) : (w.setCell ⟨g, 3, none⟩ (.int .i64 0)).heap[g]? = some (.cells (RestSt17 ua uc l 1) 48 (0, 0)) := by rw [← rest17_set0]; exact blkU_set h 3 _
theorem rest17_len0 (ua : Option Addr) (uc : Nat) (l : List Up) : (RestSt17 ua uc l 0).size = 25 := by rfl
theorem rest17_set1 (ua : Option Addr) (uc : Nat) (l : List Up) : (RestSt17 ua uc l 1).setIfInBounds 4 (.int .u64 0) = RestSt17 ua uc l 2 := by rfl
theorem rest17_row1 {w : World} {g : Nat} {ua : Option Addr} {uc : Nat} {l : List Up} (h : w.heap[g]? = some (.cells (RestSt17 ua uc l 1) 48 (0, 0))) : (w.setCell ⟨g, 4, none⟩ (.int .u64 0)).heap[g]? = some (.cells (RestSt17 ua uc l 2) 48 (0, 0)) := by rw [← rest17_set1]; exact blkU_set h 4 _
theorem rest17_len1 (ua : Option Addr) (uc : Nat) (l : List Up) : (RestSt17 ua uc l 1).size = 25 := by rfl
theorem rest17_set2 (ua : Option Addr) (uc : Nat) (l : List Up) : (RestSt17 ua uc l 2).setIfInBounds 23 (.slice none 0 0) = RestSt17 ua uc l 3 := by rfl
theorem rest17_row2 {w : World} {g : Nat} {ua : Option Addr} {uc : Nat} {l : List Up} (h : w.heap[g]? = some (.cells (RestSt17 ua uc l 2) 48 (0, 0))) : (w.setCell ⟨g, 23, none⟩ (.slice none 0 0)).heap[g]? = some (.cells (RestSt17 ua uc l 3) 48 (0, 0)) := by rw [← rest17_set2]; exact blkU_set h 23 _
theorem rest17_len2 (ua : Option Addr) (uc : Nat) (l : List Up) : (RestSt17 ua uc l 2).size = 25 := by rfl
theorem rest17_end (ua : Option Addr) (uc : Nat) (l : List Up) : RestSt17 ua uc l 3 = #[.int .i64 0, .int .i64 0, .int .i64 0, .int .i64 0, .int .u64 0, .int .u64 0, .int .u64 0, .int .u64 0, .int .u64 0, .int .u64 0, .int .i64 0, .int .u32 0, .int .i64 0, .int .i64 0, .int .i64 0, .int .u64 0, .int .i64 0, .int .i64 0, .int .u64 0, .slice none 0 0, .bool false, .int .i64 0, .slice none 0 0, .slice none 0 0, .slice none 0 0] := by rfl
theorem let17_3 {w : World} {g : Nat} {ua : Option Addr} {uc : Nat} {l : List Up} (h : w.heap[g]? = some (.cells #[.int .i64 17, .int .i64 201, .int .i64 1, .int .i64 0, .int .u64 1, .int .u64 0, .int .u64 0, .int .u64 0, .int .u64 0, .int .u64 0, .int .i64 0, .int .u32 0, .int .i64 0, .int .i64 0, .int .i64 0, .int .u64 0, .int .i64 0, .int .i64 0, .int .u64 0, .slice none 0 0, .bool false, .int .i64 0, .slice none 0 0, .slice ua l.length uc, .slice none 0 0] 48 (0, 0))) : w.cell? ⟨g, 3, none⟩ = some (.int .i64 0) := cell_of_row _ _ 3 _ _ _ h
theorem let17_4 {w : World} {g : Nat} {ua : Option Addr} {uc : Nat} {l : List Up} (h : w.heap[g]? = some (.cells #[.int .i64 17, .int .i64 201, .int .i64 1, .int .i64 0, .int .u64 1, .int .u64 0, .int .u64 0, .int .u64 0, .int .u64 0, .int .u64 0, .int .i64 0, .int .u32 0, .int .i64 0, .int .i64 0, .int .i64 0, .int .u64 0, .int .i64 0, .int .i64 0, .int .u64 0, .slice none 0 0, .bool false, .int .i64 0, .slice none 0 0, .slice ua l.length uc, .slice none 0 0] 48 (0, 0))) : w.cell? ⟨g, 4, none⟩ = some (.int .u64 1) := cell_of_row _ _ 4 _ _ _ h
theorem let17_23 {w : World} {g : Nat} {ua : Option Addr} {uc : Nat} {l : List Up} (h : w.heap[g]? = some (.cells #[.int .i64 17, .int .i64 201, .int .i64 1, .int .i64 0, .int .u64 1, .int .u64 0, .int .u64 0, .int .u64 0, .int .u64 0, .int .u64 0, .int .i64 0, .int .u32 0, .int .i64 0, .int .i64 0, .int .i64 0, .int .u64 0, .int .i64 0, .int .i64 0, .int .u64 0, .slice none 0 0, .bool false, .int .i64 0, .slice none 0 0, .slice ua l.length uc, .slice none 0 0] 48 (0, 0))) : w.cell? ⟨g, 23, none⟩ = some (.slice ua l.length uc) := cell_of_row _ _ 23 _ _ _ h
set_option maxRecDepth 100000 in
set_option maxHeartbeats 4000000 in
theorem LCheck_17 (w : World) (ua : Option Addr) (uc : Nat) (l : List Up) (F : Nat → Prop) (hx : UsAt w F (.slice ua l.length uc) l) (hF : ∀ k, F k → k < w.heap.size) (ht : Tab10 w) : Calls Tryz.prog 20 #[.agg #[.int .i64 17, .int .i64 201, .int .i64 1, .int .i64 0, .int .u64 1, .int .u64 0, .int .u64 0, .int .u64 0, .int .u64 0, .int .u64 0, .int .i64 0, .int .u32 0, .int .i64 0, .int .i64 0, .int .i64 0, .int .u64 0, .int .i64 0, .int .i64 0, .int .u64 0, .slice none 0 0, .bool false, .int .i64 0, .slice none 0 0, .slice ua l.length uc, .slice none 0 0]] w fun e w' => e = .returned (.int .i64 (if areReq l then 0 else 4)) ∧ Kept NoB w w' := by
  obtain ⟨eb, heb⟩ : ∃ x : Int, x = if areReq l then 0 else 4 := ⟨_, rfl⟩
  rw [← heb]
  have HEB : Hid ((areReq l = true → eb = 0) ∧ (areReq l = false → eb = 4)) := Lib.hid ⟨fun h => by rw [heb, h]; rfl, fun h => by rw [heb, h]; rfl⟩
  clear heb
  obtain ⟨W0, hW0⟩ : ∃ W0, W0 = (w.alloc (.cells #[.int .i64 17, .int .i64 201, .int .i64 1, .int .i64 0, .int .u64 1, .int .u64 0, .int .u64 0, .int .u64 0, .int .u64 0, .int .u64 0, .int .i64 0, .int .u32 0, .int .i64 0, .int .i64 0, .int .i64 0, .int .u64 0, .int .i64 0, .int .i64 0, .int .u64 0, .slice none 0 0, .bool false, .int .i64 0, .slice none 0 0, .slice ua l.length uc, .slice none 0 0] 48 (0, 0))).alloc (.cells #[.int .i64 17, .int .i64 201, .int .i64 1, .int .i64 0, .int .u64 1, .int .u64 0, .int .u64 0, .int .u64 0, .int .u64 0, .int .u64 0, .int .i64 0, .int .u32 0, .int .i64 0, .int .i64 0, .int .i64 0, .int .u64 0, .int .i64 0, .int .i64 0, .int .u64 0, .slice none 0 0, .bool false, .int .i64 0, .slice none 0 0, .slice ua l.length uc, .slice none 0 0] 48 (0, 0)) := ⟨_, rfl⟩
  have g1 : W0.heap[w.heap.size]? = some (.cells #[.int .i64 17, .int .i64 201, .int .i64 1, .int .i64 0, .int .u64 1, .int .u64 0, .int .u64 0, .int .u64 0, .int .u64 0, .int .u64 0, .int .i64 0, .int .u32 0, .int .i64 0, .int .i64 0, .int .i64 0, .int .u64 0, .int .i64 0, .int .i64 0, .int .u64 0, .slice none 0 0, .bool false, .int .i64 0, .slice none 0 0, .slice ua l.length uc, .slice none 0 0] 48 (0, 0)) := by rw [hW0]; exact blkU_alloc (heap_alloc_new w _) _
  have g2 : W0.heap[w.heap.size + 1]? = some (.cells #[.int .i64 17, .int .i64 201, .int .i64 1, .int .i64 0, .int .u64 1, .int .u64 0, .int .u64 0, .int .u64 0, .int .u64 0, .int .u64 0, .int .i64 0, .int .u32 0, .int .i64 0, .int .i64 0, .int .i64 0, .int .u64 0, .int .i64 0, .int .i64 0, .int .u64 0, .slice none 0 0, .bool false, .int .i64 0, .slice none 0 0, .slice ua l.length uc, .slice none 0 0] 48 (0, 0)) := by
    have := heap_alloc_new (w.alloc (.cells #[.int .i64 17, .int .i64 201, .int .i64 1, .int .i64 0, .int .u64 1, .int .u64 0, .int .u64 0, .int .u64 0, .int .u64 0, .int .u64 0, .int .i64 0, .int .u32 0, .int .i64 0, .int .i64 0, .int .i64 0, .int .u64 0, .int .i64 0, .int .i64 0, .int .u64 0, .slice none 0 0, .bool false, .int .i64 0, .slice none 0 0, .slice ua l.length uc, .slice none 0 0] 48 (0, 0))) (.cells #[.int .i64 17, .int .i64 201, .int .i64 1, .int .i64 0, .int .u64 1, .int .u64 0, .int .u64 0, .int .u64 0, .int .u64 0, .int .u64 0, .int .i64 0, .int .u32 0, .int .i64 0, .int .i64 0, .int .i64 0, .int .u64 0, .int .i64 0, .int .i64 0, .int .u64 0, .slice none 0 0, .bool false, .int .i64 0, .slice none 0 0, .slice ua l.length uc, .slice none 0 0] 48 (0, 0))
    rw [show (w.alloc (.cells #[.int .i64 17, .int .i64 201, .int .i64 1, .int .i64 0, .int .u64 1, .int .u64 0, .int .u64 0, .int .u64 0, .int .u64 0, .int .u64 0, .int .i64 0, .int .u32 0, .int .i64 0, .int .i64 0, .int .i64 0, .int .u64 0, .int .i64 0, .int .i64 0, .int .u64 0, .slice none 0 0, .bool false, .int .i64 0, .slice none 0 0, .slice ua l.length uc, .slice none 0 0] 48 (0, 0))).heap.size = w.heap.size + 1 by simp] at this
    rw [hW0]; exact this
  have HSR : Hid (((w.alloc (.cells #[.int .i64 17, .int .i64 201, .int .i64 1, .int .i64 0, .int .u64 1, .int .u64 0, .int .u64 0, .int .u64 0, .int .u64 0, .int .u64 0, .int .i64 0, .int .u32 0, .int .i64 0, .int .i64 0, .int .i64 0, .int .u64 0, .int .i64 0, .int .i64 0, .int .u64 0, .slice none 0 0, .bool false, .int .i64 0, .slice none 0 0, .slice ua l.length uc, .slice none 0 0] 48 (0, 0))).alloc (.cells #[.int .i64 0, .int .i64 0, .int .i64 0, .int .i64 0, .int .u64 0, .int .u64 0, .int .u64 0, .int .u64 0, .int .u64 0, .int .u64 0, .int .i64 0, .int .u32 0, .int .i64 0, .int .i64 0, .int .i64 0, .int .u64 0, .int .i64 0, .int .i64 0, .int .u64 0, .slice none 0 0, .bool false, .int .i64 0, .slice none 0 0, .slice none 0 0, .slice none 0 0] 48 (0, 0))).setRow (w.heap.size + 1) #[.int .i64 17, .int .i64 201, .int .i64 1, .int .i64 0, .int .u64 1, .int .u64 0, .int .u64 0, .int .u64 0, .int .u64 0, .int .u64 0, .int .i64 0, .int .u32 0, .int .i64 0, .int .i64 0, .int .i64 0, .int .u64 0, .int .i64 0, .int .i64 0, .int .u64 0, .slice none 0 0, .bool false, .int .i64 0, .slice none 0 0, .slice ua l.length uc, .slice none 0 0] = W0) := Lib.hid (by
    have := World.setRow_alloc_new (w.alloc (.cells #[.int .i64 17, .int .i64 201, .int .i64 1, .int .i64 0, .int .u64 1, .int .u64 0, .int .u64 0, .int .u64 0, .int .u64 0, .int .u64 0, .int .i64 0, .int .u32 0, .int .i64 0, .int .i64 0, .int .i64 0, .int .u64 0, .int .i64 0, .int .i64 0, .int .u64 0, .slice none 0 0, .bool false, .int .i64 0, .slice none 0 0, .slice ua l.length uc, .slice none 0 0] 48 (0, 0))) #[.int .i64 0, .int .i64 0, .int .i64 0, .int .i64 0, .int .u64 0, .int .u64 0, .int .u64 0, .int .u64 0, .int .u64 0, .int .u64 0, .int .i64 0, .int .u32 0, .int .i64 0, .int .i64 0, .int .i64 0, .int .u64 0, .int .i64 0, .int .i64 0, .int .u64 0, .slice none 0 0, .bool false, .int .i64 0, .slice none 0 0, .slice none 0 0, .slice none 0 0] #[.int .i64 17, .int .i64 201, .int .i64 1, .int .i64 0, .int .u64 1, .int .u64 0, .int .u64 0, .int .u64 0, .int .u64 0, .int .u64 0, .int .i64 0, .int .u32 0, .int .i64 0, .int .i64 0, .int .i64 0, .int .u64 0, .int .i64 0, .int .i64 0, .int .u64 0, .slice none 0 0, .bool false, .int .i64 0, .slice none 0 0, .slice ua l.length uc, .slice none 0 0] 48
    rw [show (w.alloc (.cells #[.int .i64 17, .int .i64 201, .int .i64 1, .int .i64 0, .int .u64 1, .int .u64 0, .int .u64 0, .int .u64 0, .int .u64 0, .int .u64 0, .int .i64 0, .int .u32 0, .int .i64 0, .int .i64 0, .int .i64 0, .int .u64 0, .int .i64 0, .int .i64 0, .int .u64 0, .slice none 0 0, .bool false, .int .i64 0, .slice none 0 0, .slice ua l.length uc, .slice none 0 0] 48 (0, 0))).heap.size = w.heap.size + 1 by simp] at this
    rw [hW0]; exact this)
  have HGZ : Hid (((w.alloc (.cells #[.int .i64 17, .int .i64 201, .int .i64 1, .int .i64 0, .int .u64 1, .int .u64 0, .int .u64 0, .int .u64 0, .int .u64 0, .int .u64 0, .int .i64 0, .int .u32 0, .int .i64 0, .int .i64 0, .int .i64 0, .int .u64 0, .int .i64 0, .int .i64 0, .int .u64 0, .slice none 0 0, .bool false, .int .i64 0, .slice none 0 0, .slice ua l.length uc, .slice none 0 0] 48 (0, 0))).alloc (.cells #[.int .i64 0, .int .i64 0, .int .i64 0, .int .i64 0, .int .u64 0, .int .u64 0, .int .u64 0, .int .u64 0, .int .u64 0, .int .u64 0, .int .i64 0, .int .u32 0, .int .i64 0, .int .i64 0, .int .i64 0, .int .u64 0, .int .i64 0, .int .i64 0, .int .u64 0, .slice none 0 0, .bool false, .int .i64 0, .slice none 0 0, .slice none 0 0, .slice none 0 0] 48 (0, 0))).heap[w.heap.size + 1]? = some (.cells #[.int .i64 0, .int .i64 0, .int .i64 0, .int .i64 0, .int .u64 0, .int .u64 0, .int .u64 0, .int .u64 0, .int .u64 0, .int .u64 0, .int .i64 0, .int .u32 0, .int .i64 0, .int .i64 0, .int .i64 0, .int .u64 0, .int .i64 0, .int .i64 0, .int .u64 0, .slice none 0 0, .bool false, .int .i64 0, .slice none 0 0, .slice none 0 0, .slice none 0 0] 48 (0, 0))) := Lib.hid (by
    have := heap_alloc_new (w.alloc (.cells #[.int .i64 17, .int .i64 201, .int .i64 1, .int .i64 0, .int .u64 1, .int .u64 0, .int .u64 0, .int .u64 0, .int .u64 0, .int .u64 0, .int .i64 0, .int .u32 0, .int .i64 0, .int .i64 0, .int .i64 0, .int .u64 0, .int .i64 0, .int .i64 0, .int .u64 0, .slice none 0 0, .bool false, .int .i64 0, .slice none 0 0, .slice ua l.length uc, .slice none 0 0] 48 (0, 0))) (.cells #[.int .i64 0, .int .i64 0, .int .i64 0, .int .i64 0, .int .u64 0, .int .u64 0, .int .u64 0, .int .u64 0, .int .u64 0, .int .u64 0, .int .i64 0, .int .u32 0, .int .i64 0, .int .i64 0, .int .i64 0, .int .u64 0, .int .i64 0, .int .i64 0, .int .u64 0, .slice none 0 0, .bool false, .int .i64 0, .slice none 0 0, .slice none 0 0, .slice none 0 0] 48 (0, 0))
    rw [show (w.alloc (.cells #[.int .i64 17, .int .i64 201, .int .i64 1, .int .i64 0, .int .u64 1, .int .u64 0, .int .u64 0, .int .u64 0, .int .u64 0, .int .u64 0, .int .i64 0, .int .u32 0, .int .i64 0, .int .i64 0, .int .i64 0, .int .u64 0, .int .i64 0, .int .i64 0, .int .u64 0, .slice none 0 0, .bool false, .int .i64 0, .slice none 0 0, .slice ua l.length uc, .slice none 0 0] 48 (0, 0))).heap.size = w.heap.size + 1 by simp] at this
    exact this)
  have kW0 : Kept NoB w W0 := by rw [hW0]; exact ((Kept.refl NoB w).alloc _).alloc _
  have sW0 : W0.heap.size = w.heap.size + 2 := by rw [hW0]; simp
  have HNE : Hid (¬ w.heap.size + 1 = w.heap.size) := Lib.hid (by omega)
  clear hW0
  obtain ⟨W, hW⟩ : ∃ W, W = ((W0.setCell ⟨w.heap.size + 1, 0, none⟩ (.int .i64 0)).setCell ⟨w.heap.size + 1, 1, none⟩ (.int .i64 0)).setCell ⟨w.heap.size + 1, 2, none⟩ (.int .i64 0) := ⟨_, rfl⟩
  have h1 : W.heap[w.heap.size]? = some (.cells #[.int .i64 17, .int .i64 201, .int .i64 1, .int .i64 0, .int .u64 1, .int .u64 0, .int .u64 0, .int .u64 0, .int .u64 0, .int .u64 0, .int .i64 0, .int .u32 0, .int .i64 0, .int .i64 0, .int .i64 0, .int .u64 0, .int .i64 0, .int .i64 0, .int .u64 0, .slice none 0 0, .bool false, .int .i64 0, .slice none 0 0, .slice ua l.length uc, .slice none 0 0] 48 (0, 0)) := by rw [hW]; exact blkU_set_other (blkU_set_other (blkU_set_other g1 _ _ HNE.out) _ _ HNE.out) _ _ HNE.out
  have h2 : W.heap[w.heap.size + 1]? = some (.cells #[.int .i64 0, .int .i64 0, .int .i64 0, .int .i64 0, .int .u64 1, .int .u64 0, .int .u64 0, .int .u64 0, .int .u64 0, .int .u64 0, .int .i64 0, .int .u32 0, .int .i64 0, .int .i64 0, .int .i64 0, .int .u64 0, .int .i64 0, .int .i64 0, .int .u64 0, .slice none 0 0, .bool false, .int .i64 0, .slice none 0 0, .slice ua l.length uc, .slice none 0 0] 48 (0, 0)) := by
    have a0 : (W0.setCell ⟨w.heap.size + 1, 0, none⟩ (.int .i64 0)).heap[w.heap.size + 1]? = some (.cells #[.int .i64 0, .int .i64 201, .int .i64 1, .int .i64 0, .int .u64 1, .int .u64 0, .int .u64 0, .int .u64 0, .int .u64 0, .int .u64 0, .int .i64 0, .int .u32 0, .int .i64 0, .int .i64 0, .int .i64 0, .int .u64 0, .int .i64 0, .int .i64 0, .int .u64 0, .slice none 0 0, .bool false, .int .i64 0, .slice none 0 0, .slice ua l.length uc, .slice none 0 0] 48 (0, 0)) := blkU_set g2 0 _
    have a1 : ((W0.setCell ⟨w.heap.size + 1, 0, none⟩ (.int .i64 0)).setCell ⟨w.heap.size + 1, 1, none⟩ (.int .i64 0)).heap[w.heap.size + 1]? = some (.cells #[.int .i64 0, .int .i64 0, .int .i64 1, .int .i64 0, .int .u64 1, .int .u64 0, .int .u64 0, .int .u64 0, .int .u64 0, .int .u64 0, .int .i64 0, .int .u32 0, .int .i64 0, .int .i64 0, .int .i64 0, .int .u64 0, .int .i64 0, .int .i64 0, .int .u64 0, .slice none 0 0, .bool false, .int .i64 0, .slice none 0 0, .slice ua l.length uc, .slice none 0 0] 48 (0, 0)) := blkU_set a0 1 _
    rw [hW]
    exact blkU_set a1 2 _
  have hkW : Kept NoB w W := by
    rw [hW]
    exact ((kW0.setCell (p := ⟨w.heap.size + 1, 0, none⟩) (.inr (by show w.heap.size ≤ w.heap.size + 1; omega)) _).setCell (p := ⟨w.heap.size + 1, 1, none⟩) (.inr (by show w.heap.size ≤ w.heap.size + 1; omega)) _).setCell (p := ⟨w.heap.size + 1, 2, none⟩) (.inr (by show w.heap.size ≤ w.heap.size + 1; omega)) _
  have hsW : W.heap.size = w.heap.size + 2 := by rw [hW]; simp [World.setCell, sW0]
  have d0 : W0.cell? ⟨w.heap.size + 1, 0, none⟩ = some (.int .i64 17) := cell_of_row _ _ 0 _ _ _ g2
  have d1 : W0.cell? ⟨w.heap.size + 1, 1, none⟩ = some (.int .i64 201) := cell_of_row _ _ 1 _ _ _ g2
  have d2 : W0.cell? ⟨w.heap.size + 1, 2, none⟩ = some (.int .i64 1) := cell_of_row _ _ 2 _ _ _ g2
  have z0 := blkU_frozen g2
  have e0 : W.cell? ⟨w.heap.size, 0, none⟩ = some (.int .i64 17) := cell_of_row _ _ 0 _ _ _ h1
  clear g1 g2 kW0 sW0
  have HH1 := Lib.hid h1
  have HH2 := Lib.hid h2
  have HKW := Lib.hid hkW
  have HSW := Lib.hid hsW
  have HX := Lib.hid (hx.no hkW)
  have HF := Lib.hid hF
  have HTB := Lib.hid (ht.kept hkW (fun h => h))
  have HW := Lib.hid hW
  have HIK := Lib.hid (fun w => LisKind_any w 17)
  have HA1 := Lib.hid (fun w => LAddress_any w 201)
  have HA2 := Lib.hid (fun w => LAddress_any w 1)
  have hik : kindB 17 = true := by decide
  have ha1 : addrB 201 = true := by decide
  have ha2 : addrB 1 = true := by decide
  rw [hik] at HIK
  rw [ha1] at HA1
  rw [ha2] at HA2
  have HPO := Lib.hid (partsOf_17 W HTB.out)
  have c0 : (w.alloc (.cells #[.int .i64 17, .int .i64 201, .int .i64 1, .int .i64 0, .int .u64 1, .int .u64 0, .int .u64 0, .int .u64 0, .int .u64 0, .int .u64 0, .int .i64 0, .int .u32 0, .int .i64 0, .int .i64 0, .int .i64 0, .int .u64 0, .int .i64 0, .int .i64 0, .int .u64 0, .slice none 0 0, .bool false, .int .i64 0, .slice none 0 0, .slice ua l.length uc, .slice none 0 0] 48 (0, 0))).cell? ⟨w.heap.size, 0, none⟩ = some (.int .i64 17) := cell_of_row _ _ 0 _ _ _ (heap_alloc_new w _)
  have c1 : (w.alloc (.cells #[.int .i64 17, .int .i64 201, .int .i64 1, .int .i64 0, .int .u64 1, .int .u64 0, .int .u64 0, .int .u64 0, .int .u64 0, .int .u64 0, .int .i64 0, .int .u32 0, .int .i64 0, .int .i64 0, .int .i64 0, .int .u64 0, .int .i64 0, .int .i64 0, .int .u64 0, .slice none 0 0, .bool false, .int .i64 0, .slice none 0 0, .slice ua l.length uc, .slice none 0 0] 48 (0, 0))).cell? ⟨w.heap.size, 1, none⟩ = some (.int .i64 201) := cell_of_row _ _ 1 _ _ _ (heap_alloc_new w _)
  have c2 : (w.alloc (.cells #[.int .i64 17, .int .i64 201, .int .i64 1, .int .i64 0, .int .u64 1, .int .u64 0, .int .u64 0, .int .u64 0, .int .u64 0, .int .u64 0, .int .i64 0, .int .u32 0, .int .i64 0, .int .i64 0, .int .i64 0, .int .u64 0, .int .i64 0, .int .i64 0, .int .u64 0, .slice none 0 0, .bool false, .int .i64 0, .slice none 0 0, .slice ua l.length uc, .slice none 0 0] 48 (0, 0))).cell? ⟨w.heap.size, 2, none⟩ = some (.int .i64 1) := cell_of_row _ _ 2 _ _ _ (heap_alloc_new w _)
  clear h1 h2 hkW hsW hx ht hF hik ha1 ha2 hW
  go_enter Tryz.func20, Tryz.ntmps20
  go_wp2_with fail
  refine (HIK.out _).mono ?_
  rintro e w1 ⟨rfl, rfl⟩
  go_wp2_with fail
  refine (HA1.out _).mono ?_
  rintro e w1 ⟨rfl, rfl⟩
  go_wp2_with fail
  refine (HA2.out _).mono ?_
  rintro e w1 ⟨rfl, rfl⟩
  have HG0 := Lib.hid (heap_alloc_new w (.cells #[.int .i64 17, .int .i64 201, .int .i64 1, .int .i64 0, .int .u64 1, .int .u64 0, .int .u64 0, .int .u64 0, .int .u64 0, .int .u64 0, .int .i64 0, .int .u32 0, .int .i64 0, .int .i64 0, .int .i64 0, .int .u64 0, .int .i64 0, .int .i64 0, .int .u64 0, .slice none 0 0, .bool false, .int .i64 0, .slice none 0 0, .slice ua l.length uc, .slice none 0 0] 48 (0, 0)))
  clear c0 c1 c2
  have hone : (#[.int .i64 17, .int .i64 201, .int .i64 1, .int .i64 0, .int .u64 1, .int .u64 0, .int .u64 0, .int .u64 0, .int .u64 0, .int .u64 0, .int .i64 0, .int .u32 0, .int .i64 0, .int .i64 0, .int .i64 0, .int .u64 0, .int .i64 0, .int .i64 0, .int .u64 0, .slice none 0 0, .bool false, .int .i64 0, .slice none 0 0, .slice ua l.length uc, .slice none 0 0] : Array Value).all (·.oneCell') = true := by rw [← Array.all_toList]; rfl
  have HONE := Lib.hid hone
  clear hone
  go_upto_region 7 with (first
    | (refine wpList_load_row rfl 48 _ rfl w.heap.size rfl 48 #[.int .i64 17, .int .i64 201, .int .i64 1, .int .i64 0, .int .u64 1, .int .u64 0, .int .u64 0, .int .u64 0, .int .u64 0, .int .u64 0, .int .i64 0, .int .u32 0, .int .i64 0, .int .i64 0, .int .i64 0, .int .u64 0, .int .i64 0, .int .i64 0, .int .u64 0, .slice none 0 0, .bool false, .int .i64 0, .slice none 0 0, .slice ua l.length uc, .slice none 0 0] (0, 0) _ HG0.out Tryz.underlying48 rfl (by kernel_rfl) ?_)
    | (refine wpList_store_row rfl 48 _ _ rfl (w.heap.size + 1) #[.int .i64 17, .int .i64 201, .int .i64 1, .int .i64 0, .int .u64 1, .int .u64 0, .int .u64 0, .int .u64 0, .int .u64 0, .int .u64 0, .int .i64 0, .int .u32 0, .int .i64 0, .int .i64 0, .int .i64 0, .int .u64 0, .int .i64 0, .int .i64 0, .int .u64 0, .slice none 0 0, .bool false, .int .i64 0, .slice none 0 0, .slice ua l.length uc, .slice none 0 0] rfl rfl 48 #[.int .i64 0, .int .i64 0, .int .i64 0, .int .i64 0, .int .u64 0, .int .u64 0, .int .u64 0, .int .u64 0, .int .u64 0, .int .u64 0, .int .i64 0, .int .u32 0, .int .i64 0, .int .i64 0, .int .i64 0, .int .u64 0, .int .i64 0, .int .i64 0, .int .u64 0, .slice none 0 0, .bool false, .int .i64 0, .slice none 0 0, .slice none 0 0, .slice none 0 0] HGZ.out (by kernel_rfl) rfl HONE.out ?_; rw [HSR.out]))
  rw [← HW.out]
  clear d0 d1 d2 z0
  go_wp2_with fail
  refine HPO.out.mono ?_
  rintro e w1 ⟨pa, pc, ps, rfl, hrow, hps, hk⟩
  have HROW := Lib.hid hrow
  have HPS := Lib.hid hps
  have HK1 := Lib.hid hk
  have HR1 := Lib.hid (hk.heap (fun h => h) HH1.out)
  have HR2 := Lib.hid (hk.heap (fun h => h) HH2.out)
  have HX1 := Lib.hid (HX.out.no hk)
  clear hrow hps hk
  go_wp2
  generalize Value.agg #[.int .i64 17, .int .i64 201, .int .i64 1, .int .i64 0, .int .u64 1, .int .u64 0, .int .u64 0, .int .u64 0, .int .u64 0, .int .u64 0, .int .i64 0, .int .u32 0, .int .i64 0, .int .i64 0, .int .i64 0, .int .u64 0, .int .i64 0, .int .i64 0, .int .u64 0, .slice none 0 0, .bool false, .int .i64 0, .slice none 0 0, .slice ua l.length uc, .slice none 0 0] = LV0
  go_loopw [28] (ChkRel17 w w1 (w.heap.size + 1) ua uc l) (fun j _ => 3 - (RowKit.intOf j).toNat)
  case atStart => exact ⟨0, by omega, rfl, HR2.out, fun h => absurd h (by omega), Kept.refl _ _⟩
  case round =>
    obtain ⟨j, hj, rfl, hg2, hfin, hK⟩ := hrel
    have HFIN := Lib.hid hfin
    have hsB : ∀ k, W.heap.size ≤ k → ¬ k = w.heap.size + 1 := fun k hk => by have := HSW.out; omega
    have HG2 := Lib.hid hg2
    have HKR := Lib.hid hK
    have HRW := Lib.hid (HROW.out.kept hK hsB)
    have HPR := Lib.hid (HPS.out.kept hK hsB)
    have HG1 := Lib.hid (hK.heap (k := w.heap.size) (by omega) HR1.out)
    have HXR := Lib.hid (HX1.out.kept hK (fun k hf => by have := HF.out k hf; omega))
    clear hg2 hK hsB hfin
    have hcase : j = 0 ∨ j = 1 ∨ j = 2 ∨ j = 3 := by omega
    clear hj
    rcases hcase with rfl | rfl | rfl | rfl

    · as_aux_lemma =>
        have hjj : jN 0 = 0 := rfl
        rw [hjj] at *
        clear hjj
        have hlen : ps.length = 3 := HPR.out.1
        obtain ⟨r, rfl, hBr, f0, f1, f2, f3⟩ := HRW.out.at_ (j := 0) (by omega)
        have hp : Part1 W.heap.size wr (q4v (ps.getD 0 q40)) := HPR.out.2 0 (by decide)
        have hgd : ps.getD 0 q40 = ps[0]'(by omega) := by rw [List.getD_eq_getElem?_getD, List.getElem?_eq_getElem (by omega)]; rfl
        rw [hgd] at hp
        obtain ⟨bm, hbm, hm, s, bw, hs, hbw, he, a1, a2, a3, a4, a5⟩ := hp
        obtain ⟨i0, i1, i2, i3⟩ := q4_inj he
        rw [i0] at f0
        rw [i1] at f1
        rw [i2] at f2
        rw [i3] at f3
        simp only [Nat.reduceMul, Nat.reduceAdd, Nat.zero_mul, Nat.zero_add] at f0 f1 f2 f3
        have hsI : W.heap.size ≤ s := hs
        have hka := (Kept.refl NoB wr).alloc (.cells #[(.func (.func 192) #[] #[pb s, pb (s + 3)]), (.func (.func 193) #[] #[pb (s + 1), pb (s + 3)]), (.func (.func 194) #[] #[pb (s + 2), pb (s + 3)]), (.func (.func 195) #[] #[pb (s + 3)])] 112 (0, 0))
        obtain ⟨b0, b1, b2, b3⟩ := cells4p (heap_alloc_new wr (.cells #[(.func (.func 192) #[] #[pb s, pb (s + 3)]), (.func (.func 193) #[] #[pb (s + 1), pb (s + 3)]), (.func (.func 194) #[] #[pb (s + 2), pb (s + 3)]), (.func (.func 195) #[] #[pb (s + 3)])] 112 (0, 0)))
        have HB := Lib.hid (heap_alloc_new wr (.cells #[(.func (.func 192) #[] #[pb s, pb (s + 3)]), (.func (.func 193) #[] #[pb (s + 1), pb (s + 3)]), (.func (.func 194) #[] #[pb (s + 2), pb (s + 3)]), (.func (.func 195) #[] #[pb (s + 3)])] 112 (0, 0)))
        have hR := right_1 _ w.heap.size s bm 0 (hm.no hka) (a1.no hka) (a4.no hka) (hka.cell (p := ⟨w.heap.size, 3, none⟩) (fun h => h) (let17_3 HG1.out))
        have HKA := Lib.hid hka
        have HA4 := Lib.hid a4
        have hent1 : ∀ (args : Array Value) (w : World), Sem.run Tryz.prog (callFunc 192 args) w = .ok (.enter 192 args) w := fun args w => by kernel_rfl
        have hent4 : ∀ (args : Array Value) (w : World), Sem.run Tryz.prog (callFunc 195 args) w = .ok (.enter 195 args) w := fun args w => by kernel_rfl
        rw [(by decide : (decide ((0 : Int) ≤ 0) && decide ((0 : Int) ≤ 3)) = true)] at hR
        have HRI := Lib.hid hR
        clear hka a1 a2 a3 a4 he i0 i1 i2 i3 hs hgd hBr hm hbm hbw a5 hR
        go_wp2_with fail
        refine HRI.out.mono ?_
        rintro e w2 ⟨rfl, hk2⟩
        have hb2 := hk2.heap (fun h => h) HB.out
        obtain ⟨b0, b1, b2, b3⟩ := cells4p hb2
        have hg2 := (HKA.out.trans hk2 (fun _ _ h => h)).heap (fun h => h) HG2.out
        have HG := Lib.hid hg2
        have HD := Lib.hid (drop_1 w2 (w.heap.size + 1) (s + 3) _ (HA4.out.no (HKA.out.trans hk2 (fun _ _ h => h))) hg2 (rest17_len0 _ _ _))
        have HK2 := Lib.hid (HKR.out.trans (HKA.out.trans hk2 (fun _ _ h => h)) (fun _ _ h => absurd h (fun h => h)))
        clear hk2 hb2 hg2
        go_wp2_with fail
        refine HD.out.mono ?_
        rintro e w3 ⟨rfl, rfl⟩
        go_wp2
        exact ⟨⟨1, by omega, rfl, rest17_row0 HG.out, fun h => absurd h (by omega), HK2.out.setCell (p := ⟨w.heap.size + 1, 3, none⟩) (.inl rfl) _⟩, by simp [RowKit.intOf, jN]⟩
    · as_aux_lemma =>
        have hjj : jN 1 = 1 := rfl
        rw [hjj] at *
        clear hjj
        have hlen : ps.length = 3 := HPR.out.1
        obtain ⟨r, rfl, hBr, f0, f1, f2, f3⟩ := HRW.out.at_ (j := 1) (by omega)
        have hp : Part2 W.heap.size wr (q4v (ps.getD 1 q40)) := HPR.out.2 1 (by decide)
        have hgd : ps.getD 1 q40 = ps[1]'(by omega) := by rw [List.getD_eq_getElem?_getD, List.getElem?_eq_getElem (by omega)]; rfl
        rw [hgd] at hp
        obtain ⟨s, bw, hs, hbw, he, a1, a2, a3, a4, a5⟩ := hp
        obtain ⟨i0, i1, i2, i3⟩ := q4_inj he
        rw [i0] at f0
        rw [i1] at f1
        rw [i2] at f2
        rw [i3] at f3
        simp only [Nat.reduceMul, Nat.reduceAdd, Nat.zero_mul, Nat.zero_add] at f0 f1 f2 f3
        have hsI : W.heap.size ≤ s := hs
        have hka := (Kept.refl NoB wr).alloc (.cells #[(.func (.func 187) #[] #[pb s, pb (s + 3)]), (.func (.func 188) #[] #[pb (s + 1), pb (s + 3)]), (.func (.func 189) #[] #[pb (s + 2), pb (s + 3)]), (.func (.func 190) #[] #[pb (s + 3)])] 112 (0, 0))
        obtain ⟨b0, b1, b2, b3⟩ := cells4p (heap_alloc_new wr (.cells #[(.func (.func 187) #[] #[pb s, pb (s + 3)]), (.func (.func 188) #[] #[pb (s + 1), pb (s + 3)]), (.func (.func 189) #[] #[pb (s + 2), pb (s + 3)]), (.func (.func 190) #[] #[pb (s + 3)])] 112 (0, 0)))
        have HB := Lib.hid (heap_alloc_new wr (.cells #[(.func (.func 187) #[] #[pb s, pb (s + 3)]), (.func (.func 188) #[] #[pb (s + 1), pb (s + 3)]), (.func (.func 189) #[] #[pb (s + 2), pb (s + 3)]), (.func (.func 190) #[] #[pb (s + 3)])] 112 (0, 0)))
        have hR := right_2 _ w.heap.size s 1 (a1.no hka) (a4.no hka) (hka.cell (p := ⟨w.heap.size, 4, none⟩) (fun h => h) (let17_4 HG1.out))
        have HKA := Lib.hid hka
        have HA4 := Lib.hid a4
        have hent1 : ∀ (args : Array Value) (w : World), Sem.run Tryz.prog (callFunc 187 args) w = .ok (.enter 187 args) w := fun args w => by kernel_rfl
        have hent4 : ∀ (args : Array Value) (w : World), Sem.run Tryz.prog (callFunc 190 args) w = .ok (.enter 190 args) w := fun args w => by kernel_rfl
        rw [(by decide : decide ((1 : Int) ≤ 1) = true)] at hR
        have HRI := Lib.hid hR
        clear hka a1 a2 a3 a4 he i0 i1 i2 i3 hs hgd hBr hbw a5 hR
        go_wp2_with fail
        refine HRI.out.mono ?_
        rintro e w2 ⟨rfl, hk2⟩
        have hb2 := hk2.heap (fun h => h) HB.out
        obtain ⟨b0, b1, b2, b3⟩ := cells4p hb2
        have hg2 := (HKA.out.trans hk2 (fun _ _ h => h)).heap (fun h => h) HG2.out
        have HG := Lib.hid hg2
        have HD := Lib.hid (drop_2 w2 (w.heap.size + 1) (s + 3) _ (HA4.out.no (HKA.out.trans hk2 (fun _ _ h => h))) hg2 (rest17_len1 _ _ _))
        have HK2 := Lib.hid (HKR.out.trans (HKA.out.trans hk2 (fun _ _ h => h)) (fun _ _ h => absurd h (fun h => h)))
        clear hk2 hb2 hg2
        go_wp2_with fail
        refine HD.out.mono ?_
        rintro e w3 ⟨rfl, rfl⟩
        go_wp2
        exact ⟨⟨2, by omega, rfl, rest17_row1 HG.out, fun h => absurd h (by omega), HK2.out.setCell (p := ⟨w.heap.size + 1, 4, none⟩) (.inl rfl) _⟩, by simp [RowKit.intOf, jN]⟩
    · as_aux_lemma =>
        have hjj : jN 2 = 2 := rfl
        rw [hjj] at *
        clear hjj
        have hlen : ps.length = 3 := HPR.out.1
        obtain ⟨r, rfl, hBr, f0, f1, f2, f3⟩ := HRW.out.at_ (j := 2) (by omega)
        have hp : Part15 W.heap.size wr (q4v (ps.getD 2 q40)) := HPR.out.2 2 (by decide)
        have hgd : ps.getD 2 q40 = ps[2]'(by omega) := by rw [List.getD_eq_getElem?_getD, List.getElem?_eq_getElem (by omega)]; rfl
        rw [hgd] at hp
        obtain ⟨s, hs, he, a1, a2, a3, a4⟩ := hp
        obtain ⟨i0, i1, i2, i3⟩ := q4_inj he
        rw [i0] at f0
        rw [i1] at f1
        rw [i2] at f2
        rw [i3] at f3
        simp only [Nat.reduceMul, Nat.reduceAdd, Nat.zero_mul, Nat.zero_add] at f0 f1 f2 f3
        have hsI : W.heap.size ≤ s := hs
        have hka := (Kept.refl NoB wr).alloc (.cells #[(.func (.func 165) #[] #[pb s, pb (s + 3)]), (.func (.func 166) #[] #[pb (s + 1), pb (s + 3)]), (.func (.func 167) #[] #[pb (s + 2), pb (s + 3)]), (.func (.func 168) #[] #[pb (s + 3)])] 112 (0, 0))
        obtain ⟨b0, b1, b2, b3⟩ := cells4p (heap_alloc_new wr (.cells #[(.func (.func 165) #[] #[pb s, pb (s + 3)]), (.func (.func 166) #[] #[pb (s + 1), pb (s + 3)]), (.func (.func 167) #[] #[pb (s + 2), pb (s + 3)]), (.func (.func 168) #[] #[pb (s + 3)])] 112 (0, 0)))
        have HB := Lib.hid (heap_alloc_new wr (.cells #[(.func (.func 165) #[] #[pb s, pb (s + 3)]), (.func (.func 166) #[] #[pb (s + 1), pb (s + 3)]), (.func (.func 167) #[] #[pb (s + 2), pb (s + 3)]), (.func (.func 168) #[] #[pb (s + 3)])] 112 (0, 0)))
        have hR := right_15 _ w.heap.size s _ l F (HXR.out.no hka) (a1.no hka) (a4.no hka) (hka.cell (p := ⟨w.heap.size, 23, none⟩) (fun h => h) (let17_23 HG1.out))
        have HKA := Lib.hid hka
        have HA4 := Lib.hid a4
        have hent1 : ∀ (args : Array Value) (w : World), Sem.run Tryz.prog (callFunc 165 args) w = .ok (.enter 165 args) w := fun args w => by kernel_rfl
        have hent4 : ∀ (args : Array Value) (w : World), Sem.run Tryz.prog (callFunc 168 args) w = .ok (.enter 168 args) w := fun args w => by kernel_rfl
        have HRI := Lib.hid hR
        clear hka a1 a2 a3 a4 he i0 i1 i2 i3 hs hgd hBr hR
        cases hfine : areReq l with
        | true =>
          rw [hfine] at HRI
          have HFN := Lib.hid hfine
          clear hfine
          go_wp2_with fail
          refine HRI.out.mono ?_
          rintro e w2 ⟨rfl, hk2⟩
          have hb2 := hk2.heap (fun h => h) HB.out
          obtain ⟨b0, b1, b2, b3⟩ := cells4p hb2
          have hg2 := (HKA.out.trans hk2 (fun _ _ h => h)).heap (fun h => h) HG2.out
          have HG := Lib.hid hg2
          have HD := Lib.hid (drop_15 w2 (w.heap.size + 1) (s + 3) _ (HA4.out.no (HKA.out.trans hk2 (fun _ _ h => h))) hg2 (rest17_len2 _ _ _))
          have HK2 := Lib.hid (HKR.out.trans (HKA.out.trans hk2 (fun _ _ h => h)) (fun _ _ h => absurd h (fun h => h)))
          clear hk2 hb2 hg2
          go_wp2_with fail
          refine HD.out.mono ?_
          rintro e w3 ⟨rfl, rfl⟩
          go_wp2
          exact ⟨⟨3, by omega, rfl, rest17_row2 HG.out, fun _ => HFN.out, HK2.out.setCell (p := ⟨w.heap.size + 1, 23, none⟩) (.inl rfl) _⟩, by simp [RowKit.intOf, jN]⟩
        | false =>
          rw [hfine] at HRI
          have HFN := Lib.hid hfine
          clear hfine
          go_wp2_with fail
          refine HRI.out.mono ?_
          rintro e w2 ⟨rfl, hk2⟩
          have HK2 := Lib.hid (HKR.out.trans (HKA.out.trans hk2 (fun _ _ h => h)) (fun _ _ h => absurd h (fun h => h)))
          clear hk2
          go_wp2
          go_ret
          exact ⟨by rw [HEB.out.2 HFN.out]; rfl, (HKW.out.trans HK1.out (fun _ _ h => h)).trans HK2.out (fun i hi h => by omega)⟩
    · as_aux_lemma =>
        have hjj : jN 3 = 3 := rfl
        rw [hjj] at *
        clear hjj
        have HK3 := Lib.hid ((HKW.out.trans HK1.out (fun _ _ h => h)).trans HKR.out (fun i hi h => by omega))
        have hz := HG2.out
        rw [rest17_end] at hz
        go_wp2_with (refine wpList_load_row rfl 48 _ rfl (w.heap.size + 1) rfl 48 #[.int .i64 0, .int .i64 0, .int .i64 0, .int .i64 0, .int .u64 0, .int .u64 0, .int .u64 0, .int .u64 0, .int .u64 0, .int .u64 0, .int .i64 0, .int .u32 0, .int .i64 0, .int .i64 0, .int .i64 0, .int .u64 0, .int .i64 0, .int .i64 0, .int .u64 0, .slice none 0 0, .bool false, .int .i64 0, .slice none 0 0, .slice none 0 0, .slice none 0 0] (0, 0) _ hz Tryz.underlying48 rfl (by kernel_rfl) ?_)
        refine (LSame_zero _).mono ?_
        rintro e w2 ⟨rfl, hk2⟩
        have HK4 := Lib.hid (HK3.out.trans hk2 (fun _ _ h => h))
        clear hk2
        go_wp2
        go_ret
        exact ⟨by rw [HEB.out.1 (HFIN.out (by omega))]; rfl, HK4.out⟩
end Go.Proofs.YtclfecninhipnaaGreatDoor
namespace Go.Proofs.YtclfecninhipnaaGreatDoor
open Go.RowKit
set_option linter.unusedVariables false
set_option linter.unusedSimpArgs false

/-- What Check and Asked tell, by what the letter says. -/
def chkU (fine : List Up → Bool) (x : Up) : Int := if ¬ (x.k = 2 ∨ x.k = 3) then 1 else if 2048 < x.d.length then 6 else if fine [x] then 0 else 4
/-- A slice of one update in a block of its own. -/
theorem UsAt.one {w : World} {F : Nat → Prop} {b : Nat} {x : Up} {u : Value} {t : TypeId} (h : w.heap[b]? = some (.cells #[.int .u64 x.q, .int .i64 x.c, .int .u64 x.n, .int .i64 x.k, .int .u32 x.key, .int .u64 x.r, u] t (0, 0))) (hb : F b) (hd : BSl w F u x.d) : UsAt w F (.slice (some ⟨b, 0, none⟩) 1 1) [x] := by
  obtain ⟨c0, c1, c2, c3, c4, c5, c6⟩ := cells7 h
  refine ⟨_, 1, rfl, Nat.le_refl _, by decide, (fun h => by cases h), fun _ => ⟨b, 0, rfl, hb, heap_lt h, fun j hj => ?_⟩⟩
  obtain rfl : j = 0 := by simp only [List.length_cons, List.length_nil] at hj; omega
  exact ⟨u, c0, c1, c2, c3, c4, c5, c6, hd⟩
set_option maxRecDepth 100000 in
set_option maxHeartbeats 4000000 in
theorem checkIn_12 (w : World) (v : Value) (x : Up) (F : Nat → Prop) (h : UpV w F v x) (hF : ∀ k, F k → k < w.heap.size) (ht : Tab10 w) : Calls Tryz.prog 80 #[.int .i64 12, v] w fun e w' => e = .returned (.int .i64 (chkU areUs x)) ∧ Kept NoB w w' := by
  obtain ⟨u, rfl, hd⟩ := h
  have HD := Lib.hid hd
  obtain ⟨va, vc, rfl, _⟩ := hd
  obtain ⟨y0, y1, y2, y3, y4, y5, y6⟩ := x
  simp only at HD ⊢
  have hka := (Kept.refl NoB w).alloc (.cells #[.int .u64 y0, .int .i64 y1, .int .u64 y2, .int .i64 y3, .int .u32 y4, .int .u64 y5, .slice va y6.length vc] 84)
  have HKA := Lib.hid hka
  have hb := heap_alloc_new w (.cells #[.int .u64 y0, .int .i64 y1, .int .u64 y2, .int .i64 y3, .int .u32 y4, .int .u64 y5, .slice va y6.length vc] 84)
  have HB := Lib.hid hb
  obtain ⟨c0, c1, c2, c3, c4, c5, c6⟩ := cells7 hb
  have HIK := Lib.hid (fun w => UisKind_any w y3)
  obtain ⟨cx, hcx⟩ : ∃ z, z = chkU areUs ⟨y0, y1, y2, y3, y4, y5, y6⟩ := ⟨_, rfl⟩
  rw [← hcx]
  have HCX := Lib.hid hcx
  by_cases hk : y3 = 2 ∨ y3 = 3
  rotate_left
  · have HX : Hid (cx = 1) := Lib.hid (by rw [hcx]; unfold chkU; rw [if_pos (by exact hk)])
    have hkb : decide (y3 = 2 ∨ y3 = 3) = false := decide_eq_false hk
    rw [hkb] at HIK
    clear hka hb hcx hk ht hF hkb c0 c1 c2 c4 c5 c6
    go_enter Tryz.func80, Tryz.ntmps80
    go_wp2_with fail
    refine (HIK.out _).mono ?_
    rintro e w1 ⟨rfl, rfl⟩
    go_wp2
    go_ret
    exact ⟨by rw [HX.out]; rfl, HKA.out⟩
  have hkb : decide (y3 = 2 ∨ y3 = 3) = true := decide_eq_true hk
  rw [hkb] at HIK
  by_cases hl : 2048 < y6.length
  · have HX : Hid (cx = 6) := Lib.hid (by rw [hcx]; unfold chkU; rw [if_neg (by exact fun h => h hk), if_pos (by exact hl)])
    have g1 : decide ((2048 : Int) < (y6.length : Int)) = true := decide_eq_true (by omega)
    clear hka hb hcx hk ht hF hkb hl c0 c1 c2 c4 c5
    go_enter Tryz.func80, Tryz.ntmps80
    go_wp2_with fail
    refine (HIK.out _).mono ?_
    rintro e w1 ⟨rfl, rfl⟩
    go_wp2
    go_ret
    exact ⟨by rw [HX.out]; rfl, HKA.out⟩
  have HX : Hid (cx = if areUs [⟨y0, y1, y2, y3, y4, y5, y6⟩] then 0 else 4) := Lib.hid (by rw [hcx]; unfold chkU; rw [if_neg (by exact fun h => h hk), if_neg (by exact hl)])
  have g1 : decide ((2048 : Int) < (y6.length : Int)) = false := decide_eq_false (by omega)
  -- the slice of one, and the letter
  obtain ⟨W1, hW1⟩ : ∃ W1, W1 = (w.alloc (.cells #[.int .u64 y0, .int .i64 y1, .int .u64 y2, .int .i64 y3, .int .u32 y4, .int .u64 y5, .slice va y6.length vc] 84)).alloc (.cells #[.int .u64 y0, .int .i64 y1, .int .u64 y2, .int .i64 y3, .int .u32 y4, .int .u64 y5, .slice va y6.length vc] 84) := ⟨_, rfl⟩
  have sw : (w.alloc (.cells #[.int .u64 y0, .int .i64 y1, .int .u64 y2, .int .i64 y3, .int .u32 y4, .int .u64 y5, .slice va y6.length vc] 84)).heap.size = w.heap.size + 1 := by simp
  have sW1 : W1.heap.size = w.heap.size + 2 := by rw [hW1]; simp
  have hk1 : Kept NoB w W1 := by rw [hW1]; exact hka.alloc _
  have hr1 : W1.heap[w.heap.size + 1]? = some (.cells #[.int .u64 y0, .int .i64 y1, .int .u64 y2, .int .i64 y3, .int .u32 y4, .int .u64 y5, .slice va y6.length vc] 84) := by
    have := heap_alloc_new (w.alloc (.cells #[.int .u64 y0, .int .i64 y1, .int .u64 y2, .int .i64 y3, .int .u32 y4, .int .u64 y5, .slice va y6.length vc] 84)) (.cells #[.int .u64 y0, .int .i64 y1, .int .u64 y2, .int .i64 y3, .int .u32 y4, .int .u64 y5, .slice va y6.length vc] 84)
    rw [sw] at this
    rw [hW1]; exact this
  obtain ⟨W2, hW2⟩ : ∃ W2, W2 = W1.alloc (.cells #[.int .i64 12, .int .i64 201, .int .i64 1, .int .i64 0, .int .u64 1, .int .u64 0, .int .u64 0, .int .u64 0, .int .u64 0, .int .u64 0, .int .i64 0, .int .u32 0, .int .i64 0, .int .i64 0, .int .i64 0, .int .u64 0, .int .i64 0, .int .i64 0, .int .u64 0, .slice none 0 0, .bool false, .int .i64 0, .slice none 0 0, .slice (some ⟨w.heap.size + 1, 0, none⟩) 1 1, .slice none 0 0] 48 (0, 0)) := ⟨_, rfl⟩
  have hk2 : Kept NoB w W2 := by rw [hW2]; exact hk1.alloc _
  have hk12 : Kept NoB W1 W2 := by rw [hW2]; exact (Kept.refl NoB W1).alloc _
  have hr2 : W2.heap[w.heap.size + 2]? = some (.cells #[.int .i64 12, .int .i64 201, .int .i64 1, .int .i64 0, .int .u64 1, .int .u64 0, .int .u64 0, .int .u64 0, .int .u64 0, .int .u64 0, .int .i64 0, .int .u32 0, .int .i64 0, .int .i64 0, .int .i64 0, .int .u64 0, .int .i64 0, .int .i64 0, .int .u64 0, .slice none 0 0, .bool false, .int .i64 0, .slice none 0 0, .slice (some ⟨w.heap.size + 1, 0, none⟩) 1 1, .slice none 0 0] 48 (0, 0)) := by
    have := heap_alloc_new W1 (.cells #[.int .i64 12, .int .i64 201, .int .i64 1, .int .i64 0, .int .u64 1, .int .u64 0, .int .u64 0, .int .u64 0, .int .u64 0, .int .u64 0, .int .i64 0, .int .u32 0, .int .i64 0, .int .i64 0, .int .i64 0, .int .u64 0, .int .i64 0, .int .i64 0, .int .u64 0, .slice none 0 0, .bool false, .int .i64 0, .slice none 0 0, .slice (some ⟨w.heap.size + 1, 0, none⟩) 1 1, .slice none 0 0] 48 (0, 0))
    rw [sW1] at this
    rw [hW2]; exact this
  have HSR : Hid ((W1.alloc (.cells #[.int .i64 0, .int .i64 0, .int .i64 0, .int .i64 0, .int .u64 0, .int .u64 0, .int .u64 0, .int .u64 0, .int .u64 0, .int .u64 0, .int .i64 0, .int .u32 0, .int .i64 0, .int .i64 0, .int .i64 0, .int .u64 0, .int .i64 0, .int .i64 0, .int .u64 0, .slice none 0 0, .bool false, .int .i64 0, .slice none 0 0, .slice none 0 0, .slice none 0 0] 48 (0, 0))).setRow (w.heap.size + 2) #[.int .i64 12, .int .i64 201, .int .i64 1, .int .i64 0, .int .u64 1, .int .u64 0, .int .u64 0, .int .u64 0, .int .u64 0, .int .u64 0, .int .i64 0, .int .u32 0, .int .i64 0, .int .i64 0, .int .i64 0, .int .u64 0, .int .i64 0, .int .i64 0, .int .u64 0, .slice none 0 0, .bool false, .int .i64 0, .slice none 0 0, .slice (some ⟨w.heap.size + 1, 0, none⟩) 1 1, .slice none 0 0] = W2) := Lib.hid (by
    have := World.setRow_alloc_new W1 #[.int .i64 0, .int .i64 0, .int .i64 0, .int .i64 0, .int .u64 0, .int .u64 0, .int .u64 0, .int .u64 0, .int .u64 0, .int .u64 0, .int .i64 0, .int .u32 0, .int .i64 0, .int .i64 0, .int .i64 0, .int .u64 0, .int .i64 0, .int .i64 0, .int .u64 0, .slice none 0 0, .bool false, .int .i64 0, .slice none 0 0, .slice none 0 0, .slice none 0 0] #[.int .i64 12, .int .i64 201, .int .i64 1, .int .i64 0, .int .u64 1, .int .u64 0, .int .u64 0, .int .u64 0, .int .u64 0, .int .u64 0, .int .i64 0, .int .u32 0, .int .i64 0, .int .i64 0, .int .i64 0, .int .u64 0, .int .i64 0, .int .i64 0, .int .u64 0, .slice none 0 0, .bool false, .int .i64 0, .slice none 0 0, .slice (some ⟨w.heap.size + 1, 0, none⟩) 1 1, .slice none 0 0] 48
    rw [sW1] at this
    rw [hW2]; exact this)
  have HGZ : Hid ((W1.alloc (.cells #[.int .i64 0, .int .i64 0, .int .i64 0, .int .i64 0, .int .u64 0, .int .u64 0, .int .u64 0, .int .u64 0, .int .u64 0, .int .u64 0, .int .i64 0, .int .u32 0, .int .i64 0, .int .i64 0, .int .i64 0, .int .u64 0, .int .i64 0, .int .i64 0, .int .u64 0, .slice none 0 0, .bool false, .int .i64 0, .slice none 0 0, .slice none 0 0, .slice none 0 0] 48 (0, 0))).heap[w.heap.size + 2]? = some (.cells #[.int .i64 0, .int .i64 0, .int .i64 0, .int .i64 0, .int .u64 0, .int .u64 0, .int .u64 0, .int .u64 0, .int .u64 0, .int .u64 0, .int .i64 0, .int .u32 0, .int .i64 0, .int .i64 0, .int .i64 0, .int .u64 0, .int .i64 0, .int .i64 0, .int .u64 0, .slice none 0 0, .bool false, .int .i64 0, .slice none 0 0, .slice none 0 0, .slice none 0 0] 48 (0, 0))) := Lib.hid (by
    have := heap_alloc_new W1 (.cells #[.int .i64 0, .int .i64 0, .int .i64 0, .int .i64 0, .int .u64 0, .int .u64 0, .int .u64 0, .int .u64 0, .int .u64 0, .int .u64 0, .int .i64 0, .int .u32 0, .int .i64 0, .int .i64 0, .int .i64 0, .int .u64 0, .int .i64 0, .int .i64 0, .int .u64 0, .slice none 0 0, .bool false, .int .i64 0, .slice none 0 0, .slice none 0 0, .slice none 0 0] 48 (0, 0))
    rw [sW1] at this
    exact this)
  have hone : (#[.int .i64 12, .int .i64 201, .int .i64 1, .int .i64 0, .int .u64 1, .int .u64 0, .int .u64 0, .int .u64 0, .int .u64 0, .int .u64 0, .int .i64 0, .int .u32 0, .int .i64 0, .int .i64 0, .int .i64 0, .int .u64 0, .int .i64 0, .int .i64 0, .int .u64 0, .slice none 0 0, .bool false, .int .i64 0, .slice none 0 0, .slice (some ⟨w.heap.size + 1, 0, none⟩) 1 1, .slice none 0 0] : Array Value).all (·.oneCell') = true := by rw [← Array.all_toList]; rfl
  have HONE := Lib.hid hone
  have HR2 := Lib.hid hr2
  have HW1 := Lib.hid hW1
  have HS1 := Lib.hid sW1
  have hus := UsAt.one (F := fun k => F k ∨ k = w.heap.size + 1) (x := ⟨y0, y1, y2, y3, y4, y5, y6⟩) (hk12.heap (fun h => h) hr1) (.inr rfl) ((HD.out.kept hk2 (fun _ _ h => h)).mono (fun k _ h => .inl h))
  have HLC := Lib.hid (LCheck_12 W2 (some ⟨w.heap.size + 1, 0, none⟩) 1 [⟨y0, y1, y2, y3, y4, y5, y6⟩] (fun k => F k ∨ k = w.heap.size + 1) hus (fun k h => h.elim (fun h => by have := hF k h; have := hk2.size; omega) (fun h => by have := hk12.size; omega)) (ht.kept hk2 (fun h => h)))
  have HK2 := Lib.hid hk2
  obtain ⟨z, hz⟩ : ∃ z : Int, z = if areUs [⟨y0, y1, y2, y3, y4, y5, y6⟩] then 0 else 4 := ⟨_, rfl⟩
  have hX := HX.out
  rw [← hz] at HLC hX
  have hzc : z = 0 ∨ z = 4 := by
    rw [hz]
    cases areUs [⟨y0, y1, y2, y3, y4, y5, y6⟩]
    · exact .inr rfl
    · exact .inl rfl
  subst hX
  have HZC := Lib.hid hzc
  clear hz HX HCX hzc
  clear hka hb hcx hk ht hF hkb hl hW1 sw sW1 hk1 hr1 hW2 hk2 hk12 hr2 hone hus c0 c1 c2 c4 c5
  obtain ⟨c0, c1, c2, c3', c4, c5, c6'⟩ := cells7 HB.out
  go_enter Tryz.func80, Tryz.ntmps80
  go_wp2_with fail
  refine (HIK.out _).mono ?_
  rintro e w1 ⟨rfl, rfl⟩
  go_upto_region 6 with (first
    | (refine wpList_store_row rfl 48 _ _ rfl (w.heap.size + 2) #[.int .i64 12, .int .i64 201, .int .i64 1, .int .i64 0, .int .u64 1, .int .u64 0, .int .u64 0, .int .u64 0, .int .u64 0, .int .u64 0, .int .i64 0, .int .u32 0, .int .i64 0, .int .i64 0, .int .i64 0, .int .u64 0, .int .i64 0, .int .i64 0, .int .u64 0, .slice none 0 0, .bool false, .int .i64 0, .slice none 0 0, .slice (some ⟨w.heap.size + 1, 0, none⟩) 1 1, .slice none 0 0] rfl rfl 48 #[.int .i64 0, .int .i64 0, .int .i64 0, .int .i64 0, .int .u64 0, .int .u64 0, .int .u64 0, .int .u64 0, .int .u64 0, .int .u64 0, .int .i64 0, .int .u32 0, .int .i64 0, .int .i64 0, .int .i64 0, .int .u64 0, .int .i64 0, .int .i64 0, .int .u64 0, .slice none 0 0, .bool false, .int .i64 0, .slice none 0 0, .slice none 0 0, .slice none 0 0] (by rw [← HW1.out]; exact HGZ.out) (by kernel_rfl) rfl HONE.out ?_; rw [← HW1.out, HSR.out]))
  clear c0 c1 c2 c3 c3' c4 c5 c6 c6'
  go_wp2_with (refine wpList_load_row rfl 48 _ rfl (w.heap.size + 2) rfl 48 #[.int .i64 12, .int .i64 201, .int .i64 1, .int .i64 0, .int .u64 1, .int .u64 0, .int .u64 0, .int .u64 0, .int .u64 0, .int .u64 0, .int .i64 0, .int .u32 0, .int .i64 0, .int .i64 0, .int .i64 0, .int .u64 0, .int .i64 0, .int .i64 0, .int .u64 0, .slice none 0 0, .bool false, .int .i64 0, .slice none 0 0, .slice (some ⟨w.heap.size + 1, 0, none⟩) 1 1, .slice none 0 0] (0, 0) _ HR2.out Tryz.underlying48 rfl (by kernel_rfl) ?_)
  refine HLC.out.mono ?_
  rintro e w3 ⟨rfl, hk3⟩
  have HK3 := Lib.hid (HK2.out.trans hk3 (fun _ _ h => h))
  clear hk3
  rcases HZC.out with rfl | rfl
  all_goals
    go_wp2
    go_ret
    exact ⟨rfl, HK3.out⟩
set_option maxRecDepth 100000 in
set_option maxHeartbeats 4000000 in
theorem checkIn_17 (w : World) (v : Value) (x : Up) (F : Nat → Prop) (h : UpV w F v x) (hF : ∀ k, F k → k < w.heap.size) (ht : Tab10 w) : Calls Tryz.prog 80 #[.int .i64 17, v] w fun e w' => e = .returned (.int .i64 (chkU areReq x)) ∧ Kept NoB w w' := by
  obtain ⟨u, rfl, hd⟩ := h
  have HD := Lib.hid hd
  obtain ⟨va, vc, rfl, _⟩ := hd
  obtain ⟨y0, y1, y2, y3, y4, y5, y6⟩ := x
  simp only at HD ⊢
  have hka := (Kept.refl NoB w).alloc (.cells #[.int .u64 y0, .int .i64 y1, .int .u64 y2, .int .i64 y3, .int .u32 y4, .int .u64 y5, .slice va y6.length vc] 84)
  have HKA := Lib.hid hka
  have hb := heap_alloc_new w (.cells #[.int .u64 y0, .int .i64 y1, .int .u64 y2, .int .i64 y3, .int .u32 y4, .int .u64 y5, .slice va y6.length vc] 84)
  have HB := Lib.hid hb
  obtain ⟨c0, c1, c2, c3, c4, c5, c6⟩ := cells7 hb
  have HIK := Lib.hid (fun w => UisKind_any w y3)
  obtain ⟨cx, hcx⟩ : ∃ z, z = chkU areReq ⟨y0, y1, y2, y3, y4, y5, y6⟩ := ⟨_, rfl⟩
  rw [← hcx]
  have HCX := Lib.hid hcx
  by_cases hk : y3 = 2 ∨ y3 = 3
  rotate_left
  · have HX : Hid (cx = 1) := Lib.hid (by rw [hcx]; unfold chkU; rw [if_pos (by exact hk)])
    have hkb : decide (y3 = 2 ∨ y3 = 3) = false := decide_eq_false hk
    rw [hkb] at HIK
    clear hka hb hcx hk ht hF hkb c0 c1 c2 c4 c5 c6
    go_enter Tryz.func80, Tryz.ntmps80
    go_wp2_with fail
    refine (HIK.out _).mono ?_
    rintro e w1 ⟨rfl, rfl⟩
    go_wp2
    go_ret
    exact ⟨by rw [HX.out]; rfl, HKA.out⟩
  have hkb : decide (y3 = 2 ∨ y3 = 3) = true := decide_eq_true hk
  rw [hkb] at HIK
  by_cases hl : 2048 < y6.length
  · have HX : Hid (cx = 6) := Lib.hid (by rw [hcx]; unfold chkU; rw [if_neg (by exact fun h => h hk), if_pos (by exact hl)])
    have g1 : decide ((2048 : Int) < (y6.length : Int)) = true := decide_eq_true (by omega)
    clear hka hb hcx hk ht hF hkb hl c0 c1 c2 c4 c5
    go_enter Tryz.func80, Tryz.ntmps80
    go_wp2_with fail
    refine (HIK.out _).mono ?_
    rintro e w1 ⟨rfl, rfl⟩
    go_wp2
    go_ret
    exact ⟨by rw [HX.out]; rfl, HKA.out⟩
  have HX : Hid (cx = if areReq [⟨y0, y1, y2, y3, y4, y5, y6⟩] then 0 else 4) := Lib.hid (by rw [hcx]; unfold chkU; rw [if_neg (by exact fun h => h hk), if_neg (by exact hl)])
  have g1 : decide ((2048 : Int) < (y6.length : Int)) = false := decide_eq_false (by omega)
  -- the slice of one, and the letter
  obtain ⟨W1, hW1⟩ : ∃ W1, W1 = (w.alloc (.cells #[.int .u64 y0, .int .i64 y1, .int .u64 y2, .int .i64 y3, .int .u32 y4, .int .u64 y5, .slice va y6.length vc] 84)).alloc (.cells #[.int .u64 y0, .int .i64 y1, .int .u64 y2, .int .i64 y3, .int .u32 y4, .int .u64 y5, .slice va y6.length vc] 84) := ⟨_, rfl⟩
  have sw : (w.alloc (.cells #[.int .u64 y0, .int .i64 y1, .int .u64 y2, .int .i64 y3, .int .u32 y4, .int .u64 y5, .slice va y6.length vc] 84)).heap.size = w.heap.size + 1 := by simp
  have sW1 : W1.heap.size = w.heap.size + 2 := by rw [hW1]; simp
  have hk1 : Kept NoB w W1 := by rw [hW1]; exact hka.alloc _
  have hr1 : W1.heap[w.heap.size + 1]? = some (.cells #[.int .u64 y0, .int .i64 y1, .int .u64 y2, .int .i64 y3, .int .u32 y4, .int .u64 y5, .slice va y6.length vc] 84) := by
    have := heap_alloc_new (w.alloc (.cells #[.int .u64 y0, .int .i64 y1, .int .u64 y2, .int .i64 y3, .int .u32 y4, .int .u64 y5, .slice va y6.length vc] 84)) (.cells #[.int .u64 y0, .int .i64 y1, .int .u64 y2, .int .i64 y3, .int .u32 y4, .int .u64 y5, .slice va y6.length vc] 84)
    rw [sw] at this
    rw [hW1]; exact this
  obtain ⟨W2, hW2⟩ : ∃ W2, W2 = W1.alloc (.cells #[.int .i64 17, .int .i64 201, .int .i64 1, .int .i64 0, .int .u64 1, .int .u64 0, .int .u64 0, .int .u64 0, .int .u64 0, .int .u64 0, .int .i64 0, .int .u32 0, .int .i64 0, .int .i64 0, .int .i64 0, .int .u64 0, .int .i64 0, .int .i64 0, .int .u64 0, .slice none 0 0, .bool false, .int .i64 0, .slice none 0 0, .slice (some ⟨w.heap.size + 1, 0, none⟩) 1 1, .slice none 0 0] 48 (0, 0)) := ⟨_, rfl⟩
  have hk2 : Kept NoB w W2 := by rw [hW2]; exact hk1.alloc _
  have hk12 : Kept NoB W1 W2 := by rw [hW2]; exact (Kept.refl NoB W1).alloc _
  have hr2 : W2.heap[w.heap.size + 2]? = some (.cells #[.int .i64 17, .int .i64 201, .int .i64 1, .int .i64 0, .int .u64 1, .int .u64 0, .int .u64 0, .int .u64 0, .int .u64 0, .int .u64 0, .int .i64 0, .int .u32 0, .int .i64 0, .int .i64 0, .int .i64 0, .int .u64 0, .int .i64 0, .int .i64 0, .int .u64 0, .slice none 0 0, .bool false, .int .i64 0, .slice none 0 0, .slice (some ⟨w.heap.size + 1, 0, none⟩) 1 1, .slice none 0 0] 48 (0, 0)) := by
    have := heap_alloc_new W1 (.cells #[.int .i64 17, .int .i64 201, .int .i64 1, .int .i64 0, .int .u64 1, .int .u64 0, .int .u64 0, .int .u64 0, .int .u64 0, .int .u64 0, .int .i64 0, .int .u32 0, .int .i64 0, .int .i64 0, .int .i64 0, .int .u64 0, .int .i64 0, .int .i64 0, .int .u64 0, .slice none 0 0, .bool false, .int .i64 0, .slice none 0 0, .slice (some ⟨w.heap.size + 1, 0, none⟩) 1 1, .slice none 0 0] 48 (0, 0))
    rw [sW1] at this
    rw [hW2]; exact this
  have HSR : Hid ((W1.alloc (.cells #[.int .i64 0, .int .i64 0, .int .i64 0, .int .i64 0, .int .u64 0, .int .u64 0, .int .u64 0, .int .u64 0, .int .u64 0, .int .u64 0, .int .i64 0, .int .u32 0, .int .i64 0, .int .i64 0, .int .i64 0, .int .u64 0, .int .i64 0, .int .i64 0, .int .u64 0, .slice none 0 0, .bool false, .int .i64 0, .slice none 0 0, .slice none 0 0, .slice none 0 0] 48 (0, 0))).setRow (w.heap.size + 2) #[.int .i64 17, .int .i64 201, .int .i64 1, .int .i64 0, .int .u64 1, .int .u64 0, .int .u64 0, .int .u64 0, .int .u64 0, .int .u64 0, .int .i64 0, .int .u32 0, .int .i64 0, .int .i64 0, .int .i64 0, .int .u64 0, .int .i64 0, .int .i64 0, .int .u64 0, .slice none 0 0, .bool false, .int .i64 0, .slice none 0 0, .slice (some ⟨w.heap.size + 1, 0, none⟩) 1 1, .slice none 0 0] = W2) := Lib.hid (by
    have := World.setRow_alloc_new W1 #[.int .i64 0, .int .i64 0, .int .i64 0, .int .i64 0, .int .u64 0, .int .u64 0, .int .u64 0, .int .u64 0, .int .u64 0, .int .u64 0, .int .i64 0, .int .u32 0, .int .i64 0, .int .i64 0, .int .i64 0, .int .u64 0, .int .i64 0, .int .i64 0, .int .u64 0, .slice none 0 0, .bool false, .int .i64 0, .slice none 0 0, .slice none 0 0, .slice none 0 0] #[.int .i64 17, .int .i64 201, .int .i64 1, .int .i64 0, .int .u64 1, .int .u64 0, .int .u64 0, .int .u64 0, .int .u64 0, .int .u64 0, .int .i64 0, .int .u32 0, .int .i64 0, .int .i64 0, .int .i64 0, .int .u64 0, .int .i64 0, .int .i64 0, .int .u64 0, .slice none 0 0, .bool false, .int .i64 0, .slice none 0 0, .slice (some ⟨w.heap.size + 1, 0, none⟩) 1 1, .slice none 0 0] 48
    rw [sW1] at this
    rw [hW2]; exact this)
  have HGZ : Hid ((W1.alloc (.cells #[.int .i64 0, .int .i64 0, .int .i64 0, .int .i64 0, .int .u64 0, .int .u64 0, .int .u64 0, .int .u64 0, .int .u64 0, .int .u64 0, .int .i64 0, .int .u32 0, .int .i64 0, .int .i64 0, .int .i64 0, .int .u64 0, .int .i64 0, .int .i64 0, .int .u64 0, .slice none 0 0, .bool false, .int .i64 0, .slice none 0 0, .slice none 0 0, .slice none 0 0] 48 (0, 0))).heap[w.heap.size + 2]? = some (.cells #[.int .i64 0, .int .i64 0, .int .i64 0, .int .i64 0, .int .u64 0, .int .u64 0, .int .u64 0, .int .u64 0, .int .u64 0, .int .u64 0, .int .i64 0, .int .u32 0, .int .i64 0, .int .i64 0, .int .i64 0, .int .u64 0, .int .i64 0, .int .i64 0, .int .u64 0, .slice none 0 0, .bool false, .int .i64 0, .slice none 0 0, .slice none 0 0, .slice none 0 0] 48 (0, 0))) := Lib.hid (by
    have := heap_alloc_new W1 (.cells #[.int .i64 0, .int .i64 0, .int .i64 0, .int .i64 0, .int .u64 0, .int .u64 0, .int .u64 0, .int .u64 0, .int .u64 0, .int .u64 0, .int .i64 0, .int .u32 0, .int .i64 0, .int .i64 0, .int .i64 0, .int .u64 0, .int .i64 0, .int .i64 0, .int .u64 0, .slice none 0 0, .bool false, .int .i64 0, .slice none 0 0, .slice none 0 0, .slice none 0 0] 48 (0, 0))
    rw [sW1] at this
    exact this)
  have hone : (#[.int .i64 17, .int .i64 201, .int .i64 1, .int .i64 0, .int .u64 1, .int .u64 0, .int .u64 0, .int .u64 0, .int .u64 0, .int .u64 0, .int .i64 0, .int .u32 0, .int .i64 0, .int .i64 0, .int .i64 0, .int .u64 0, .int .i64 0, .int .i64 0, .int .u64 0, .slice none 0 0, .bool false, .int .i64 0, .slice none 0 0, .slice (some ⟨w.heap.size + 1, 0, none⟩) 1 1, .slice none 0 0] : Array Value).all (·.oneCell') = true := by rw [← Array.all_toList]; rfl
  have HONE := Lib.hid hone
  have HR2 := Lib.hid hr2
  have HW1 := Lib.hid hW1
  have HS1 := Lib.hid sW1
  have hus := UsAt.one (F := fun k => F k ∨ k = w.heap.size + 1) (x := ⟨y0, y1, y2, y3, y4, y5, y6⟩) (hk12.heap (fun h => h) hr1) (.inr rfl) ((HD.out.kept hk2 (fun _ _ h => h)).mono (fun k _ h => .inl h))
  have HLC := Lib.hid (LCheck_17 W2 (some ⟨w.heap.size + 1, 0, none⟩) 1 [⟨y0, y1, y2, y3, y4, y5, y6⟩] (fun k => F k ∨ k = w.heap.size + 1) hus (fun k h => h.elim (fun h => by have := hF k h; have := hk2.size; omega) (fun h => by have := hk12.size; omega)) (ht.kept hk2 (fun h => h)))
  have HK2 := Lib.hid hk2
  obtain ⟨z, hz⟩ : ∃ z : Int, z = if areReq [⟨y0, y1, y2, y3, y4, y5, y6⟩] then 0 else 4 := ⟨_, rfl⟩
  have hX := HX.out
  rw [← hz] at HLC hX
  have hzc : z = 0 ∨ z = 4 := by
    rw [hz]
    cases areReq [⟨y0, y1, y2, y3, y4, y5, y6⟩]
    · exact .inr rfl
    · exact .inl rfl
  subst hX
  have HZC := Lib.hid hzc
  clear hz HX HCX hzc
  clear hka hb hcx hk ht hF hkb hl hW1 sw sW1 hk1 hr1 hW2 hk2 hk12 hr2 hone hus c0 c1 c2 c4 c5
  obtain ⟨c0, c1, c2, c3', c4, c5, c6'⟩ := cells7 HB.out
  go_enter Tryz.func80, Tryz.ntmps80
  go_wp2_with fail
  refine (HIK.out _).mono ?_
  rintro e w1 ⟨rfl, rfl⟩
  go_upto_region 6 with (first
    | (refine wpList_store_row rfl 48 _ _ rfl (w.heap.size + 2) #[.int .i64 17, .int .i64 201, .int .i64 1, .int .i64 0, .int .u64 1, .int .u64 0, .int .u64 0, .int .u64 0, .int .u64 0, .int .u64 0, .int .i64 0, .int .u32 0, .int .i64 0, .int .i64 0, .int .i64 0, .int .u64 0, .int .i64 0, .int .i64 0, .int .u64 0, .slice none 0 0, .bool false, .int .i64 0, .slice none 0 0, .slice (some ⟨w.heap.size + 1, 0, none⟩) 1 1, .slice none 0 0] rfl rfl 48 #[.int .i64 0, .int .i64 0, .int .i64 0, .int .i64 0, .int .u64 0, .int .u64 0, .int .u64 0, .int .u64 0, .int .u64 0, .int .u64 0, .int .i64 0, .int .u32 0, .int .i64 0, .int .i64 0, .int .i64 0, .int .u64 0, .int .i64 0, .int .i64 0, .int .u64 0, .slice none 0 0, .bool false, .int .i64 0, .slice none 0 0, .slice none 0 0, .slice none 0 0] (by rw [← HW1.out]; exact HGZ.out) (by kernel_rfl) rfl HONE.out ?_; rw [← HW1.out, HSR.out]))
  clear c0 c1 c2 c3 c3' c4 c5 c6 c6'
  go_wp2_with (refine wpList_load_row rfl 48 _ rfl (w.heap.size + 2) rfl 48 #[.int .i64 17, .int .i64 201, .int .i64 1, .int .i64 0, .int .u64 1, .int .u64 0, .int .u64 0, .int .u64 0, .int .u64 0, .int .u64 0, .int .i64 0, .int .u32 0, .int .i64 0, .int .i64 0, .int .i64 0, .int .u64 0, .int .i64 0, .int .i64 0, .int .u64 0, .slice none 0 0, .bool false, .int .i64 0, .slice none 0 0, .slice (some ⟨w.heap.size + 1, 0, none⟩) 1 1, .slice none 0 0] (0, 0) _ HR2.out Tryz.underlying48 rfl (by kernel_rfl) ?_)
  refine HLC.out.mono ?_
  rintro e w3 ⟨rfl, hk3⟩
  have HK3 := Lib.hid (HK2.out.trans hk3 (fun _ _ h => h))
  clear hk3
  rcases HZC.out with rfl | rfl
  all_goals
    go_wp2
    go_ret
    exact ⟨rfl, HK3.out⟩
set_option maxRecDepth 100000 in
theorem UAsked_any (w : World) (v : Value) (x : Up) (F : Nat → Prop) (h : UpV w F v x) (hF : ∀ k, F k → k < w.heap.size) (ht : Tab10 w) : Calls Tryz.prog 54 #[v] w fun e w' => e = .returned (.int .i64 (chkU areReq x)) ∧ Kept NoB w w' := by
  obtain ⟨u, rfl, hd⟩ := h
  have HD := Lib.hid hd
  obtain ⟨va, vc, rfl, _⟩ := hd
  obtain ⟨y0, y1, y2, y3, y4, y5, y6⟩ := x
  simp only at HD ⊢
  have hka := (Kept.refl NoB w).alloc (.cells #[.int .u64 y0, .int .i64 y1, .int .u64 y2, .int .i64 y3, .int .u32 y4, .int .u64 y5, .slice va y6.length vc] 84)
  have HKA := Lib.hid hka
  obtain ⟨c0, c1, c2, c3, c4, c5, c6⟩ := cells7 (heap_alloc_new w (.cells #[.int .u64 y0, .int .i64 y1, .int .u64 y2, .int .i64 y3, .int .u32 y4, .int .u64 y5, .slice va y6.length vc] 84))
  have HC := Lib.hid (checkIn_17 (w.alloc (.cells #[.int .u64 y0, .int .i64 y1, .int .u64 y2, .int .i64 y3, .int .u32 y4, .int .u64 y5, .slice va y6.length vc] 84)) _ ⟨y0, y1, y2, y3, y4, y5, y6⟩ F ⟨_, rfl, HD.out.kept hka (fun _ _ h => h)⟩ (fun k h => by have := hF k h; have := hka.size; omega) (ht.kept hka (fun h => h)))
  obtain ⟨z, hz⟩ : ∃ z, z = chkU areReq ⟨y0, y1, y2, y3, y4, y5, y6⟩ := ⟨_, rfl⟩
  rw [← hz] at HC ⊢
  clear hka ht hF hz
  go_enter Tryz.func54, Tryz.ntmps54
  go_wp2_with fail
  refine HC.out.mono ?_
  rintro e w1 ⟨rfl, hk⟩
  have HK := Lib.hid (HKA.out.trans hk (fun _ _ h => h))
  clear hk
  go_wp2
  go_ret
  exact ⟨rfl, HK.out⟩
end Go.Proofs.YtclfecninhipnaaGreatDoor
namespace Go.Proofs.YtclfecninhipnaaGreatDoor
open Go.RowKit
set_option linter.unusedVariables false
set_option linter.unusedSimpArgs false

/-- What the chapter's check tells. -/
def chkR (seq : Bool) (x : Up) : Int :=
  if ¬ (x.k = 2 ∨ x.k = 3) then 1 else if 2048 < x.d.length then 6 else if (decide (0 < x.q) != seq) = true ∨ x.c < 1 ∨ 6 < x.c ∨ x.n = 0 ∨ (x.k = 2 ∧ 0 < x.r) then 4 else 0
end Go.Proofs.YtclfecninhipnaaGreatDoor
namespace Go.Proofs.YtclfecninhipnaaGreatDoor
open Go.RowKit
set_option linter.unusedVariables false
set_option linter.unusedSimpArgs false

theorem isUp_iff (x : Up) (hn : 0 ≤ x.n) (hr : 0 ≤ x.r) (hk : x.k = 2 ∨ x.k = 3) (hl : ¬ 2048 < x.d.length) : isUp x = true ↔ ¬ (x.c < 1 ∨ 6 < x.c ∨ x.n = 0 ∨ (x.k = 2 ∧ 0 < x.r)) := by
  unfold isUp
  rw [decide_eq_true_eq]
  omega
theorem chk_push (x : Up) (h : FitU x) : chkU areUs x = chkR true x := by
  unfold chkU chkR
  by_cases hk : x.k = 2 ∨ x.k = 3
  rotate_left
  · rw [if_pos hk, if_pos hk]
  have hkk : ¬ ¬ (x.k = 2 ∨ x.k = 3) := fun h => h hk
  rw [if_neg hkk, if_neg hkk]
  by_cases hl : 2048 < x.d.length
  · rw [if_pos hl, if_pos hl]
  rw [if_neg hl, if_neg hl]
  have hi := isUp_iff x h.2.2.1 h.2.2.2.2.2.2.1 hk hl
  have ha : areUs [x] = (!decide (x.q < 1) && isUp x) := by unfold areUs; simp
  have hD : ((decide (0 < x.q) != true) = true) ↔ ¬ 0 < x.q := by simp
  have hE : ((!decide (x.q < 1)) = true) ↔ ¬ x.q < 1 := by simp
  have hiff : areUs [x] = true ↔ ¬ ((decide (0 < x.q) != true) = true ∨ x.c < 1 ∨ 6 < x.c ∨ x.n = 0 ∨ (x.k = 2 ∧ 0 < x.r)) := by
    rw [ha, Bool.and_eq_true, hE, hi, hD]
    omega
  by_cases hP : (decide (0 < x.q) != true) = true ∨ x.c < 1 ∨ 6 < x.c ∨ x.n = 0 ∨ (x.k = 2 ∧ 0 < x.r)
  · rw [if_neg (show ¬ areUs [x] = true from fun h => hiff.1 h hP), if_pos hP]
  · rw [if_pos (show areUs [x] = true from hiff.2 hP), if_neg hP]
theorem chk_ask (x : Up) (h : FitU x) : chkU areReq x = chkR false x := by
  unfold chkU chkR
  by_cases hk : x.k = 2 ∨ x.k = 3
  rotate_left
  · rw [if_pos hk, if_pos hk]
  have hkk : ¬ ¬ (x.k = 2 ∨ x.k = 3) := fun h => h hk
  rw [if_neg hkk, if_neg hkk]
  by_cases hl : 2048 < x.d.length
  · rw [if_pos hl, if_pos hl]
  rw [if_neg hl, if_neg hl]
  have hi := isUp_iff x h.2.2.1 h.2.2.2.2.2.2.1 hk hl
  have ha : areReq [x] = (decide (x.q = 0) && isUp x) := by unfold areReq nthU; simp
  have h0 := h.1
  have hD : ((decide (0 < x.q) != false) = true) ↔ 0 < x.q := by simp
  have hiff : areReq [x] = true ↔ ¬ ((decide (0 < x.q) != false) = true ∨ x.c < 1 ∨ 6 < x.c ∨ x.n = 0 ∨ (x.k = 2 ∧ 0 < x.r)) := by
    rw [ha, Bool.and_eq_true, decide_eq_true_eq, hi, hD]
    omega
  by_cases hP : (decide (0 < x.q) != false) = true ∨ x.c < 1 ∨ 6 < x.c ∨ x.n = 0 ∨ (x.k = 2 ∧ 0 < x.r)
  · rw [if_neg (show ¬ areReq [x] = true from fun h => hiff.1 h hP), if_pos hP]
  · rw [if_pos (show areReq [x] = true from hiff.2 hP), if_neg hP]
/-- What URequest tells. -/
def URequestE (w : World) (F : Nat → Prop) (x : Up) (e : Ending) (w' : World) : Prop :=
  ∃ v', e = .returned (.tuple #[v', .int .i64 (chkU areReq x)]) ∧ UpV w' (fun k => F k ∨ w.heap.size ≤ k) v' (if chkU areReq x = 0 then x else up0) ∧ Kept NoB w w'
set_option maxRecDepth 100000 in
set_option maxHeartbeats 2000000 in
theorem URequest_any (w : World) (va : Option Addr) (vc : Nat) (ok oy or op cl nm : Int) (od : List Int) (F : Nat → Prop) (hd : BSl w F (.slice va od.length vc) od) (hF : ∀ k, F k → k < w.heap.size) (ht : Tab10 w) (hl : od.length ≤ 1000000) : Calls Tryz.prog 31 #[.agg #[.int .i64 ok, .int .u32 oy, .int .u64 or, .slice va od.length vc, .int .i64 op], .int .i64 cl, .int .u64 nm] w (URequestE w F ⟨0, cl, nm, ok, oy, or, od⟩) := by
  obtain ⟨W, hW⟩ : ∃ W, W = ((w.alloc (.cells #[.int .i64 ok, .int .u32 oy, .int .u64 or, .slice va od.length vc, .int .i64 op] 26 (0, 0))).alloc (.cells #[.int .u64 0, .int .i64 0, .int .u64 0, .int .i64 0, .int .u32 0, .int .u64 0, .slice none 0 0] 84 (0, 0))).alloc (.cells #[.int .u64 0, .int .i64 cl, .int .u64 nm, .int .i64 ok, .int .u32 oy, .int .u64 or, .slice va od.length vc] 84 (0, 0)) := ⟨_, rfl⟩
  have hk : Kept NoB w W := by rw [hW]; exact (((Kept.refl NoB w).alloc _).alloc _).alloc _
  have s1 : (w.alloc (.cells #[.int .i64 ok, .int .u32 oy, .int .u64 or, .slice va od.length vc, .int .i64 op] 26 (0, 0))).heap.size = w.heap.size + 1 := by simp
  have s2 : ((w.alloc (.cells #[.int .i64 ok, .int .u32 oy, .int .u64 or, .slice va od.length vc, .int .i64 op] 26 (0, 0))).alloc (.cells #[.int .u64 0, .int .i64 0, .int .u64 0, .int .i64 0, .int .u32 0, .int .u64 0, .slice none 0 0] 84 (0, 0))).heap.size = w.heap.size + 2 := by simp
  have hr1 : W.heap[w.heap.size + 1]? = some (.cells #[.int .u64 0, .int .i64 0, .int .u64 0, .int .i64 0, .int .u32 0, .int .u64 0, .slice none 0 0] 84 (0, 0)) := by
    have := heap_alloc_new (w.alloc (.cells #[.int .i64 ok, .int .u32 oy, .int .u64 or, .slice va od.length vc, .int .i64 op] 26 (0, 0))) (.cells #[.int .u64 0, .int .i64 0, .int .u64 0, .int .i64 0, .int .u32 0, .int .u64 0, .slice none 0 0] 84 (0, 0))
    rw [s1] at this
    rw [hW]; exact blkU_alloc this _
  have hr2 : W.heap[w.heap.size + 2]? = some (.cells #[.int .u64 0, .int .i64 cl, .int .u64 nm, .int .i64 ok, .int .u32 oy, .int .u64 or, .slice va od.length vc] 84 (0, 0)) := by
    have := heap_alloc_new ((w.alloc (.cells #[.int .i64 ok, .int .u32 oy, .int .u64 or, .slice va od.length vc, .int .i64 op] 26 (0, 0))).alloc (.cells #[.int .u64 0, .int .i64 0, .int .u64 0, .int .i64 0, .int .u32 0, .int .u64 0, .slice none 0 0] 84 (0, 0))) (.cells #[.int .u64 0, .int .i64 cl, .int .u64 nm, .int .i64 ok, .int .u32 oy, .int .u64 or, .slice va od.length vc] 84 (0, 0))
    rw [s2] at this
    rw [hW]; exact this
  have HR1 := Lib.hid hr1
  have HR2 := Lib.hid hr2
  have HK := Lib.hid hk
  have hx : UpV W F (.agg #[.int .u64 0, .int .i64 cl, .int .u64 nm, .int .i64 ok, .int .u32 oy, .int .u64 or, .slice va od.length vc]) ⟨0, cl, nm, ok, oy, or, od⟩ := ⟨_, rfl, hd.kept hk (fun _ _ h => h)⟩
  have HX := Lib.hid hx
  have HF := Lib.hid hF
  have HA := Lib.hid (UAsked_any W _ ⟨0, cl, nm, ok, oy, or, od⟩ F hx (fun k h => by have := hF k h; have := hk.size; omega) (ht.kept hk (fun h => h)))
  have HW := Lib.hid hW
  have HL := Lib.hid hl
  have b := heap_alloc_new w (.cells #[.int .i64 ok, .int .u32 oy, .int .u64 or, .slice va od.length vc, .int .i64 op] 26 (0, 0))
  have b' := blkU_alloc b (.cells #[.int .u64 0, .int .i64 0, .int .u64 0, .int .i64 0, .int .u32 0, .int .u64 0, .slice none 0 0] 84 (0, 0))
  have o0 := cell_of_row _ _ 0 _ _ _ b'
  have o1 := cell_of_row _ _ 1 _ _ _ b'
  have o2 := cell_of_row _ _ 2 _ _ _ b'
  have o3 := cell_of_row _ _ 3 _ _ _ b'
  simp only [List.getElem?_toArray, List.getElem?_cons_zero, List.getElem?_cons_succ] at o0 o1 o2 o3
  obtain ⟨z, hz⟩ : ∃ z : Int, z = chkU areReq ⟨0, cl, nm, ok, oy, or, od⟩ := ⟨_, rfl⟩
  have HZ := Lib.hid hz
  rw [← hz] at HA
  clear hr1 hr2 hk s1 s2 hW hd hF hx b b' hz hl ht
  go_enter Tryz.func31, Tryz.ntmps31
  go_wp2_with fail
  rw [← HW.out]
  obtain ⟨c0, c1, c2, c3, c4, c5, c6⟩ := cells7 HR2.out
  go_wp2_with fail
  refine HA.out.mono ?_
  rintro e w1 ⟨rfl, hk1⟩
  have HK1 := Lib.hid hk1
  clear c0 c1 c2 c3 c4 c5 c6 o0 o1 o2 o3 hk1
  have hq1 := HK1.out.heap (fun h => h) HR1.out
  have HQ1 := Lib.hid hq1
  obtain ⟨r0, r1, r2, r3, r4, r5, r6⟩ := cells7 hq1
  have zf := blkU_frozen hq1
  obtain ⟨c0, c1, c2, c3, c4, c5, c6⟩ := cells7 (HK1.out.heap (fun h => h) HR2.out)
  clear hq1
  by_cases hz0 : z = 0
  rotate_left
  · have gz : (z != 0) = true := by simpa using hz0
    have HN := Lib.hid hz0
    clear hz0
    go_wp2
    have hF := seven17_at HQ1.out (.int .u64 0) (.int .i64 0) (.int .u64 0) (.int .i64 0) (.int .u32 0) (.int .u64 0) (.slice none 0 0)
    have hK := (HK.out.trans HK1.out (fun _ _ h => h)).seven17 (b := w.heap.size + 1) (.inr (by omega)) 0 (.int .u64 0) (.int .i64 0) (.int .u64 0) (.int .i64 0) (.int .u32 0) (.int .u64 0) (.slice none 0 0)
    clear c0 c1 c2 c3 c4 c5 c6 r0 r1 r2 r3 r4 r5 r6 zf
    obtain ⟨r0, r1, r2, r3, r4, r5, r6⟩ := cells7 hF
    clear hF
    unfold seven17 at r0 r1 r2 r3 r4 r5 r6 hK
    simp only [Nat.zero_add] at r0 r1 r2 r3 r4 r5 r6 hK
    generalize hW3 : World.setCell _ _ _ = W3 at r0 r1 r2 r3 r4 r5 r6 hK ⊢
    refine bodyPost_ret (v := .tuple #[.agg #[.int .u64 0, .int .i64 0, .int .u64 0, .int .i64 0, .int .u32 0, .int .u64 0, .slice none 0 0], .int .i64 z]) (by simp [results, Tryz.results31, go_sem, r0, r1, r2, r3, r4, r5, r6]) rfl ⟨_, by rw [← HZ.out], ?_, hK⟩
    rw [← HZ.out, if_neg HN.out]
    exact ⟨_, rfl, BSl.nil _ _⟩
  · have gz : (z != 0) = false := by simp [hz0]
    subst hz0
    go_wp2_with fail
    refine (UCopyOf_any w1 _ ⟨0, cl, nm, ok, oy, or, od⟩ F (HX.out.no HK1.out) HL.out).mono ?_
    rintro e w2 ⟨v2, rfl, hv2, hk2⟩
    obtain ⟨u2, rfl, hu2⟩ := hv2
    obtain ⟨ua2, uc2, rfl⟩ := own_form hu2.2.1
    have HU2 := Lib.hid hu2.bsl
    have HK2 := Lib.hid ((HK.out.trans HK1.out (fun _ _ h => h)).trans hk2 (fun _ _ h => h))
    have hq2 := hk2.heap (fun h => h) HQ1.out
    have HQ2 := Lib.hid hq2
    have HS1 := Lib.hid (show w.heap.size + 2 < w1.heap.size from heap_lt (HK1.out.heap (fun h => h) HR2.out))
    clear c0 c1 c2 c3 c4 c5 c6 r0 r1 r2 r3 r4 r5 r6 zf hu2 hk2
    obtain ⟨r0, r1, r2, r3, r4, r5, r6⟩ := cells7 hq2
    have zf := blkU_frozen hq2
    clear hq2
    go_wp2
    have hF := seven17_at HQ2.out (.int .u64 0) (.int .i64 cl) (.int .u64 nm) (.int .i64 ok) (.int .u32 oy) (.int .u64 or) (.slice ua2 od.length uc2)
    have hK := HK2.out.seven17 (b := w.heap.size + 1) (.inr (by omega)) 0 (.int .u64 0) (.int .i64 cl) (.int .u64 nm) (.int .i64 ok) (.int .u32 oy) (.int .u64 or) (.slice ua2 od.length uc2)
    have hB := HU2.out.kept ((Kept.refl (fun k => k = w.heap.size + 1) w2).seven17 (b := w.heap.size + 1) (.inl rfl) 0 (.int .u64 0) (.int .i64 cl) (.int .u64 nm) (.int .i64 ok) (.int .u32 oy) (.int .u64 or) (.slice ua2 od.length uc2)) (fun k h h' => by have := HS1.out; have h2 : w1.heap.size ≤ k := h; omega)
    clear r0 r1 r2 r3 r4 r5 r6 zf
    obtain ⟨r0, r1, r2, r3, r4, r5, r6⟩ := cells7 hF
    clear hF
    unfold seven17 at r0 r1 r2 r3 r4 r5 r6 hK hB
    simp only [Nat.zero_add] at r0 r1 r2 r3 r4 r5 r6 hK hB
    generalize hW3 : World.setCell _ _ _ = W3 at r0 r1 r2 r3 r4 r5 r6 hK hB ⊢
    refine bodyPost_ret (v := .tuple #[.agg #[.int .u64 0, .int .i64 cl, .int .u64 nm, .int .i64 ok, .int .u32 oy, .int .u64 or, .slice ua2 od.length uc2], .int .i64 0]) (by simp [results, Tryz.results31, go_sem, r0, r1, r2, r3, r4, r5, r6]) rfl ⟨_, by rw [← HZ.out], ?_, hK⟩
    rw [← HZ.out, if_pos rfl]
    exact ⟨_, rfl, hB.mono (fun k _ h => .inr (by have := HS1.out; have h2 : w1.heap.size ≤ k := h; omega))⟩
/-- What RRequest tells. -/
def RRequestE (w : World) (F : Nat → Prop) (x : Up) (e : Ending) (w' : World) : Prop :=
  ∃ v', e = .returned (.tuple #[v', .int .i64 (chkR false x)]) ∧ UpV w' (fun k => F k ∨ w.heap.size ≤ k) v' (if chkR false x = 0 then x else up0) ∧ Kept NoB w w'
end Go.Proofs.YtclfecninhipnaaGreatDoor
namespace Go.Proofs.YtclfecninhipnaaGreatDoor
open Go.ChangeShapes Go.WideShapes Go.ChangeAt Go.RowKit Go.Deep
set_option linter.unusedVariables false

/-- The builder with the listed variables' condition and the world's shape. -/
theorem returns_and_shaped10 {H : Type} {enc : TypeId × Value → H} {a : Assume} {C : Checked} {os : Os} {f : FuncId} {fn : Func} {s : ChangeSpec} {conds : List PathCond} {apart fresh handsOn again : Bool} {X : World → Array Value → Prop}
    (hX : ∀ (w w' : World) (args : Array Value), w.heap = w'.heap → X w args → X w' args)
    (own : ownKnob C.prog.godebug = none) (started : os.Started) (noInit : C.prog.inits.idxOf? f = none) (hfn : C.prog.funcs[f]? = some fn)
    (witness : ∃ (w : World) (tape : Tape) (i : Input), w.os = os ∧ (w.forCall tape i).Shaped C.prog ∧ i.vars = [] ∧ Input.okWide C.prog (w.forCall tape i) .any w.heap.size f i ∧
      ((s.pre enc C.prog fn conds apart (w.forCall tape i).memory i.args ∧ X (w.forCall tape i).memory i.args) ∧ sizedMet enc C.prog fn (OpenSpec.ofChange s) apart (w.forCall tape i).memory i.args) ∧ a.holds C.prog (lone (Frame.enter C.prog f i.args .normal) [] (w.forCall tape i)))
    (contract : ∀ (W : World) (base : Nat) (args : Array Value) (ds gs : List (DataW H)) (before : List MemPlace),
      (∀ (j : Nat) t v, fn.params[j]? = some t → args[j]? = some v → Value.okWide C.prog W .any base t v) →
      DataW.Whole enc C.prog fn.params.toList s.vars apart W args.toList ds gs before →
      X W args → W.ShapedOpen C.prog →
      Calls C.prog f args W fun e W' => ∃ v, e = .returned v ∧ s.post enc C.prog fn apart fresh handsOn again W args v W') :
    ReturnsInHanded a C os f .any (fun w args => (s.pre enc C.prog fn conds apart w args ∧ X w args) ∧ sizedMet enc C.prog fn (OpenSpec.ofChange s) apart w args) (s.post enc C.prog fn apart fresh handsOn again) := by
  refine returnsInHanded_of_calls own started noInit witness ?_
  intro w tape i _ hsh _ hok hpre hholds
  obtain ⟨_, _, _, fn', hfn', _, _, _, _, hval⟩ := hok
  have e : fn' = fn := Option.some.inj (hfn'.symm.trans hfn)
  subst e
  obtain ⟨⟨⟨ds, gs, before, hw, hc⟩, hx⟩, hz⟩ := hpre
  have hw' := DataW.Whole.of_heap (w' := w.forCall tape i) (by rfl) hw
  refine (contract (w.forCall tape i) w.heap.size i.args ds gs before hval hw' (hX _ _ _ (by rfl) hx) hsh).mono fun e W' ⟨v, he, hp⟩ => ?_
  subst he
  exact ChangeSpec.post_blind hp
theorem tKp : (Tryz.prog.globals[0]?).map (·.type) = some 132 := by kernel_rfl
theorem kp_is {H : Type} : (Rows.laid_catenary_letter_kindParts : DataW H) = Lib.tabData .u32 kpTab := by rfl
theorem tab10_of {W : World} {r : List (String × DataW Unit)} (hL : laidMet Tryz.prog (("catenary/letter.kindParts", Rows.laid_catenary_letter_kindParts) :: r) W) : Tab10 W := by
  have h : laidMet Tryz.prog (("catenary/letter.kindParts", Lib.tabData .u32 kpTab) :: r) W := kp_is ▸ hL
  exact Lib.tabIs_of_head gKp tKp Tryz.underlying132 Tryz.underlying22 (by kernel_rfl) (by kernel_rfl) h
section
variable {H : Type} {enc : TypeId × Value → H} {W : World} {base b0 : Nat}
/-- An operation on a block: Kind, Key, Ver, Data, Pick. -/
structure Bo where
  k : Int
  key : Int
  r : Int
  d : List Int
  p : Int
set_option maxRecDepth 100000 in
/-- An operation by value. -/
theorem bo_open {r : Reach} {v : Value} {d : DataW H} {p : List MemPlace} (hv : Value.okWide Tryz.prog W r b0 26 v)
    (h : DataW.Trod enc Tryz.prog W base (fun _ => true) true 26 v d p) : ∃ o : Bo, (∃ a c, v = .agg #[.int .i64 o.k, .int .u32 o.key, .int .u64 o.r, .slice a o.d.length c, .int .i64 o.p] ∧ BSl W (fun k => k < W.heap.size) (.slice a o.d.length c) o.d) ∧ 0 ≤ o.key ∧ o.key ≤ 4294967295 ∧ 0 ≤ o.r ∧ o.r ≤ 18446744073709551615 := by
  obtain ⟨cs, rfl, hsz⟩ := okWide_struct Tryz.underlying26 hv
  have hC : Tryz.prog.cellsOf 26 = 5 := by kernel_rfl
  obtain ⟨l⟩ := cs
  obtain ⟨c0, c1, c2, c3, c4, rfl⟩ := list5u (cs := l) (hsz.trans hC)
  obtain ⟨fuel, hf⟩ := h
  obtain ⟨xs, n', _, _, _, hxl, hg⟩ := DataW.trod_struct Tryz.underlying26 (by simpa [Value.cells] using hf)
  have hxl5 : xs.length = 5 := hxl
  match xs, hxl5 with
  | [y0, y1, y2, y3, y4], _ =>
    have g0 : DataW.trod enc Tryz.prog W base (fun _ => true) true n' 3 [c0] = some y0 := hg 0 _ rfl
    have g1 : DataW.trod enc Tryz.prog W base (fun _ => true) true n' 22 [c1] = some y1 := hg 1 _ rfl
    have g2 : DataW.trod enc Tryz.prog W base (fun _ => true) true n' 23 [c2] = some y2 := hg 2 _ rfl
    have g3 : DataW.trod enc Tryz.prog W base (fun _ => true) true n' 24 [c3] = some y3 := hg 3 _ rfl
    have g4 : DataW.trod enc Tryz.prog W base (fun _ => true) true n' 3 [c4] = some y4 := hg 4 _ rfl
    obtain ⟨k0, e0, _, w0⟩ := DataW.trod_int Tryz.underlying3 g0
    obtain ⟨k1, e1, _, w1⟩ := DataW.trod_int Tryz.underlying22 g1
    obtain ⟨k2, e2, _, w2⟩ := DataW.trod_int Tryz.underlying23 g2
    obtain ⟨l, hl⟩ := bsl_cell17 g3
    obtain ⟨k4, e4, _, w4⟩ := DataW.trod_int Tryz.underlying3 g4
    simp only [List.cons.injEq, and_true] at e0 e1 e2 e4
    subst e0 e1 e2 e4
    have hk1 := bounds_u32 w1
    have hk2 := bounds_u64 w2
    obtain ⟨a, c, rfl, rest⟩ := id hl
    exact ⟨⟨k0, k1, k2, l, k4⟩, ⟨a, c, rfl, hl⟩, hk1.1, hk1.2, hk2.1, hk2.2⟩
end
end Go.Proofs.YtclfecninhipnaaGreatDoor
