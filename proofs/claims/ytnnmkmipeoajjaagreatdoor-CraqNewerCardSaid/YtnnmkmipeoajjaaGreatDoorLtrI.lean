/-
  Package letter: Check of an update's letter.
-/
import Derived.Test.YtnnmkmipeoajjaaGreatDoorLtrH
import Derived.Deep.WholeRow
namespace Go.Proofs.YtnnmkmipeoajjaaGreatDoor
open Go.RowKit
set_option linter.unusedVariables false
set_option linter.unusedSimpArgs false

def jN (j : Nat) : Int := (j : Int)
theorem q4_inj {x : Q4} {f1 f2 f3 f4 : FuncId} {br bp bg ba : Nat} (h : q4v x = PartAg f1 f2 f3 f4 br bp bg ba) : x.a = .func (.func f1) #[] #[pb br, pb ba] ∧ x.b = .func (.func f2) #[] #[pb bp, pb ba] ∧ x.c = .func (.func f3) #[] #[pb bg, pb ba] ∧ x.d = .func (.func f4) #[] #[pb ba] := by
  unfold q4v PartAg at h
  injection h with h
  simpa using h

set_option maxRecDepth 100000 in
def RestSt12 (ua : Option Addr) (uc : Nat) (l : List Up) (j : Nat) : Array Value :=
  match j with
  | 0 => #[.int .i64 0, .int .i64 0, .int .i64 0, .int .i64 0, .int .u64 1, .int .u64 0, .int .u64 0, .int .u64 0, .int .u64 0, .int .u64 0, .int .i64 0, .int .u32 0, .int .i64 0, .int .i64 0, .int .i64 0, .int .u64 0, .int .i64 0, .int .i64 0, .int .u64 0, .slice none 0 0, .bool false, .int .i64 0, .slice none 0 0, .slice ua l.length uc, .slice none 0 0]
  | 1 => #[.int .i64 0, .int .i64 0, .int .i64 0, .int .i64 0, .int .u64 1, .int .u64 0, .int .u64 0, .int .u64 0, .int .u64 0, .int .u64 0, .int .i64 0, .int .u32 0, .int .i64 0, .int .i64 0, .int .i64 0, .int .u64 0, .int .i64 0, .int .i64 0, .int .u64 0, .slice none 0 0, .bool false, .int .i64 0, .slice none 0 0, .slice ua l.length uc, .slice none 0 0]
  | 2 => #[.int .i64 0, .int .i64 0, .int .i64 0, .int .i64 0, .int .u64 0, .int .u64 0, .int .u64 0, .int .u64 0, .int .u64 0, .int .u64 0, .int .i64 0, .int .u32 0, .int .i64 0, .int .i64 0, .int .i64 0, .int .u64 0, .int .i64 0, .int .i64 0, .int .u64 0, .slice none 0 0, .bool false, .int .i64 0, .slice none 0 0, .slice ua l.length uc, .slice none 0 0]
  | 3 => #[.int .i64 0, .int .i64 0, .int .i64 0, .int .i64 0, .int .u64 0, .int .u64 0, .int .u64 0, .int .u64 0, .int .u64 0, .int .u64 0, .int .i64 0, .int .u32 0, .int .i64 0, .int .i64 0, .int .i64 0, .int .u64 0, .int .i64 0, .int .i64 0, .int .u64 0, .slice none 0 0, .bool false, .int .i64 0, .slice none 0 0, .slice ua l.length uc, .slice none 0 0]
  | 4 => #[.int .i64 0, .int .i64 0, .int .i64 0, .int .i64 0, .int .u64 0, .int .u64 0, .int .u64 0, .int .u64 0, .int .u64 0, .int .u64 0, .int .i64 0, .int .u32 0, .int .i64 0, .int .i64 0, .int .i64 0, .int .u64 0, .int .i64 0, .int .i64 0, .int .u64 0, .slice none 0 0, .bool false, .int .i64 0, .slice none 0 0, .slice ua l.length uc, .slice none 0 0]
  | 5 => #[.int .i64 0, .int .i64 0, .int .i64 0, .int .i64 0, .int .u64 0, .int .u64 0, .int .u64 0, .int .u64 0, .int .u64 0, .int .u64 0, .int .i64 0, .int .u32 0, .int .i64 0, .int .i64 0, .int .i64 0, .int .u64 0, .int .i64 0, .int .i64 0, .int .u64 0, .slice none 0 0, .bool false, .int .i64 0, .slice none 0 0, .slice none 0 0, .slice none 0 0]
  | _ => #[.int .i64 0, .int .i64 0, .int .i64 0, .int .i64 0, .int .u64 0, .int .u64 0, .int .u64 0, .int .u64 0, .int .u64 0, .int .u64 0, .int .i64 0, .int .u32 0, .int .i64 0, .int .i64 0, .int .i64 0, .int .u64 0, .int .i64 0, .int .i64 0, .int .u64 0, .slice none 0 0, .bool false, .int .i64 0, .slice none 0 0, .slice none 0 0, .slice none 0 0]
def ChkRel12 (w W : World) (g : Nat) (ua : Option Addr) (uc : Nat) (l : List Up) (jv : Value) (wr : World) : Prop :=
  ∃ j, j ≤ 5 ∧ jv = .int .i64 (jN j) ∧ wr.heap[g]? = some (.cells (RestSt12 ua uc l j) 122 (0, 0)) ∧ (5 ≤ j → areUs l = true) ∧ Kept (fun k => k = g) W wr
theorem rest12_set0 (ua : Option Addr) (uc : Nat) (l : List Up) : (RestSt12 ua uc l 0).setIfInBounds 3 (.int .i64 0) = RestSt12 ua uc l 1 := by rfl
theorem rest12_row0 {w : World} {g : Nat} {ua : Option Addr} {uc : Nat} {l : List Up} (h : w.heap[g]? = some (.cells (RestSt12 ua uc l 0) 122 (0, 0))) : (w.setCell ⟨g, 3, none⟩ (.int .i64 0)).heap[g]? = some (.cells (RestSt12 ua uc l 1) 122 (0, 0)) := by rw [← rest12_set0]; exact blkU_set h 3 _
theorem rest12_len0 (ua : Option Addr) (uc : Nat) (l : List Up) : (RestSt12 ua uc l 0).size = 25 := by rfl
theorem rest12_set1 (ua : Option Addr) (uc : Nat) (l : List Up) : (RestSt12 ua uc l 1).setIfInBounds 4 (.int .u64 0) = RestSt12 ua uc l 2 := by rfl
theorem rest12_row1 {w : World} {g : Nat} {ua : Option Addr} {uc : Nat} {l : List Up} (h : w.heap[g]? = some (.cells (RestSt12 ua uc l 1) 122 (0, 0))) : (w.setCell ⟨g, 4, none⟩ (.int .u64 0)).heap[g]? = some (.cells (RestSt12 ua uc l 2) 122 (0, 0)) := by rw [← rest12_set1]; exact blkU_set h 4 _
theorem rest12_len1 (ua : Option Addr) (uc : Nat) (l : List Up) : (RestSt12 ua uc l 1).size = 25 := by rfl
theorem rest12_set2 (ua : Option Addr) (uc : Nat) (l : List Up) : (RestSt12 ua uc l 2).setIfInBounds 7 (.int .u64 0) = RestSt12 ua uc l 3 := by rfl
theorem rest12_row2 {w : World} {g : Nat} {ua : Option Addr} {uc : Nat} {l : List Up} (h : w.heap[g]? = some (.cells (RestSt12 ua uc l 2) 122 (0, 0))) : (w.setCell ⟨g, 7, none⟩ (.int .u64 0)).heap[g]? = some (.cells (RestSt12 ua uc l 3) 122 (0, 0)) := by rw [← rest12_set2]; exact blkU_set h 7 _
theorem rest12_len2 (ua : Option Addr) (uc : Nat) (l : List Up) : (RestSt12 ua uc l 2).size = 25 := by rfl
theorem rest12_set3 (ua : Option Addr) (uc : Nat) (l : List Up) : (RestSt12 ua uc l 3).setIfInBounds 8 (.int .u64 0) = RestSt12 ua uc l 4 := by rfl
theorem rest12_row3 {w : World} {g : Nat} {ua : Option Addr} {uc : Nat} {l : List Up} (h : w.heap[g]? = some (.cells (RestSt12 ua uc l 3) 122 (0, 0))) : (w.setCell ⟨g, 8, none⟩ (.int .u64 0)).heap[g]? = some (.cells (RestSt12 ua uc l 4) 122 (0, 0)) := by rw [← rest12_set3]; exact blkU_set h 8 _
theorem rest12_len3 (ua : Option Addr) (uc : Nat) (l : List Up) : (RestSt12 ua uc l 3).size = 25 := by rfl
theorem rest12_set4 (ua : Option Addr) (uc : Nat) (l : List Up) : (RestSt12 ua uc l 4).setIfInBounds 23 (.slice none 0 0) = RestSt12 ua uc l 5 := by rfl
theorem rest12_row4 {w : World} {g : Nat} {ua : Option Addr} {uc : Nat} {l : List Up} (h : w.heap[g]? = some (.cells (RestSt12 ua uc l 4) 122 (0, 0))) : (w.setCell ⟨g, 23, none⟩ (.slice none 0 0)).heap[g]? = some (.cells (RestSt12 ua uc l 5) 122 (0, 0)) := by rw [← rest12_set4]; exact blkU_set h 23 _
theorem rest12_len4 (ua : Option Addr) (uc : Nat) (l : List Up) : (RestSt12 ua uc l 4).size = 25 := by rfl
theorem rest12_end (ua : Option Addr) (uc : Nat) (l : List Up) : RestSt12 ua uc l 5 = #[.int .i64 0, .int .i64 0, .int .i64 0, .int .i64 0, .int .u64 0, .int .u64 0, .int .u64 0, .int .u64 0, .int .u64 0, .int .u64 0, .int .i64 0, .int .u32 0, .int .i64 0, .int .i64 0, .int .i64 0, .int .u64 0, .int .i64 0, .int .i64 0, .int .u64 0, .slice none 0 0, .bool false, .int .i64 0, .slice none 0 0, .slice none 0 0, .slice none 0 0] := by rfl
theorem let12_3 {w : World} {g : Nat} {ua : Option Addr} {uc : Nat} {l : List Up} (h : w.heap[g]? = some (.cells #[.int .i64 12, .int .i64 201, .int .i64 1, .int .i64 0, .int .u64 1, .int .u64 0, .int .u64 0, .int .u64 0, .int .u64 0, .int .u64 0, .int .i64 0, .int .u32 0, .int .i64 0, .int .i64 0, .int .i64 0, .int .u64 0, .int .i64 0, .int .i64 0, .int .u64 0, .slice none 0 0, .bool false, .int .i64 0, .slice none 0 0, .slice ua l.length uc, .slice none 0 0] 122 (0, 0))) : w.cell? ⟨g, 3, none⟩ = some (.int .i64 0) := cell_of_row _ _ 3 _ _ _ h
theorem let12_4 {w : World} {g : Nat} {ua : Option Addr} {uc : Nat} {l : List Up} (h : w.heap[g]? = some (.cells #[.int .i64 12, .int .i64 201, .int .i64 1, .int .i64 0, .int .u64 1, .int .u64 0, .int .u64 0, .int .u64 0, .int .u64 0, .int .u64 0, .int .i64 0, .int .u32 0, .int .i64 0, .int .i64 0, .int .i64 0, .int .u64 0, .int .i64 0, .int .i64 0, .int .u64 0, .slice none 0 0, .bool false, .int .i64 0, .slice none 0 0, .slice ua l.length uc, .slice none 0 0] 122 (0, 0))) : w.cell? ⟨g, 4, none⟩ = some (.int .u64 1) := cell_of_row _ _ 4 _ _ _ h
theorem let12_7 {w : World} {g : Nat} {ua : Option Addr} {uc : Nat} {l : List Up} (h : w.heap[g]? = some (.cells #[.int .i64 12, .int .i64 201, .int .i64 1, .int .i64 0, .int .u64 1, .int .u64 0, .int .u64 0, .int .u64 0, .int .u64 0, .int .u64 0, .int .i64 0, .int .u32 0, .int .i64 0, .int .i64 0, .int .i64 0, .int .u64 0, .int .i64 0, .int .i64 0, .int .u64 0, .slice none 0 0, .bool false, .int .i64 0, .slice none 0 0, .slice ua l.length uc, .slice none 0 0] 122 (0, 0))) : w.cell? ⟨g, 7, none⟩ = some (.int .u64 0) := cell_of_row _ _ 7 _ _ _ h
theorem let12_8 {w : World} {g : Nat} {ua : Option Addr} {uc : Nat} {l : List Up} (h : w.heap[g]? = some (.cells #[.int .i64 12, .int .i64 201, .int .i64 1, .int .i64 0, .int .u64 1, .int .u64 0, .int .u64 0, .int .u64 0, .int .u64 0, .int .u64 0, .int .i64 0, .int .u32 0, .int .i64 0, .int .i64 0, .int .i64 0, .int .u64 0, .int .i64 0, .int .i64 0, .int .u64 0, .slice none 0 0, .bool false, .int .i64 0, .slice none 0 0, .slice ua l.length uc, .slice none 0 0] 122 (0, 0))) : w.cell? ⟨g, 8, none⟩ = some (.int .u64 0) := cell_of_row _ _ 8 _ _ _ h
theorem let12_23 {w : World} {g : Nat} {ua : Option Addr} {uc : Nat} {l : List Up} (h : w.heap[g]? = some (.cells #[.int .i64 12, .int .i64 201, .int .i64 1, .int .i64 0, .int .u64 1, .int .u64 0, .int .u64 0, .int .u64 0, .int .u64 0, .int .u64 0, .int .i64 0, .int .u32 0, .int .i64 0, .int .i64 0, .int .i64 0, .int .u64 0, .int .i64 0, .int .i64 0, .int .u64 0, .slice none 0 0, .bool false, .int .i64 0, .slice none 0 0, .slice ua l.length uc, .slice none 0 0] 122 (0, 0))) : w.cell? ⟨g, 23, none⟩ = some (.slice ua l.length uc) := cell_of_row _ _ 23 _ _ _ h
set_option maxRecDepth 100000 in
set_option maxHeartbeats 4000000 in
theorem LCheck_12 (w : World) (ua : Option Addr) (uc : Nat) (l : List Up) (F : Nat → Prop) (hx : UsAt w F (.slice ua l.length uc) l) (hF : ∀ k, F k → k < w.heap.size) (ht : Tab10 w) : Calls Tryz.prog 61 #[.agg #[.int .i64 12, .int .i64 201, .int .i64 1, .int .i64 0, .int .u64 1, .int .u64 0, .int .u64 0, .int .u64 0, .int .u64 0, .int .u64 0, .int .i64 0, .int .u32 0, .int .i64 0, .int .i64 0, .int .i64 0, .int .u64 0, .int .i64 0, .int .i64 0, .int .u64 0, .slice none 0 0, .bool false, .int .i64 0, .slice none 0 0, .slice ua l.length uc, .slice none 0 0]] w fun e w' => e = .returned (.int .i64 (if areUs l then 0 else 4)) ∧ Kept NoB w w' := by
  obtain ⟨eb, heb⟩ : ∃ x : Int, x = if areUs l then 0 else 4 := ⟨_, rfl⟩
  rw [← heb]
  have HEB : Hid ((areUs l = true → eb = 0) ∧ (areUs l = false → eb = 4)) := Lib.hid ⟨fun h => by rw [heb, h]; rfl, fun h => by rw [heb, h]; rfl⟩
  clear heb
  obtain ⟨W0, hW0⟩ : ∃ W0, W0 = (w.alloc (.cells #[.int .i64 12, .int .i64 201, .int .i64 1, .int .i64 0, .int .u64 1, .int .u64 0, .int .u64 0, .int .u64 0, .int .u64 0, .int .u64 0, .int .i64 0, .int .u32 0, .int .i64 0, .int .i64 0, .int .i64 0, .int .u64 0, .int .i64 0, .int .i64 0, .int .u64 0, .slice none 0 0, .bool false, .int .i64 0, .slice none 0 0, .slice ua l.length uc, .slice none 0 0] 122 (0, 0))).alloc (.cells #[.int .i64 12, .int .i64 201, .int .i64 1, .int .i64 0, .int .u64 1, .int .u64 0, .int .u64 0, .int .u64 0, .int .u64 0, .int .u64 0, .int .i64 0, .int .u32 0, .int .i64 0, .int .i64 0, .int .i64 0, .int .u64 0, .int .i64 0, .int .i64 0, .int .u64 0, .slice none 0 0, .bool false, .int .i64 0, .slice none 0 0, .slice ua l.length uc, .slice none 0 0] 122 (0, 0)) := ⟨_, rfl⟩
  have g1 : W0.heap[w.heap.size]? = some (.cells #[.int .i64 12, .int .i64 201, .int .i64 1, .int .i64 0, .int .u64 1, .int .u64 0, .int .u64 0, .int .u64 0, .int .u64 0, .int .u64 0, .int .i64 0, .int .u32 0, .int .i64 0, .int .i64 0, .int .i64 0, .int .u64 0, .int .i64 0, .int .i64 0, .int .u64 0, .slice none 0 0, .bool false, .int .i64 0, .slice none 0 0, .slice ua l.length uc, .slice none 0 0] 122 (0, 0)) := by rw [hW0]; exact blkU_alloc (heap_alloc_new w _) _
  have g2 : W0.heap[w.heap.size + 1]? = some (.cells #[.int .i64 12, .int .i64 201, .int .i64 1, .int .i64 0, .int .u64 1, .int .u64 0, .int .u64 0, .int .u64 0, .int .u64 0, .int .u64 0, .int .i64 0, .int .u32 0, .int .i64 0, .int .i64 0, .int .i64 0, .int .u64 0, .int .i64 0, .int .i64 0, .int .u64 0, .slice none 0 0, .bool false, .int .i64 0, .slice none 0 0, .slice ua l.length uc, .slice none 0 0] 122 (0, 0)) := by
    have := heap_alloc_new (w.alloc (.cells #[.int .i64 12, .int .i64 201, .int .i64 1, .int .i64 0, .int .u64 1, .int .u64 0, .int .u64 0, .int .u64 0, .int .u64 0, .int .u64 0, .int .i64 0, .int .u32 0, .int .i64 0, .int .i64 0, .int .i64 0, .int .u64 0, .int .i64 0, .int .i64 0, .int .u64 0, .slice none 0 0, .bool false, .int .i64 0, .slice none 0 0, .slice ua l.length uc, .slice none 0 0] 122 (0, 0))) (.cells #[.int .i64 12, .int .i64 201, .int .i64 1, .int .i64 0, .int .u64 1, .int .u64 0, .int .u64 0, .int .u64 0, .int .u64 0, .int .u64 0, .int .i64 0, .int .u32 0, .int .i64 0, .int .i64 0, .int .i64 0, .int .u64 0, .int .i64 0, .int .i64 0, .int .u64 0, .slice none 0 0, .bool false, .int .i64 0, .slice none 0 0, .slice ua l.length uc, .slice none 0 0] 122 (0, 0))
    rw [show (w.alloc (.cells #[.int .i64 12, .int .i64 201, .int .i64 1, .int .i64 0, .int .u64 1, .int .u64 0, .int .u64 0, .int .u64 0, .int .u64 0, .int .u64 0, .int .i64 0, .int .u32 0, .int .i64 0, .int .i64 0, .int .i64 0, .int .u64 0, .int .i64 0, .int .i64 0, .int .u64 0, .slice none 0 0, .bool false, .int .i64 0, .slice none 0 0, .slice ua l.length uc, .slice none 0 0] 122 (0, 0))).heap.size = w.heap.size + 1 by simp] at this
    rw [hW0]; exact this
  have HSR : Hid (((w.alloc (.cells #[.int .i64 12, .int .i64 201, .int .i64 1, .int .i64 0, .int .u64 1, .int .u64 0, .int .u64 0, .int .u64 0, .int .u64 0, .int .u64 0, .int .i64 0, .int .u32 0, .int .i64 0, .int .i64 0, .int .i64 0, .int .u64 0, .int .i64 0, .int .i64 0, .int .u64 0, .slice none 0 0, .bool false, .int .i64 0, .slice none 0 0, .slice ua l.length uc, .slice none 0 0] 122 (0, 0))).alloc (.cells #[.int .i64 0, .int .i64 0, .int .i64 0, .int .i64 0, .int .u64 0, .int .u64 0, .int .u64 0, .int .u64 0, .int .u64 0, .int .u64 0, .int .i64 0, .int .u32 0, .int .i64 0, .int .i64 0, .int .i64 0, .int .u64 0, .int .i64 0, .int .i64 0, .int .u64 0, .slice none 0 0, .bool false, .int .i64 0, .slice none 0 0, .slice none 0 0, .slice none 0 0] 122 (0, 0))).setRow (w.heap.size + 1) #[.int .i64 12, .int .i64 201, .int .i64 1, .int .i64 0, .int .u64 1, .int .u64 0, .int .u64 0, .int .u64 0, .int .u64 0, .int .u64 0, .int .i64 0, .int .u32 0, .int .i64 0, .int .i64 0, .int .i64 0, .int .u64 0, .int .i64 0, .int .i64 0, .int .u64 0, .slice none 0 0, .bool false, .int .i64 0, .slice none 0 0, .slice ua l.length uc, .slice none 0 0] = W0) := Lib.hid (by
    have := World.setRow_alloc_new (w.alloc (.cells #[.int .i64 12, .int .i64 201, .int .i64 1, .int .i64 0, .int .u64 1, .int .u64 0, .int .u64 0, .int .u64 0, .int .u64 0, .int .u64 0, .int .i64 0, .int .u32 0, .int .i64 0, .int .i64 0, .int .i64 0, .int .u64 0, .int .i64 0, .int .i64 0, .int .u64 0, .slice none 0 0, .bool false, .int .i64 0, .slice none 0 0, .slice ua l.length uc, .slice none 0 0] 122 (0, 0))) #[.int .i64 0, .int .i64 0, .int .i64 0, .int .i64 0, .int .u64 0, .int .u64 0, .int .u64 0, .int .u64 0, .int .u64 0, .int .u64 0, .int .i64 0, .int .u32 0, .int .i64 0, .int .i64 0, .int .i64 0, .int .u64 0, .int .i64 0, .int .i64 0, .int .u64 0, .slice none 0 0, .bool false, .int .i64 0, .slice none 0 0, .slice none 0 0, .slice none 0 0] #[.int .i64 12, .int .i64 201, .int .i64 1, .int .i64 0, .int .u64 1, .int .u64 0, .int .u64 0, .int .u64 0, .int .u64 0, .int .u64 0, .int .i64 0, .int .u32 0, .int .i64 0, .int .i64 0, .int .i64 0, .int .u64 0, .int .i64 0, .int .i64 0, .int .u64 0, .slice none 0 0, .bool false, .int .i64 0, .slice none 0 0, .slice ua l.length uc, .slice none 0 0] 122
    rw [show (w.alloc (.cells #[.int .i64 12, .int .i64 201, .int .i64 1, .int .i64 0, .int .u64 1, .int .u64 0, .int .u64 0, .int .u64 0, .int .u64 0, .int .u64 0, .int .i64 0, .int .u32 0, .int .i64 0, .int .i64 0, .int .i64 0, .int .u64 0, .int .i64 0, .int .i64 0, .int .u64 0, .slice none 0 0, .bool false, .int .i64 0, .slice none 0 0, .slice ua l.length uc, .slice none 0 0] 122 (0, 0))).heap.size = w.heap.size + 1 by simp] at this
    rw [hW0]; exact this)
  have HGZ : Hid (((w.alloc (.cells #[.int .i64 12, .int .i64 201, .int .i64 1, .int .i64 0, .int .u64 1, .int .u64 0, .int .u64 0, .int .u64 0, .int .u64 0, .int .u64 0, .int .i64 0, .int .u32 0, .int .i64 0, .int .i64 0, .int .i64 0, .int .u64 0, .int .i64 0, .int .i64 0, .int .u64 0, .slice none 0 0, .bool false, .int .i64 0, .slice none 0 0, .slice ua l.length uc, .slice none 0 0] 122 (0, 0))).alloc (.cells #[.int .i64 0, .int .i64 0, .int .i64 0, .int .i64 0, .int .u64 0, .int .u64 0, .int .u64 0, .int .u64 0, .int .u64 0, .int .u64 0, .int .i64 0, .int .u32 0, .int .i64 0, .int .i64 0, .int .i64 0, .int .u64 0, .int .i64 0, .int .i64 0, .int .u64 0, .slice none 0 0, .bool false, .int .i64 0, .slice none 0 0, .slice none 0 0, .slice none 0 0] 122 (0, 0))).heap[w.heap.size + 1]? = some (.cells #[.int .i64 0, .int .i64 0, .int .i64 0, .int .i64 0, .int .u64 0, .int .u64 0, .int .u64 0, .int .u64 0, .int .u64 0, .int .u64 0, .int .i64 0, .int .u32 0, .int .i64 0, .int .i64 0, .int .i64 0, .int .u64 0, .int .i64 0, .int .i64 0, .int .u64 0, .slice none 0 0, .bool false, .int .i64 0, .slice none 0 0, .slice none 0 0, .slice none 0 0] 122 (0, 0))) := Lib.hid (by
    have := heap_alloc_new (w.alloc (.cells #[.int .i64 12, .int .i64 201, .int .i64 1, .int .i64 0, .int .u64 1, .int .u64 0, .int .u64 0, .int .u64 0, .int .u64 0, .int .u64 0, .int .i64 0, .int .u32 0, .int .i64 0, .int .i64 0, .int .i64 0, .int .u64 0, .int .i64 0, .int .i64 0, .int .u64 0, .slice none 0 0, .bool false, .int .i64 0, .slice none 0 0, .slice ua l.length uc, .slice none 0 0] 122 (0, 0))) (.cells #[.int .i64 0, .int .i64 0, .int .i64 0, .int .i64 0, .int .u64 0, .int .u64 0, .int .u64 0, .int .u64 0, .int .u64 0, .int .u64 0, .int .i64 0, .int .u32 0, .int .i64 0, .int .i64 0, .int .i64 0, .int .u64 0, .int .i64 0, .int .i64 0, .int .u64 0, .slice none 0 0, .bool false, .int .i64 0, .slice none 0 0, .slice none 0 0, .slice none 0 0] 122 (0, 0))
    rw [show (w.alloc (.cells #[.int .i64 12, .int .i64 201, .int .i64 1, .int .i64 0, .int .u64 1, .int .u64 0, .int .u64 0, .int .u64 0, .int .u64 0, .int .u64 0, .int .i64 0, .int .u32 0, .int .i64 0, .int .i64 0, .int .i64 0, .int .u64 0, .int .i64 0, .int .i64 0, .int .u64 0, .slice none 0 0, .bool false, .int .i64 0, .slice none 0 0, .slice ua l.length uc, .slice none 0 0] 122 (0, 0))).heap.size = w.heap.size + 1 by simp] at this
    exact this)
  have kW0 : Kept NoB w W0 := by rw [hW0]; exact ((Kept.refl NoB w).alloc _).alloc _
  have sW0 : W0.heap.size = w.heap.size + 2 := by rw [hW0]; simp
  have HNE : Hid (¬ w.heap.size + 1 = w.heap.size) := Lib.hid (by omega)
  clear hW0
  obtain ⟨W, hW⟩ : ∃ W, W = ((W0.setCell ⟨w.heap.size + 1, 0, none⟩ (.int .i64 0)).setCell ⟨w.heap.size + 1, 1, none⟩ (.int .i64 0)).setCell ⟨w.heap.size + 1, 2, none⟩ (.int .i64 0) := ⟨_, rfl⟩
  have h1 : W.heap[w.heap.size]? = some (.cells #[.int .i64 12, .int .i64 201, .int .i64 1, .int .i64 0, .int .u64 1, .int .u64 0, .int .u64 0, .int .u64 0, .int .u64 0, .int .u64 0, .int .i64 0, .int .u32 0, .int .i64 0, .int .i64 0, .int .i64 0, .int .u64 0, .int .i64 0, .int .i64 0, .int .u64 0, .slice none 0 0, .bool false, .int .i64 0, .slice none 0 0, .slice ua l.length uc, .slice none 0 0] 122 (0, 0)) := by rw [hW]; exact blkU_set_other (blkU_set_other (blkU_set_other g1 _ _ HNE.out) _ _ HNE.out) _ _ HNE.out
  have h2 : W.heap[w.heap.size + 1]? = some (.cells #[.int .i64 0, .int .i64 0, .int .i64 0, .int .i64 0, .int .u64 1, .int .u64 0, .int .u64 0, .int .u64 0, .int .u64 0, .int .u64 0, .int .i64 0, .int .u32 0, .int .i64 0, .int .i64 0, .int .i64 0, .int .u64 0, .int .i64 0, .int .i64 0, .int .u64 0, .slice none 0 0, .bool false, .int .i64 0, .slice none 0 0, .slice ua l.length uc, .slice none 0 0] 122 (0, 0)) := by
    have a0 : (W0.setCell ⟨w.heap.size + 1, 0, none⟩ (.int .i64 0)).heap[w.heap.size + 1]? = some (.cells #[.int .i64 0, .int .i64 201, .int .i64 1, .int .i64 0, .int .u64 1, .int .u64 0, .int .u64 0, .int .u64 0, .int .u64 0, .int .u64 0, .int .i64 0, .int .u32 0, .int .i64 0, .int .i64 0, .int .i64 0, .int .u64 0, .int .i64 0, .int .i64 0, .int .u64 0, .slice none 0 0, .bool false, .int .i64 0, .slice none 0 0, .slice ua l.length uc, .slice none 0 0] 122 (0, 0)) := blkU_set g2 0 _
    have a1 : ((W0.setCell ⟨w.heap.size + 1, 0, none⟩ (.int .i64 0)).setCell ⟨w.heap.size + 1, 1, none⟩ (.int .i64 0)).heap[w.heap.size + 1]? = some (.cells #[.int .i64 0, .int .i64 0, .int .i64 1, .int .i64 0, .int .u64 1, .int .u64 0, .int .u64 0, .int .u64 0, .int .u64 0, .int .u64 0, .int .i64 0, .int .u32 0, .int .i64 0, .int .i64 0, .int .i64 0, .int .u64 0, .int .i64 0, .int .i64 0, .int .u64 0, .slice none 0 0, .bool false, .int .i64 0, .slice none 0 0, .slice ua l.length uc, .slice none 0 0] 122 (0, 0)) := blkU_set a0 1 _
    rw [hW]
    exact blkU_set a1 2 _
  have hkW : Kept NoB w W := by
    rw [hW]
    exact ((kW0.setCell (p := ⟨w.heap.size + 1, 0, none⟩) (.inr (by show w.heap.size ≤ w.heap.size + 1; omega)) _).setCell (p := ⟨w.heap.size + 1, 1, none⟩) (.inr (by show w.heap.size ≤ w.heap.size + 1; omega)) _).setCell (p := ⟨w.heap.size + 1, 2, none⟩) (.inr (by show w.heap.size ≤ w.heap.size + 1; omega)) _
  have hsW : W.heap.size = w.heap.size + 2 := by rw [hW]; simp [World.setCell, sW0]
  have d0 : W0.cell? ⟨w.heap.size + 1, 0, none⟩ = some (.int .i64 12) := cell_of_row _ _ 0 _ _ _ g2
  have d1 : W0.cell? ⟨w.heap.size + 1, 1, none⟩ = some (.int .i64 201) := cell_of_row _ _ 1 _ _ _ g2
  have d2 : W0.cell? ⟨w.heap.size + 1, 2, none⟩ = some (.int .i64 1) := cell_of_row _ _ 2 _ _ _ g2
  have z0 := blkU_frozen g2
  have e0 : W.cell? ⟨w.heap.size, 0, none⟩ = some (.int .i64 12) := cell_of_row _ _ 0 _ _ _ h1
  clear g1 g2 kW0 sW0
  have HH1 := Lib.hid h1
  have HH2 := Lib.hid h2
  have HKW := Lib.hid hkW
  have HSW := Lib.hid hsW
  have HX := Lib.hid (hx.no hkW)
  have HF := Lib.hid hF
  have HTB := Lib.hid (ht.kept hkW (fun h => h))
  have HW := Lib.hid hW
  have HIK := Lib.hid (fun w => LisKind_any w 12)
  have HA1 := Lib.hid (fun w => LAddress_any w 201)
  have HA2 := Lib.hid (fun w => LAddress_any w 1)
  have hik : kindB 12 = true := by decide
  have ha1 : addrB 201 = true := by decide
  have ha2 : addrB 1 = true := by decide
  rw [hik] at HIK
  rw [ha1] at HA1
  rw [ha2] at HA2
  have HPO := Lib.hid (partsOf_12 W HTB.out)
  have c0 : (w.alloc (.cells #[.int .i64 12, .int .i64 201, .int .i64 1, .int .i64 0, .int .u64 1, .int .u64 0, .int .u64 0, .int .u64 0, .int .u64 0, .int .u64 0, .int .i64 0, .int .u32 0, .int .i64 0, .int .i64 0, .int .i64 0, .int .u64 0, .int .i64 0, .int .i64 0, .int .u64 0, .slice none 0 0, .bool false, .int .i64 0, .slice none 0 0, .slice ua l.length uc, .slice none 0 0] 122 (0, 0))).cell? ⟨w.heap.size, 0, none⟩ = some (.int .i64 12) := cell_of_row _ _ 0 _ _ _ (heap_alloc_new w _)
  have c1 : (w.alloc (.cells #[.int .i64 12, .int .i64 201, .int .i64 1, .int .i64 0, .int .u64 1, .int .u64 0, .int .u64 0, .int .u64 0, .int .u64 0, .int .u64 0, .int .i64 0, .int .u32 0, .int .i64 0, .int .i64 0, .int .i64 0, .int .u64 0, .int .i64 0, .int .i64 0, .int .u64 0, .slice none 0 0, .bool false, .int .i64 0, .slice none 0 0, .slice ua l.length uc, .slice none 0 0] 122 (0, 0))).cell? ⟨w.heap.size, 1, none⟩ = some (.int .i64 201) := cell_of_row _ _ 1 _ _ _ (heap_alloc_new w _)
  have c2 : (w.alloc (.cells #[.int .i64 12, .int .i64 201, .int .i64 1, .int .i64 0, .int .u64 1, .int .u64 0, .int .u64 0, .int .u64 0, .int .u64 0, .int .u64 0, .int .i64 0, .int .u32 0, .int .i64 0, .int .i64 0, .int .i64 0, .int .u64 0, .int .i64 0, .int .i64 0, .int .u64 0, .slice none 0 0, .bool false, .int .i64 0, .slice none 0 0, .slice ua l.length uc, .slice none 0 0] 122 (0, 0))).cell? ⟨w.heap.size, 2, none⟩ = some (.int .i64 1) := cell_of_row _ _ 2 _ _ _ (heap_alloc_new w _)
  clear h1 h2 hkW hsW hx ht hF hik ha1 ha2 hW
  go_enter Tryz.func61, Tryz.ntmps61
  go_wp2_with fail
  refine (HIK.out _).mono ?_
  rintro e w1 ⟨rfl, rfl⟩
  go_wp2_with fail
  refine (HA1.out _).mono ?_
  rintro e w1 ⟨rfl, rfl⟩
  go_wp2_with fail
  refine (HA2.out _).mono ?_
  rintro e w1 ⟨rfl, rfl⟩
  have HG0 := Lib.hid (heap_alloc_new w (.cells #[.int .i64 12, .int .i64 201, .int .i64 1, .int .i64 0, .int .u64 1, .int .u64 0, .int .u64 0, .int .u64 0, .int .u64 0, .int .u64 0, .int .i64 0, .int .u32 0, .int .i64 0, .int .i64 0, .int .i64 0, .int .u64 0, .int .i64 0, .int .i64 0, .int .u64 0, .slice none 0 0, .bool false, .int .i64 0, .slice none 0 0, .slice ua l.length uc, .slice none 0 0] 122 (0, 0)))
  clear c0 c1 c2
  have hone : (#[.int .i64 12, .int .i64 201, .int .i64 1, .int .i64 0, .int .u64 1, .int .u64 0, .int .u64 0, .int .u64 0, .int .u64 0, .int .u64 0, .int .i64 0, .int .u32 0, .int .i64 0, .int .i64 0, .int .i64 0, .int .u64 0, .int .i64 0, .int .i64 0, .int .u64 0, .slice none 0 0, .bool false, .int .i64 0, .slice none 0 0, .slice ua l.length uc, .slice none 0 0] : Array Value).all (·.oneCell') = true := by rw [← Array.all_toList]; rfl
  have HONE := Lib.hid hone
  clear hone
  go_upto_region 7 with (first
    | (refine wpList_load_row rfl 122 _ rfl w.heap.size rfl 122 #[.int .i64 12, .int .i64 201, .int .i64 1, .int .i64 0, .int .u64 1, .int .u64 0, .int .u64 0, .int .u64 0, .int .u64 0, .int .u64 0, .int .i64 0, .int .u32 0, .int .i64 0, .int .i64 0, .int .i64 0, .int .u64 0, .int .i64 0, .int .i64 0, .int .u64 0, .slice none 0 0, .bool false, .int .i64 0, .slice none 0 0, .slice ua l.length uc, .slice none 0 0] (0, 0) _ HG0.out Tryz.underlying122 rfl (by kernel_rfl) ?_)
    | (refine wpList_store_row rfl 122 _ _ rfl (w.heap.size + 1) #[.int .i64 12, .int .i64 201, .int .i64 1, .int .i64 0, .int .u64 1, .int .u64 0, .int .u64 0, .int .u64 0, .int .u64 0, .int .u64 0, .int .i64 0, .int .u32 0, .int .i64 0, .int .i64 0, .int .i64 0, .int .u64 0, .int .i64 0, .int .i64 0, .int .u64 0, .slice none 0 0, .bool false, .int .i64 0, .slice none 0 0, .slice ua l.length uc, .slice none 0 0] rfl rfl 122 #[.int .i64 0, .int .i64 0, .int .i64 0, .int .i64 0, .int .u64 0, .int .u64 0, .int .u64 0, .int .u64 0, .int .u64 0, .int .u64 0, .int .i64 0, .int .u32 0, .int .i64 0, .int .i64 0, .int .i64 0, .int .u64 0, .int .i64 0, .int .i64 0, .int .u64 0, .slice none 0 0, .bool false, .int .i64 0, .slice none 0 0, .slice none 0 0, .slice none 0 0] HGZ.out (by kernel_rfl) rfl HONE.out ?_; rw [HSR.out]))
  rw [← HW.out]
  clear d0 d1 d2 z0
  go_wp2_with fail
  refine HPO.out.mono ?_
  rintro e w1 ⟨pa, pc, ps, rfl, hrow, hps, hk⟩
  have HROW := Lib.hid hrow
  have HPS := Lib.hid hps
  have HK1 := Lib.hid hk
  have HR1 := Lib.hid (hk.heap (fun h => h) HH1.out)
  have HR2 := Lib.hid (hk.heap (fun h => h) HH2.out)
  have HX1 := Lib.hid (HX.out.no hk)
  clear hrow hps hk
  go_wp2
  generalize Value.agg #[.int .i64 12, .int .i64 201, .int .i64 1, .int .i64 0, .int .u64 1, .int .u64 0, .int .u64 0, .int .u64 0, .int .u64 0, .int .u64 0, .int .i64 0, .int .u32 0, .int .i64 0, .int .i64 0, .int .i64 0, .int .u64 0, .int .i64 0, .int .i64 0, .int .u64 0, .slice none 0 0, .bool false, .int .i64 0, .slice none 0 0, .slice ua l.length uc, .slice none 0 0] = LV0
  go_loopw [28] (ChkRel12 w w1 (w.heap.size + 1) ua uc l) (fun j _ => 5 - (RowKit.intOf j).toNat)
  case atStart => exact ⟨0, by omega, rfl, HR2.out, fun h => absurd h (by omega), Kept.refl _ _⟩
  case round =>
    obtain ⟨j, hj, rfl, hg2, hfin, hK⟩ := hrel
    have HFIN := Lib.hid hfin
    have hsB : ∀ k, W.heap.size ≤ k → ¬ k = w.heap.size + 1 := fun k hk => by have := HSW.out; omega
    have HG2 := Lib.hid hg2
    have HKR := Lib.hid hK
    have HRW := Lib.hid (HROW.out.kept hK hsB)
    have HPR := Lib.hid (HPS.out.kept hK hsB)
    have HG1 := Lib.hid (hK.heap (k := w.heap.size) (by omega) HR1.out)
    have HXR := Lib.hid (HX1.out.kept hK (fun k hf => by have := HF.out k hf; omega))
    clear hg2 hK hsB hfin
    have hcase : j = 0 ∨ j = 1 ∨ j = 2 ∨ j = 3 ∨ j = 4 ∨ j = 5 := by omega
    clear hj
    rcases hcase with rfl | rfl | rfl | rfl | rfl | rfl

    · as_aux_lemma =>
        have hjj : jN 0 = 0 := rfl
        rw [hjj] at *
        clear hjj
        have hlen : ps.length = 5 := HPR.out.1
        obtain ⟨r, rfl, hBr, f0, f1, f2, f3⟩ := HRW.out.at_ (j := 0) (by omega)
        have hp : Part1 W.heap.size wr (q4v (ps.getD 0 q40)) := HPR.out.2 0 (by decide)
        have hgd : ps.getD 0 q40 = ps[0]'(by omega) := by rw [List.getD_eq_getElem?_getD, List.getElem?_eq_getElem (by omega)]; rfl
        rw [hgd] at hp
        obtain ⟨bm, hbm, hm, s, bw, hs, hbw, he, a1, a2, a3, a4, a5⟩ := hp
        obtain ⟨i0, i1, i2, i3⟩ := q4_inj he
        rw [i0] at f0
        rw [i1] at f1
        rw [i2] at f2
        rw [i3] at f3
        simp only [Nat.reduceMul, Nat.reduceAdd, Nat.zero_mul, Nat.zero_add] at f0 f1 f2 f3
        have hsI : W.heap.size ≤ s := hs
        have hka := (Kept.refl NoB wr).alloc (.cells #[(.func (.func 341) #[] #[pb s, pb (s + 3)]), (.func (.func 342) #[] #[pb (s + 1), pb (s + 3)]), (.func (.func 343) #[] #[pb (s + 2), pb (s + 3)]), (.func (.func 344) #[] #[pb (s + 3)])] 226 (0, 0))
        obtain ⟨b0, b1, b2, b3⟩ := cells4p (heap_alloc_new wr (.cells #[(.func (.func 341) #[] #[pb s, pb (s + 3)]), (.func (.func 342) #[] #[pb (s + 1), pb (s + 3)]), (.func (.func 343) #[] #[pb (s + 2), pb (s + 3)]), (.func (.func 344) #[] #[pb (s + 3)])] 226 (0, 0)))
        have HB := Lib.hid (heap_alloc_new wr (.cells #[(.func (.func 341) #[] #[pb s, pb (s + 3)]), (.func (.func 342) #[] #[pb (s + 1), pb (s + 3)]), (.func (.func 343) #[] #[pb (s + 2), pb (s + 3)]), (.func (.func 344) #[] #[pb (s + 3)])] 226 (0, 0)))
        have hR := right_1 _ w.heap.size s bm 0 (hm.no hka) (a1.no hka) (a4.no hka) (hka.cell (p := ⟨w.heap.size, 3, none⟩) (fun h => h) (let12_3 HG1.out))
        have HKA := Lib.hid hka
        have HA4 := Lib.hid a4
        have hent1 : ∀ (args : Array Value) (w : World), Sem.run Tryz.prog (callFunc 341 args) w = .ok (.enter 341 args) w := fun args w => by kernel_rfl
        have hent4 : ∀ (args : Array Value) (w : World), Sem.run Tryz.prog (callFunc 344 args) w = .ok (.enter 344 args) w := fun args w => by kernel_rfl
        rw [(by decide : (decide ((0 : Int) ≤ 0) && decide ((0 : Int) ≤ 3)) = true)] at hR
        have HRI := Lib.hid hR
        clear hka a1 a2 a3 a4 he i0 i1 i2 i3 hs hgd hBr hm hbm hbw a5 hR
        go_wp2_with fail
        refine HRI.out.mono ?_
        rintro e w2 ⟨rfl, hk2⟩
        have hb2 := hk2.heap (fun h => h) HB.out
        obtain ⟨b0, b1, b2, b3⟩ := cells4p hb2
        have hg2 := (HKA.out.trans hk2 (fun _ _ h => h)).heap (fun h => h) HG2.out
        have HG := Lib.hid hg2
        have HD := Lib.hid (drop_1 w2 (w.heap.size + 1) (s + 3) _ (HA4.out.no (HKA.out.trans hk2 (fun _ _ h => h))) hg2 (rest12_len0 _ _ _))
        have HK2 := Lib.hid (HKR.out.trans (HKA.out.trans hk2 (fun _ _ h => h)) (fun _ _ h => absurd h (fun h => h)))
        clear hk2 hb2 hg2
        go_wp2_with fail
        refine HD.out.mono ?_
        rintro e w3 ⟨rfl, rfl⟩
        go_wp2
        exact ⟨⟨1, by omega, rfl, rest12_row0 HG.out, fun h => absurd h (by omega), HK2.out.setCell (p := ⟨w.heap.size + 1, 3, none⟩) (.inl rfl) _⟩, by simp [RowKit.intOf, jN]⟩
    · as_aux_lemma =>
        have hjj : jN 1 = 1 := rfl
        rw [hjj] at *
        clear hjj
        have hlen : ps.length = 5 := HPR.out.1
        obtain ⟨r, rfl, hBr, f0, f1, f2, f3⟩ := HRW.out.at_ (j := 1) (by omega)
        have hp : Part2 W.heap.size wr (q4v (ps.getD 1 q40)) := HPR.out.2 1 (by decide)
        have hgd : ps.getD 1 q40 = ps[1]'(by omega) := by rw [List.getD_eq_getElem?_getD, List.getElem?_eq_getElem (by omega)]; rfl
        rw [hgd] at hp
        obtain ⟨s, bw, hs, hbw, he, a1, a2, a3, a4, a5⟩ := hp
        obtain ⟨i0, i1, i2, i3⟩ := q4_inj he
        rw [i0] at f0
        rw [i1] at f1
        rw [i2] at f2
        rw [i3] at f3
        simp only [Nat.reduceMul, Nat.reduceAdd, Nat.zero_mul, Nat.zero_add] at f0 f1 f2 f3
        have hsI : W.heap.size ≤ s := hs
        have hka := (Kept.refl NoB wr).alloc (.cells #[(.func (.func 336) #[] #[pb s, pb (s + 3)]), (.func (.func 337) #[] #[pb (s + 1), pb (s + 3)]), (.func (.func 338) #[] #[pb (s + 2), pb (s + 3)]), (.func (.func 339) #[] #[pb (s + 3)])] 226 (0, 0))
        obtain ⟨b0, b1, b2, b3⟩ := cells4p (heap_alloc_new wr (.cells #[(.func (.func 336) #[] #[pb s, pb (s + 3)]), (.func (.func 337) #[] #[pb (s + 1), pb (s + 3)]), (.func (.func 338) #[] #[pb (s + 2), pb (s + 3)]), (.func (.func 339) #[] #[pb (s + 3)])] 226 (0, 0)))
        have HB := Lib.hid (heap_alloc_new wr (.cells #[(.func (.func 336) #[] #[pb s, pb (s + 3)]), (.func (.func 337) #[] #[pb (s + 1), pb (s + 3)]), (.func (.func 338) #[] #[pb (s + 2), pb (s + 3)]), (.func (.func 339) #[] #[pb (s + 3)])] 226 (0, 0)))
        have hR := right_2 _ w.heap.size s 1 (a1.no hka) (a4.no hka) (hka.cell (p := ⟨w.heap.size, 4, none⟩) (fun h => h) (let12_4 HG1.out))
        have HKA := Lib.hid hka
        have HA4 := Lib.hid a4
        have hent1 : ∀ (args : Array Value) (w : World), Sem.run Tryz.prog (callFunc 336 args) w = .ok (.enter 336 args) w := fun args w => by kernel_rfl
        have hent4 : ∀ (args : Array Value) (w : World), Sem.run Tryz.prog (callFunc 339 args) w = .ok (.enter 339 args) w := fun args w => by kernel_rfl
        rw [(by decide : decide ((1 : Int) ≤ 1) = true)] at hR
        have HRI := Lib.hid hR
        clear hka a1 a2 a3 a4 he i0 i1 i2 i3 hs hgd hBr hbw a5 hR
        go_wp2_with fail
        refine HRI.out.mono ?_
        rintro e w2 ⟨rfl, hk2⟩
        have hb2 := hk2.heap (fun h => h) HB.out
        obtain ⟨b0, b1, b2, b3⟩ := cells4p hb2
        have hg2 := (HKA.out.trans hk2 (fun _ _ h => h)).heap (fun h => h) HG2.out
        have HG := Lib.hid hg2
        have HD := Lib.hid (drop_2 w2 (w.heap.size + 1) (s + 3) _ (HA4.out.no (HKA.out.trans hk2 (fun _ _ h => h))) hg2 (rest12_len1 _ _ _))
        have HK2 := Lib.hid (HKR.out.trans (HKA.out.trans hk2 (fun _ _ h => h)) (fun _ _ h => absurd h (fun h => h)))
        clear hk2 hb2 hg2
        go_wp2_with fail
        refine HD.out.mono ?_
        rintro e w3 ⟨rfl, rfl⟩
        go_wp2
        exact ⟨⟨2, by omega, rfl, rest12_row1 HG.out, fun h => absurd h (by omega), HK2.out.setCell (p := ⟨w.heap.size + 1, 4, none⟩) (.inl rfl) _⟩, by simp [RowKit.intOf, jN]⟩
    · as_aux_lemma =>
        have hjj : jN 2 = 2 := rfl
        rw [hjj] at *
        clear hjj
        have hlen : ps.length = 5 := HPR.out.1
        obtain ⟨r, rfl, hBr, f0, f1, f2, f3⟩ := HRW.out.at_ (j := 2) (by omega)
        have hp : Part3 W.heap.size wr (q4v (ps.getD 2 q40)) := HPR.out.2 2 (by decide)
        have hgd : ps.getD 2 q40 = ps[2]'(by omega) := by rw [List.getD_eq_getElem?_getD, List.getElem?_eq_getElem (by omega)]; rfl
        rw [hgd] at hp
        obtain ⟨s, bw, hs, hbw, he, a1, a2, a3, a4, a5⟩ := hp
        obtain ⟨i0, i1, i2, i3⟩ := q4_inj he
        rw [i0] at f0
        rw [i1] at f1
        rw [i2] at f2
        rw [i3] at f3
        simp only [Nat.reduceMul, Nat.reduceAdd, Nat.zero_mul, Nat.zero_add] at f0 f1 f2 f3
        have hsI : W.heap.size ≤ s := hs
        have hka := (Kept.refl NoB wr).alloc (.cells #[(.func (.func 336) #[] #[pb s, pb (s + 3)]), (.func (.func 337) #[] #[pb (s + 1), pb (s + 3)]), (.func (.func 338) #[] #[pb (s + 2), pb (s + 3)]), (.func (.func 339) #[] #[pb (s + 3)])] 226 (0, 0))
        obtain ⟨b0, b1, b2, b3⟩ := cells4p (heap_alloc_new wr (.cells #[(.func (.func 336) #[] #[pb s, pb (s + 3)]), (.func (.func 337) #[] #[pb (s + 1), pb (s + 3)]), (.func (.func 338) #[] #[pb (s + 2), pb (s + 3)]), (.func (.func 339) #[] #[pb (s + 3)])] 226 (0, 0)))
        have HB := Lib.hid (heap_alloc_new wr (.cells #[(.func (.func 336) #[] #[pb s, pb (s + 3)]), (.func (.func 337) #[] #[pb (s + 1), pb (s + 3)]), (.func (.func 338) #[] #[pb (s + 2), pb (s + 3)]), (.func (.func 339) #[] #[pb (s + 3)])] 226 (0, 0)))
        have hR := right_3 _ w.heap.size s 0 (a1.no hka) (a4.no hka) (hka.cell (p := ⟨w.heap.size, 7, none⟩) (fun h => h) (let12_7 HG1.out))
        have HKA := Lib.hid hka
        have HA4 := Lib.hid a4
        have hent1 : ∀ (args : Array Value) (w : World), Sem.run Tryz.prog (callFunc 336 args) w = .ok (.enter 336 args) w := fun args w => by kernel_rfl
        have hent4 : ∀ (args : Array Value) (w : World), Sem.run Tryz.prog (callFunc 339 args) w = .ok (.enter 339 args) w := fun args w => by kernel_rfl
        rw [(rfl : true = true)] at hR
        have HRI := Lib.hid hR
        clear hka a1 a2 a3 a4 he i0 i1 i2 i3 hs hgd hBr hbw a5 hR
        go_wp2_with fail
        refine HRI.out.mono ?_
        rintro e w2 ⟨rfl, hk2⟩
        have hb2 := hk2.heap (fun h => h) HB.out
        obtain ⟨b0, b1, b2, b3⟩ := cells4p hb2
        have hg2 := (HKA.out.trans hk2 (fun _ _ h => h)).heap (fun h => h) HG2.out
        have HG := Lib.hid hg2
        have HD := Lib.hid (drop_3 w2 (w.heap.size + 1) (s + 3) _ (HA4.out.no (HKA.out.trans hk2 (fun _ _ h => h))) hg2 (rest12_len2 _ _ _))
        have HK2 := Lib.hid (HKR.out.trans (HKA.out.trans hk2 (fun _ _ h => h)) (fun _ _ h => absurd h (fun h => h)))
        clear hk2 hb2 hg2
        go_wp2_with fail
        refine HD.out.mono ?_
        rintro e w3 ⟨rfl, rfl⟩
        go_wp2
        exact ⟨⟨3, by omega, rfl, rest12_row2 HG.out, fun h => absurd h (by omega), HK2.out.setCell (p := ⟨w.heap.size + 1, 7, none⟩) (.inl rfl) _⟩, by simp [RowKit.intOf, jN]⟩
    · as_aux_lemma =>
        have hjj : jN 3 = 3 := rfl
        rw [hjj] at *
        clear hjj
        have hlen : ps.length = 5 := HPR.out.1
        obtain ⟨r, rfl, hBr, f0, f1, f2, f3⟩ := HRW.out.at_ (j := 3) (by omega)
        have hp : Part4 W.heap.size wr (q4v (ps.getD 3 q40)) := HPR.out.2 3 (by decide)
        have hgd : ps.getD 3 q40 = ps[3]'(by omega) := by rw [List.getD_eq_getElem?_getD, List.getElem?_eq_getElem (by omega)]; rfl
        rw [hgd] at hp
        obtain ⟨s, bw, hs, hbw, he, a1, a2, a3, a4, a5⟩ := hp
        obtain ⟨i0, i1, i2, i3⟩ := q4_inj he
        rw [i0] at f0
        rw [i1] at f1
        rw [i2] at f2
        rw [i3] at f3
        simp only [Nat.reduceMul, Nat.reduceAdd, Nat.zero_mul, Nat.zero_add] at f0 f1 f2 f3
        have hsI : W.heap.size ≤ s := hs
        have hka := (Kept.refl NoB wr).alloc (.cells #[(.func (.func 336) #[] #[pb s, pb (s + 3)]), (.func (.func 337) #[] #[pb (s + 1), pb (s + 3)]), (.func (.func 338) #[] #[pb (s + 2), pb (s + 3)]), (.func (.func 339) #[] #[pb (s + 3)])] 226 (0, 0))
        obtain ⟨b0, b1, b2, b3⟩ := cells4p (heap_alloc_new wr (.cells #[(.func (.func 336) #[] #[pb s, pb (s + 3)]), (.func (.func 337) #[] #[pb (s + 1), pb (s + 3)]), (.func (.func 338) #[] #[pb (s + 2), pb (s + 3)]), (.func (.func 339) #[] #[pb (s + 3)])] 226 (0, 0)))
        have HB := Lib.hid (heap_alloc_new wr (.cells #[(.func (.func 336) #[] #[pb s, pb (s + 3)]), (.func (.func 337) #[] #[pb (s + 1), pb (s + 3)]), (.func (.func 338) #[] #[pb (s + 2), pb (s + 3)]), (.func (.func 339) #[] #[pb (s + 3)])] 226 (0, 0)))
        have hR := right_4 _ w.heap.size s 0 (a1.no hka) (a4.no hka) (hka.cell (p := ⟨w.heap.size, 8, none⟩) (fun h => h) (let12_8 HG1.out))
        have HKA := Lib.hid hka
        have HA4 := Lib.hid a4
        have hent1 : ∀ (args : Array Value) (w : World), Sem.run Tryz.prog (callFunc 336 args) w = .ok (.enter 336 args) w := fun args w => by kernel_rfl
        have hent4 : ∀ (args : Array Value) (w : World), Sem.run Tryz.prog (callFunc 339 args) w = .ok (.enter 339 args) w := fun args w => by kernel_rfl
        rw [(rfl : true = true)] at hR
        have HRI := Lib.hid hR
        clear hka a1 a2 a3 a4 he i0 i1 i2 i3 hs hgd hBr hbw a5 hR
        go_wp2_with fail
        refine HRI.out.mono ?_
        rintro e w2 ⟨rfl, hk2⟩
        have hb2 := hk2.heap (fun h => h) HB.out
        obtain ⟨b0, b1, b2, b3⟩ := cells4p hb2
        have hg2 := (HKA.out.trans hk2 (fun _ _ h => h)).heap (fun h => h) HG2.out
        have HG := Lib.hid hg2
        have HD := Lib.hid (drop_4 w2 (w.heap.size + 1) (s + 3) _ (HA4.out.no (HKA.out.trans hk2 (fun _ _ h => h))) hg2 (rest12_len3 _ _ _))
        have HK2 := Lib.hid (HKR.out.trans (HKA.out.trans hk2 (fun _ _ h => h)) (fun _ _ h => absurd h (fun h => h)))
        clear hk2 hb2 hg2
        go_wp2_with fail
        refine HD.out.mono ?_
        rintro e w3 ⟨rfl, rfl⟩
        go_wp2
        exact ⟨⟨4, by omega, rfl, rest12_row3 HG.out, fun h => absurd h (by omega), HK2.out.setCell (p := ⟨w.heap.size + 1, 8, none⟩) (.inl rfl) _⟩, by simp [RowKit.intOf, jN]⟩
    · as_aux_lemma =>
        have hjj : jN 4 = 4 := rfl
        rw [hjj] at *
        clear hjj
        have hlen : ps.length = 5 := HPR.out.1
        obtain ⟨r, rfl, hBr, f0, f1, f2, f3⟩ := HRW.out.at_ (j := 4) (by omega)
        have hp : Part14 W.heap.size wr (q4v (ps.getD 4 q40)) := HPR.out.2 4 (by decide)
        have hgd : ps.getD 4 q40 = ps[4]'(by omega) := by rw [List.getD_eq_getElem?_getD, List.getElem?_eq_getElem (by omega)]; rfl
        rw [hgd] at hp
        obtain ⟨s, hs, he, a1, a2, a3, a4⟩ := hp
        obtain ⟨i0, i1, i2, i3⟩ := q4_inj he
        rw [i0] at f0
        rw [i1] at f1
        rw [i2] at f2
        rw [i3] at f3
        simp only [Nat.reduceMul, Nat.reduceAdd, Nat.zero_mul, Nat.zero_add] at f0 f1 f2 f3
        have hsI : W.heap.size ≤ s := hs
        have hka := (Kept.refl NoB wr).alloc (.cells #[(.func (.func 314) #[] #[pb s, pb (s + 3)]), (.func (.func 315) #[] #[pb (s + 1), pb (s + 3)]), (.func (.func 316) #[] #[pb (s + 2), pb (s + 3)]), (.func (.func 317) #[] #[pb (s + 3)])] 226 (0, 0))
        obtain ⟨b0, b1, b2, b3⟩ := cells4p (heap_alloc_new wr (.cells #[(.func (.func 314) #[] #[pb s, pb (s + 3)]), (.func (.func 315) #[] #[pb (s + 1), pb (s + 3)]), (.func (.func 316) #[] #[pb (s + 2), pb (s + 3)]), (.func (.func 317) #[] #[pb (s + 3)])] 226 (0, 0)))
        have HB := Lib.hid (heap_alloc_new wr (.cells #[(.func (.func 314) #[] #[pb s, pb (s + 3)]), (.func (.func 315) #[] #[pb (s + 1), pb (s + 3)]), (.func (.func 316) #[] #[pb (s + 2), pb (s + 3)]), (.func (.func 317) #[] #[pb (s + 3)])] 226 (0, 0)))
        have hR := right_14 _ w.heap.size s _ l F (HXR.out.no hka) (a1.no hka) (a4.no hka) (hka.cell (p := ⟨w.heap.size, 23, none⟩) (fun h => h) (let12_23 HG1.out))
        have HKA := Lib.hid hka
        have HA4 := Lib.hid a4
        have hent1 : ∀ (args : Array Value) (w : World), Sem.run Tryz.prog (callFunc 314 args) w = .ok (.enter 314 args) w := fun args w => by kernel_rfl
        have hent4 : ∀ (args : Array Value) (w : World), Sem.run Tryz.prog (callFunc 317 args) w = .ok (.enter 317 args) w := fun args w => by kernel_rfl
        have HRI := Lib.hid hR
        clear hka a1 a2 a3 a4 he i0 i1 i2 i3 hs hgd hBr hR
        cases hfine : areUs l with
        | true =>
          rw [hfine] at HRI
          have HFN := Lib.hid hfine
          clear hfine
          go_wp2_with fail
          refine HRI.out.mono ?_
          rintro e w2 ⟨rfl, hk2⟩
          have hb2 := hk2.heap (fun h => h) HB.out
          obtain ⟨b0, b1, b2, b3⟩ := cells4p hb2
          have hg2 := (HKA.out.trans hk2 (fun _ _ h => h)).heap (fun h => h) HG2.out
          have HG := Lib.hid hg2
          have HD := Lib.hid (drop_14 w2 (w.heap.size + 1) (s + 3) _ (HA4.out.no (HKA.out.trans hk2 (fun _ _ h => h))) hg2 (rest12_len4 _ _ _))
          have HK2 := Lib.hid (HKR.out.trans (HKA.out.trans hk2 (fun _ _ h => h)) (fun _ _ h => absurd h (fun h => h)))
          clear hk2 hb2 hg2
          go_wp2_with fail
          refine HD.out.mono ?_
          rintro e w3 ⟨rfl, rfl⟩
          go_wp2
          exact ⟨⟨5, by omega, rfl, rest12_row4 HG.out, fun _ => HFN.out, HK2.out.setCell (p := ⟨w.heap.size + 1, 23, none⟩) (.inl rfl) _⟩, by simp [RowKit.intOf, jN]⟩
        | false =>
          rw [hfine] at HRI
          have HFN := Lib.hid hfine
          clear hfine
          go_wp2_with fail
          refine HRI.out.mono ?_
          rintro e w2 ⟨rfl, hk2⟩
          have HK2 := Lib.hid (HKR.out.trans (HKA.out.trans hk2 (fun _ _ h => h)) (fun _ _ h => absurd h (fun h => h)))
          clear hk2
          go_wp2
          go_ret
          exact ⟨by rw [HEB.out.2 HFN.out]; rfl, (HKW.out.trans HK1.out (fun _ _ h => h)).trans HK2.out (fun i hi h => by omega)⟩
    · as_aux_lemma =>
        have hjj : jN 5 = 5 := rfl
        rw [hjj] at *
        clear hjj
        have HK3 := Lib.hid ((HKW.out.trans HK1.out (fun _ _ h => h)).trans HKR.out (fun i hi h => by omega))
        have hz := HG2.out
        rw [rest12_end] at hz
        go_wp2_with (refine wpList_load_row rfl 122 _ rfl (w.heap.size + 1) rfl 122 #[.int .i64 0, .int .i64 0, .int .i64 0, .int .i64 0, .int .u64 0, .int .u64 0, .int .u64 0, .int .u64 0, .int .u64 0, .int .u64 0, .int .i64 0, .int .u32 0, .int .i64 0, .int .i64 0, .int .i64 0, .int .u64 0, .int .i64 0, .int .i64 0, .int .u64 0, .slice none 0 0, .bool false, .int .i64 0, .slice none 0 0, .slice none 0 0, .slice none 0 0] (0, 0) _ hz Tryz.underlying122 rfl (by kernel_rfl) ?_)
        refine (LSame_zero _).mono ?_
        rintro e w2 ⟨rfl, hk2⟩
        have HK4 := Lib.hid (HK3.out.trans hk2 (fun _ _ h => h))
        clear hk2
        go_wp2
        go_ret
        exact ⟨by rw [HEB.out.1 (HFIN.out (by omega))]; rfl, HK4.out⟩
set_option maxRecDepth 100000 in
def RestSt17 (ua : Option Addr) (uc : Nat) (l : List Up) (j : Nat) : Array Value :=
  match j with
  | 0 => #[.int .i64 0, .int .i64 0, .int .i64 0, .int .i64 0, .int .u64 1, .int .u64 0, .int .u64 0, .int .u64 0, .int .u64 0, .int .u64 0, .int .i64 0, .int .u32 0, .int .i64 0, .int .i64 0, .int .i64 0, .int .u64 0, .int .i64 0, .int .i64 0, .int .u64 0, .slice none 0 0, .bool false, .int .i64 0, .slice none 0 0, .slice ua l.length uc, .slice none 0 0]
  | 1 => #[.int .i64 0, .int .i64 0, .int .i64 0, .int .i64 0, .int .u64 1, .int .u64 0, .int .u64 0, .int .u64 0, .int .u64 0, .int .u64 0, .int .i64 0, .int .u32 0, .int .i64 0, .int .i64 0, .int .i64 0, .int .u64 0, .int .i64 0, .int .i64 0, .int .u64 0, .slice none 0 0, .bool false, .int .i64 0, .slice none 0 0, .slice ua l.length uc, .slice none 0 0]
  | 2 => #[.int .i64 0, .int .i64 0, .int .i64 0, .int .i64 0, .int .u64 0, .int .u64 0, .int .u64 0, .int .u64 0, .int .u64 0, .int .u64 0, .int .i64 0, .int .u32 0, .int .i64 0, .int .i64 0, .int .i64 0, .int .u64 0, .int .i64 0, .int .i64 0, .int .u64 0, .slice none 0 0, .bool false, .int .i64 0, .slice none 0 0, .slice ua l.length uc, .slice none 0 0]
  | 3 => #[.int .i64 0, .int .i64 0, .int .i64 0, .int .i64 0, .int .u64 0, .int .u64 0, .int .u64 0, .int .u64 0, .int .u64 0, .int .u64 0, .int .i64 0, .int .u32 0, .int .i64 0, .int .i64 0, .int .i64 0, .int .u64 0, .int .i64 0, .int .i64 0, .int .u64 0, .slice none 0 0, .bool false, .int .i64 0, .slice none 0 0, .slice none 0 0, .slice none 0 0]
  | _ => #[.int .i64 0, .int .i64 0, .int .i64 0, .int .i64 0, .int .u64 0, .int .u64 0, .int .u64 0, .int .u64 0, .int .u64 0, .int .u64 0, .int .i64 0, .int .u32 0, .int .i64 0, .int .i64 0, .int .i64 0, .int .u64 0, .int .i64 0, .int .i64 0, .int .u64 0, .slice none 0 0, .bool false, .int .i64 0, .slice none 0 0, .slice none 0 0, .slice none 0 0]
def ChkRel17 (w W : World) (g : Nat) (ua : Option Addr) (uc : Nat) (l : List Up) (jv : Value) (wr : World) : Prop :=
  ∃ j, j ≤ 3 ∧ jv = .int .i64 (jN j) ∧ wr.heap[g]? = some (.cells (RestSt17 ua uc l j) 122 (0, 0)) ∧ (3 ≤ j → areReq l = true) ∧ Kept (fun k => k = g) W wr
theorem rest17_set0 (ua : Option Addr) (uc : Nat) (l : List Up) : (RestSt17 ua uc l 0).setIfInBounds 3 (.int .i64 0) = RestSt17 ua uc l 1 := by rfl
theorem rest17_row0 {w : World} {g : Nat} {ua : Option Addr} {uc : Nat} {l : List Up} (h : w.heap[g]? = some (.cells (RestSt17 ua uc l 0) 122 (0, 0))) : (w.setCell ⟨g, 3, none⟩ (.int .i64 0)).heap[g]? = some (.cells (RestSt17 ua uc l 1) 122 (0, 0)) := by rw [← rest17_set0]; exact blkU_set h 3 _
theorem rest17_len0 (ua : Option Addr) (uc : Nat) (l : List Up) : (RestSt17 ua uc l 0).size = 25 := by rfl
theorem rest17_set1 (ua : Option Addr) (uc : Nat) (l : List Up) : (RestSt17 ua uc l 1).setIfInBounds 4 (.int .u64 0) = RestSt17 ua uc l 2 := by rfl
theorem rest17_row1 {w : World} {g : Nat} {ua : Option Addr} {uc : Nat} {l : List Up} (h : w.heap[g]? = some (.cells (RestSt17 ua uc l 1) 122 (0, 0))) : (w.setCell ⟨g, 4, none⟩ (.int .u64 0)).heap[g]? = some (.cells (RestSt17 ua uc l 2) 122 (0, 0)) := by rw [← rest17_set1]; exact blkU_set h 4 _
theorem rest17_len1 (ua : Option Addr) (uc : Nat) (l : List Up) : (RestSt17 ua uc l 1).size = 25 := by rfl
theorem rest17_set2 (ua : Option Addr) (uc : Nat) (l : List Up) : (RestSt17 ua uc l 2).setIfInBounds 23 (.slice none 0 0) = RestSt17 ua uc l 3 := by rfl
theorem rest17_row2 {w : World} {g : Nat} {ua : Option Addr} {uc : Nat} {l : List Up} (h : w.heap[g]? = some (.cells (RestSt17 ua uc l 2) 122 (0, 0))) : (w.setCell ⟨g, 23, none⟩ (.slice none 0 0)).heap[g]? = some (.cells (RestSt17 ua uc l 3) 122 (0, 0)) := by rw [← rest17_set2]; exact blkU_set h 23 _
theorem rest17_len2 (ua : Option Addr) (uc : Nat) (l : List Up) : (RestSt17 ua uc l 2).size = 25 := by rfl
theorem rest17_end (ua : Option Addr) (uc : Nat) (l : List Up) : RestSt17 ua uc l 3 = #[.int .i64 0, .int .i64 0, .int .i64 0, .int .i64 0, .int .u64 0, .int .u64 0, .int .u64 0, .int .u64 0, .int .u64 0, .int .u64 0, .int .i64 0, .int .u32 0, .int .i64 0, .int .i64 0, .int .i64 0, .int .u64 0, .int .i64 0, .int .i64 0, .int .u64 0, .slice none 0 0, .bool false, .int .i64 0, .slice none 0 0, .slice none 0 0, .slice none 0 0] := by rfl
theorem let17_3 {w : World} {g : Nat} {ua : Option Addr} {uc : Nat} {l : List Up} (h : w.heap[g]? = some (.cells #[.int .i64 17, .int .i64 201, .int .i64 1, .int .i64 0, .int .u64 1, .int .u64 0, .int .u64 0, .int .u64 0, .int .u64 0, .int .u64 0, .int .i64 0, .int .u32 0, .int .i64 0, .int .i64 0, .int .i64 0, .int .u64 0, .int .i64 0, .int .i64 0, .int .u64 0, .slice none 0 0, .bool false, .int .i64 0, .slice none 0 0, .slice ua l.length uc, .slice none 0 0] 122 (0, 0))) : w.cell? ⟨g, 3, none⟩ = some (.int .i64 0) := cell_of_row _ _ 3 _ _ _ h
theorem let17_4 {w : World} {g : Nat} {ua : Option Addr} {uc : Nat} {l : List Up} (h : w.heap[g]? = some (.cells #[.int .i64 17, .int .i64 201, .int .i64 1, .int .i64 0, .int .u64 1, .int .u64 0, .int .u64 0, .int .u64 0, .int .u64 0, .int .u64 0, .int .i64 0, .int .u32 0, .int .i64 0, .int .i64 0, .int .i64 0, .int .u64 0, .int .i64 0, .int .i64 0, .int .u64 0, .slice none 0 0, .bool false, .int .i64 0, .slice none 0 0, .slice ua l.length uc, .slice none 0 0] 122 (0, 0))) : w.cell? ⟨g, 4, none⟩ = some (.int .u64 1) := cell_of_row _ _ 4 _ _ _ h
theorem let17_23 {w : World} {g : Nat} {ua : Option Addr} {uc : Nat} {l : List Up} (h : w.heap[g]? = some (.cells #[.int .i64 17, .int .i64 201, .int .i64 1, .int .i64 0, .int .u64 1, .int .u64 0, .int .u64 0, .int .u64 0, .int .u64 0, .int .u64 0, .int .i64 0, .int .u32 0, .int .i64 0, .int .i64 0, .int .i64 0, .int .u64 0, .int .i64 0, .int .i64 0, .int .u64 0, .slice none 0 0, .bool false, .int .i64 0, .slice none 0 0, .slice ua l.length uc, .slice none 0 0] 122 (0, 0))) : w.cell? ⟨g, 23, none⟩ = some (.slice ua l.length uc) := cell_of_row _ _ 23 _ _ _ h
set_option maxRecDepth 100000 in
set_option maxHeartbeats 4000000 in
theorem LCheck_17 (w : World) (ua : Option Addr) (uc : Nat) (l : List Up) (F : Nat → Prop) (hx : UsAt w F (.slice ua l.length uc) l) (hF : ∀ k, F k → k < w.heap.size) (ht : Tab10 w) : Calls Tryz.prog 61 #[.agg #[.int .i64 17, .int .i64 201, .int .i64 1, .int .i64 0, .int .u64 1, .int .u64 0, .int .u64 0, .int .u64 0, .int .u64 0, .int .u64 0, .int .i64 0, .int .u32 0, .int .i64 0, .int .i64 0, .int .i64 0, .int .u64 0, .int .i64 0, .int .i64 0, .int .u64 0, .slice none 0 0, .bool false, .int .i64 0, .slice none 0 0, .slice ua l.length uc, .slice none 0 0]] w fun e w' => e = .returned (.int .i64 (if areReq l then 0 else 4)) ∧ Kept NoB w w' := by
  obtain ⟨eb, heb⟩ : ∃ x : Int, x = if areReq l then 0 else 4 := ⟨_, rfl⟩
  rw [← heb]
  have HEB : Hid ((areReq l = true → eb = 0) ∧ (areReq l = false → eb = 4)) := Lib.hid ⟨fun h => by rw [heb, h]; rfl, fun h => by rw [heb, h]; rfl⟩
  clear heb
  obtain ⟨W0, hW0⟩ : ∃ W0, W0 = (w.alloc (.cells #[.int .i64 17, .int .i64 201, .int .i64 1, .int .i64 0, .int .u64 1, .int .u64 0, .int .u64 0, .int .u64 0, .int .u64 0, .int .u64 0, .int .i64 0, .int .u32 0, .int .i64 0, .int .i64 0, .int .i64 0, .int .u64 0, .int .i64 0, .int .i64 0, .int .u64 0, .slice none 0 0, .bool false, .int .i64 0, .slice none 0 0, .slice ua l.length uc, .slice none 0 0] 122 (0, 0))).alloc (.cells #[.int .i64 17, .int .i64 201, .int .i64 1, .int .i64 0, .int .u64 1, .int .u64 0, .int .u64 0, .int .u64 0, .int .u64 0, .int .u64 0, .int .i64 0, .int .u32 0, .int .i64 0, .int .i64 0, .int .i64 0, .int .u64 0, .int .i64 0, .int .i64 0, .int .u64 0, .slice none 0 0, .bool false, .int .i64 0, .slice none 0 0, .slice ua l.length uc, .slice none 0 0] 122 (0, 0)) := ⟨_, rfl⟩
  have g1 : W0.heap[w.heap.size]? = some (.cells #[.int .i64 17, .int .i64 201, .int .i64 1, .int .i64 0, .int .u64 1, .int .u64 0, .int .u64 0, .int .u64 0, .int .u64 0, .int .u64 0, .int .i64 0, .int .u32 0, .int .i64 0, .int .i64 0, .int .i64 0, .int .u64 0, .int .i64 0, .int .i64 0, .int .u64 0, .slice none 0 0, .bool false, .int .i64 0, .slice none 0 0, .slice ua l.length uc, .slice none 0 0] 122 (0, 0)) := by rw [hW0]; exact blkU_alloc (heap_alloc_new w _) _
  have g2 : W0.heap[w.heap.size + 1]? = some (.cells #[.int .i64 17, .int .i64 201, .int .i64 1, .int .i64 0, .int .u64 1, .int .u64 0, .int .u64 0, .int .u64 0, .int .u64 0, .int .u64 0, .int .i64 0, .int .u32 0, .int .i64 0, .int .i64 0, .int .i64 0, .int .u64 0, .int .i64 0, .int .i64 0, .int .u64 0, .slice none 0 0, .bool false, .int .i64 0, .slice none 0 0, .slice ua l.length uc, .slice none 0 0] 122 (0, 0)) := by
    have := heap_alloc_new (w.alloc (.cells #[.int .i64 17, .int .i64 201, .int .i64 1, .int .i64 0, .int .u64 1, .int .u64 0, .int .u64 0, .int .u64 0, .int .u64 0, .int .u64 0, .int .i64 0, .int .u32 0, .int .i64 0, .int .i64 0, .int .i64 0, .int .u64 0, .int .i64 0, .int .i64 0, .int .u64 0, .slice none 0 0, .bool false, .int .i64 0, .slice none 0 0, .slice ua l.length uc, .slice none 0 0] 122 (0, 0))) (.cells #[.int .i64 17, .int .i64 201, .int .i64 1, .int .i64 0, .int .u64 1, .int .u64 0, .int .u64 0, .int .u64 0, .int .u64 0, .int .u64 0, .int .i64 0, .int .u32 0, .int .i64 0, .int .i64 0, .int .i64 0, .int .u64 0, .int .i64 0, .int .i64 0, .int .u64 0, .slice none 0 0, .bool false, .int .i64 0, .slice none 0 0, .slice ua l.length uc, .slice none 0 0] 122 (0, 0))
    rw [show (w.alloc (.cells #[.int .i64 17, .int .i64 201, .int .i64 1, .int .i64 0, .int .u64 1, .int .u64 0, .int .u64 0, .int .u64 0, .int .u64 0, .int .u64 0, .int .i64 0, .int .u32 0, .int .i64 0, .int .i64 0, .int .i64 0, .int .u64 0, .int .i64 0, .int .i64 0, .int .u64 0, .slice none 0 0, .bool false, .int .i64 0, .slice none 0 0, .slice ua l.length uc, .slice none 0 0] 122 (0, 0))).heap.size = w.heap.size + 1 by simp] at this
    rw [hW0]; exact this
  have HSR : Hid (((w.alloc (.cells #[.int .i64 17, .int .i64 201, .int .i64 1, .int .i64 0, .int .u64 1, .int .u64 0, .int .u64 0, .int .u64 0, .int .u64 0, .int .u64 0, .int .i64 0, .int .u32 0, .int .i64 0, .int .i64 0, .int .i64 0, .int .u64 0, .int .i64 0, .int .i64 0, .int .u64 0, .slice none 0 0, .bool false, .int .i64 0, .slice none 0 0, .slice ua l.length uc, .slice none 0 0] 122 (0, 0))).alloc (.cells #[.int .i64 0, .int .i64 0, .int .i64 0, .int .i64 0, .int .u64 0, .int .u64 0, .int .u64 0, .int .u64 0, .int .u64 0, .int .u64 0, .int .i64 0, .int .u32 0, .int .i64 0, .int .i64 0, .int .i64 0, .int .u64 0, .int .i64 0, .int .i64 0, .int .u64 0, .slice none 0 0, .bool false, .int .i64 0, .slice none 0 0, .slice none 0 0, .slice none 0 0] 122 (0, 0))).setRow (w.heap.size + 1) #[.int .i64 17, .int .i64 201, .int .i64 1, .int .i64 0, .int .u64 1, .int .u64 0, .int .u64 0, .int .u64 0, .int .u64 0, .int .u64 0, .int .i64 0, .int .u32 0, .int .i64 0, .int .i64 0, .int .i64 0, .int .u64 0, .int .i64 0, .int .i64 0, .int .u64 0, .slice none 0 0, .bool false, .int .i64 0, .slice none 0 0, .slice ua l.length uc, .slice none 0 0] = W0) := Lib.hid (by
    have := World.setRow_alloc_new (w.alloc (.cells #[.int .i64 17, .int .i64 201, .int .i64 1, .int .i64 0, .int .u64 1, .int .u64 0, .int .u64 0, .int .u64 0, .int .u64 0, .int .u64 0, .int .i64 0, .int .u32 0, .int .i64 0, .int .i64 0, .int .i64 0, .int .u64 0, .int .i64 0, .int .i64 0, .int .u64 0, .slice none 0 0, .bool false, .int .i64 0, .slice none 0 0, .slice ua l.length uc, .slice none 0 0] 122 (0, 0))) #[.int .i64 0, .int .i64 0, .int .i64 0, .int .i64 0, .int .u64 0, .int .u64 0, .int .u64 0, .int .u64 0, .int .u64 0, .int .u64 0, .int .i64 0, .int .u32 0, .int .i64 0, .int .i64 0, .int .i64 0, .int .u64 0, .int .i64 0, .int .i64 0, .int .u64 0, .slice none 0 0, .bool false, .int .i64 0, .slice none 0 0, .slice none 0 0, .slice none 0 0] #[.int .i64 17, .int .i64 201, .int .i64 1, .int .i64 0, .int .u64 1, .int .u64 0, .int .u64 0, .int .u64 0, .int .u64 0, .int .u64 0, .int .i64 0, .int .u32 0, .int .i64 0, .int .i64 0, .int .i64 0, .int .u64 0, .int .i64 0, .int .i64 0, .int .u64 0, .slice none 0 0, .bool false, .int .i64 0, .slice none 0 0, .slice ua l.length uc, .slice none 0 0] 122
    rw [show (w.alloc (.cells #[.int .i64 17, .int .i64 201, .int .i64 1, .int .i64 0, .int .u64 1, .int .u64 0, .int .u64 0, .int .u64 0, .int .u64 0, .int .u64 0, .int .i64 0, .int .u32 0, .int .i64 0, .int .i64 0, .int .i64 0, .int .u64 0, .int .i64 0, .int .i64 0, .int .u64 0, .slice none 0 0, .bool false, .int .i64 0, .slice none 0 0, .slice ua l.length uc, .slice none 0 0] 122 (0, 0))).heap.size = w.heap.size + 1 by simp] at this
    rw [hW0]; exact this)
  have HGZ : Hid (((w.alloc (.cells #[.int .i64 17, .int .i64 201, .int .i64 1, .int .i64 0, .int .u64 1, .int .u64 0, .int .u64 0, .int .u64 0, .int .u64 0, .int .u64 0, .int .i64 0, .int .u32 0, .int .i64 0, .int .i64 0, .int .i64 0, .int .u64 0, .int .i64 0, .int .i64 0, .int .u64 0, .slice none 0 0, .bool false, .int .i64 0, .slice none 0 0, .slice ua l.length uc, .slice none 0 0] 122 (0, 0))).alloc (.cells #[.int .i64 0, .int .i64 0, .int .i64 0, .int .i64 0, .int .u64 0, .int .u64 0, .int .u64 0, .int .u64 0, .int .u64 0, .int .u64 0, .int .i64 0, .int .u32 0, .int .i64 0, .int .i64 0, .int .i64 0, .int .u64 0, .int .i64 0, .int .i64 0, .int .u64 0, .slice none 0 0, .bool false, .int .i64 0, .slice none 0 0, .slice none 0 0, .slice none 0 0] 122 (0, 0))).heap[w.heap.size + 1]? = some (.cells #[.int .i64 0, .int .i64 0, .int .i64 0, .int .i64 0, .int .u64 0, .int .u64 0, .int .u64 0, .int .u64 0, .int .u64 0, .int .u64 0, .int .i64 0, .int .u32 0, .int .i64 0, .int .i64 0, .int .i64 0, .int .u64 0, .int .i64 0, .int .i64 0, .int .u64 0, .slice none 0 0, .bool false, .int .i64 0, .slice none 0 0, .slice none 0 0, .slice none 0 0] 122 (0, 0))) := Lib.hid (by
    have := heap_alloc_new (w.alloc (.cells #[.int .i64 17, .int .i64 201, .int .i64 1, .int .i64 0, .int .u64 1, .int .u64 0, .int .u64 0, .int .u64 0, .int .u64 0, .int .u64 0, .int .i64 0, .int .u32 0, .int .i64 0, .int .i64 0, .int .i64 0, .int .u64 0, .int .i64 0, .int .i64 0, .int .u64 0, .slice none 0 0, .bool false, .int .i64 0, .slice none 0 0, .slice ua l.length uc, .slice none 0 0] 122 (0, 0))) (.cells #[.int .i64 0, .int .i64 0, .int .i64 0, .int .i64 0, .int .u64 0, .int .u64 0, .int .u64 0, .int .u64 0, .int .u64 0, .int .u64 0, .int .i64 0, .int .u32 0, .int .i64 0, .int .i64 0, .int .i64 0, .int .u64 0, .int .i64 0, .int .i64 0, .int .u64 0, .slice none 0 0, .bool false, .int .i64 0, .slice none 0 0, .slice none 0 0, .slice none 0 0] 122 (0, 0))
    rw [show (w.alloc (.cells #[.int .i64 17, .int .i64 201, .int .i64 1, .int .i64 0, .int .u64 1, .int .u64 0, .int .u64 0, .int .u64 0, .int .u64 0, .int .u64 0, .int .i64 0, .int .u32 0, .int .i64 0, .int .i64 0, .int .i64 0, .int .u64 0, .int .i64 0, .int .i64 0, .int .u64 0, .slice none 0 0, .bool false, .int .i64 0, .slice none 0 0, .slice ua l.length uc, .slice none 0 0] 122 (0, 0))).heap.size = w.heap.size + 1 by simp] at this
    exact this)
  have kW0 : Kept NoB w W0 := by rw [hW0]; exact ((Kept.refl NoB w).alloc _).alloc _
  have sW0 : W0.heap.size = w.heap.size + 2 := by rw [hW0]; simp
  have HNE : Hid (¬ w.heap.size + 1 = w.heap.size) := Lib.hid (by omega)
  clear hW0
  obtain ⟨W, hW⟩ : ∃ W, W = ((W0.setCell ⟨w.heap.size + 1, 0, none⟩ (.int .i64 0)).setCell ⟨w.heap.size + 1, 1, none⟩ (.int .i64 0)).setCell ⟨w.heap.size + 1, 2, none⟩ (.int .i64 0) := ⟨_, rfl⟩
  have h1 : W.heap[w.heap.size]? = some (.cells #[.int .i64 17, .int .i64 201, .int .i64 1, .int .i64 0, .int .u64 1, .int .u64 0, .int .u64 0, .int .u64 0, .int .u64 0, .int .u64 0, .int .i64 0, .int .u32 0, .int .i64 0, .int .i64 0, .int .i64 0, .int .u64 0, .int .i64 0, .int .i64 0, .int .u64 0, .slice none 0 0, .bool false, .int .i64 0, .slice none 0 0, .slice ua l.length uc, .slice none 0 0] 122 (0, 0)) := by rw [hW]; exact blkU_set_other (blkU_set_other (blkU_set_other g1 _ _ HNE.out) _ _ HNE.out) _ _ HNE.out
  have h2 : W.heap[w.heap.size + 1]? = some (.cells #[.int .i64 0, .int .i64 0, .int .i64 0, .int .i64 0, .int .u64 1, .int .u64 0, .int .u64 0, .int .u64 0, .int .u64 0, .int .u64 0, .int .i64 0, .int .u32 0, .int .i64 0, .int .i64 0, .int .i64 0, .int .u64 0, .int .i64 0, .int .i64 0, .int .u64 0, .slice none 0 0, .bool false, .int .i64 0, .slice none 0 0, .slice ua l.length uc, .slice none 0 0] 122 (0, 0)) := by
    have a0 : (W0.setCell ⟨w.heap.size + 1, 0, none⟩ (.int .i64 0)).heap[w.heap.size + 1]? = some (.cells #[.int .i64 0, .int .i64 201, .int .i64 1, .int .i64 0, .int .u64 1, .int .u64 0, .int .u64 0, .int .u64 0, .int .u64 0, .int .u64 0, .int .i64 0, .int .u32 0, .int .i64 0, .int .i64 0, .int .i64 0, .int .u64 0, .int .i64 0, .int .i64 0, .int .u64 0, .slice none 0 0, .bool false, .int .i64 0, .slice none 0 0, .slice ua l.length uc, .slice none 0 0] 122 (0, 0)) := blkU_set g2 0 _
    have a1 : ((W0.setCell ⟨w.heap.size + 1, 0, none⟩ (.int .i64 0)).setCell ⟨w.heap.size + 1, 1, none⟩ (.int .i64 0)).heap[w.heap.size + 1]? = some (.cells #[.int .i64 0, .int .i64 0, .int .i64 1, .int .i64 0, .int .u64 1, .int .u64 0, .int .u64 0, .int .u64 0, .int .u64 0, .int .u64 0, .int .i64 0, .int .u32 0, .int .i64 0, .int .i64 0, .int .i64 0, .int .u64 0, .int .i64 0, .int .i64 0, .int .u64 0, .slice none 0 0, .bool false, .int .i64 0, .slice none 0 0, .slice ua l.length uc, .slice none 0 0] 122 (0, 0)) := blkU_set a0 1 _
    rw [hW]
    exact blkU_set a1 2 _
  have hkW : Kept NoB w W := by
    rw [hW]
    exact ((kW0.setCell (p := ⟨w.heap.size + 1, 0, none⟩) (.inr (by show w.heap.size ≤ w.heap.size + 1; omega)) _).setCell (p := ⟨w.heap.size + 1, 1, none⟩) (.inr (by show w.heap.size ≤ w.heap.size + 1; omega)) _).setCell (p := ⟨w.heap.size + 1, 2, none⟩) (.inr (by show w.heap.size ≤ w.heap.size + 1; omega)) _
  have hsW : W.heap.size = w.heap.size + 2 := by rw [hW]; simp [World.setCell, sW0]
  have d0 : W0.cell? ⟨w.heap.size + 1, 0, none⟩ = some (.int .i64 17) := cell_of_row _ _ 0 _ _ _ g2
  have d1 : W0.cell? ⟨w.heap.size + 1, 1, none⟩ = some (.int .i64 201) := cell_of_row _ _ 1 _ _ _ g2
  have d2 : W0.cell? ⟨w.heap.size + 1, 2, none⟩ = some (.int .i64 1) := cell_of_row _ _ 2 _ _ _ g2
  have z0 := blkU_frozen g2
  have e0 : W.cell? ⟨w.heap.size, 0, none⟩ = some (.int .i64 17) := cell_of_row _ _ 0 _ _ _ h1
  clear g1 g2 kW0 sW0
  have HH1 := Lib.hid h1
  have HH2 := Lib.hid h2
  have HKW := Lib.hid hkW
  have HSW := Lib.hid hsW
  have HX := Lib.hid (hx.no hkW)
  have HF := Lib.hid hF
  have HTB := Lib.hid (ht.kept hkW (fun h => h))
  have HW := Lib.hid hW
  have HIK := Lib.hid (fun w => LisKind_any w 17)
  have HA1 := Lib.hid (fun w => LAddress_any w 201)
  have HA2 := Lib.hid (fun w => LAddress_any w 1)
  have hik : kindB 17 = true := by decide
  have ha1 : addrB 201 = true := by decide
  have ha2 : addrB 1 = true := by decide
  rw [hik] at HIK
  rw [ha1] at HA1
  rw [ha2] at HA2
  have HPO := Lib.hid (partsOf_17 W HTB.out)
  have c0 : (w.alloc (.cells #[.int .i64 17, .int .i64 201, .int .i64 1, .int .i64 0, .int .u64 1, .int .u64 0, .int .u64 0, .int .u64 0, .int .u64 0, .int .u64 0, .int .i64 0, .int .u32 0, .int .i64 0, .int .i64 0, .int .i64 0, .int .u64 0, .int .i64 0, .int .i64 0, .int .u64 0, .slice none 0 0, .bool false, .int .i64 0, .slice none 0 0, .slice ua l.length uc, .slice none 0 0] 122 (0, 0))).cell? ⟨w.heap.size, 0, none⟩ = some (.int .i64 17) := cell_of_row _ _ 0 _ _ _ (heap_alloc_new w _)
  have c1 : (w.alloc (.cells #[.int .i64 17, .int .i64 201, .int .i64 1, .int .i64 0, .int .u64 1, .int .u64 0, .int .u64 0, .int .u64 0, .int .u64 0, .int .u64 0, .int .i64 0, .int .u32 0, .int .i64 0, .int .i64 0, .int .i64 0, .int .u64 0, .int .i64 0, .int .i64 0, .int .u64 0, .slice none 0 0, .bool false, .int .i64 0, .slice none 0 0, .slice ua l.length uc, .slice none 0 0] 122 (0, 0))).cell? ⟨w.heap.size, 1, none⟩ = some (.int .i64 201) := cell_of_row _ _ 1 _ _ _ (heap_alloc_new w _)
  have c2 : (w.alloc (.cells #[.int .i64 17, .int .i64 201, .int .i64 1, .int .i64 0, .int .u64 1, .int .u64 0, .int .u64 0, .int .u64 0, .int .u64 0, .int .u64 0, .int .i64 0, .int .u32 0, .int .i64 0, .int .i64 0, .int .i64 0, .int .u64 0, .int .i64 0, .int .i64 0, .int .u64 0, .slice none 0 0, .bool false, .int .i64 0, .slice none 0 0, .slice ua l.length uc, .slice none 0 0] 122 (0, 0))).cell? ⟨w.heap.size, 2, none⟩ = some (.int .i64 1) := cell_of_row _ _ 2 _ _ _ (heap_alloc_new w _)
  clear h1 h2 hkW hsW hx ht hF hik ha1 ha2 hW
  go_enter Tryz.func61, Tryz.ntmps61
  go_wp2_with fail
  refine (HIK.out _).mono ?_
  rintro e w1 ⟨rfl, rfl⟩
  go_wp2_with fail
  refine (HA1.out _).mono ?_
  rintro e w1 ⟨rfl, rfl⟩
  go_wp2_with fail
  refine (HA2.out _).mono ?_
  rintro e w1 ⟨rfl, rfl⟩
  have HG0 := Lib.hid (heap_alloc_new w (.cells #[.int .i64 17, .int .i64 201, .int .i64 1, .int .i64 0, .int .u64 1, .int .u64 0, .int .u64 0, .int .u64 0, .int .u64 0, .int .u64 0, .int .i64 0, .int .u32 0, .int .i64 0, .int .i64 0, .int .i64 0, .int .u64 0, .int .i64 0, .int .i64 0, .int .u64 0, .slice none 0 0, .bool false, .int .i64 0, .slice none 0 0, .slice ua l.length uc, .slice none 0 0] 122 (0, 0)))
  clear c0 c1 c2
  have hone : (#[.int .i64 17, .int .i64 201, .int .i64 1, .int .i64 0, .int .u64 1, .int .u64 0, .int .u64 0, .int .u64 0, .int .u64 0, .int .u64 0, .int .i64 0, .int .u32 0, .int .i64 0, .int .i64 0, .int .i64 0, .int .u64 0, .int .i64 0, .int .i64 0, .int .u64 0, .slice none 0 0, .bool false, .int .i64 0, .slice none 0 0, .slice ua l.length uc, .slice none 0 0] : Array Value).all (·.oneCell') = true := by rw [← Array.all_toList]; rfl
  have HONE := Lib.hid hone
  clear hone
  go_upto_region 7 with (first
    | (refine wpList_load_row rfl 122 _ rfl w.heap.size rfl 122 #[.int .i64 17, .int .i64 201, .int .i64 1, .int .i64 0, .int .u64 1, .int .u64 0, .int .u64 0, .int .u64 0, .int .u64 0, .int .u64 0, .int .i64 0, .int .u32 0, .int .i64 0, .int .i64 0, .int .i64 0, .int .u64 0, .int .i64 0, .int .i64 0, .int .u64 0, .slice none 0 0, .bool false, .int .i64 0, .slice none 0 0, .slice ua l.length uc, .slice none 0 0] (0, 0) _ HG0.out Tryz.underlying122 rfl (by kernel_rfl) ?_)
    | (refine wpList_store_row rfl 122 _ _ rfl (w.heap.size + 1) #[.int .i64 17, .int .i64 201, .int .i64 1, .int .i64 0, .int .u64 1, .int .u64 0, .int .u64 0, .int .u64 0, .int .u64 0, .int .u64 0, .int .i64 0, .int .u32 0, .int .i64 0, .int .i64 0, .int .i64 0, .int .u64 0, .int .i64 0, .int .i64 0, .int .u64 0, .slice none 0 0, .bool false, .int .i64 0, .slice none 0 0, .slice ua l.length uc, .slice none 0 0] rfl rfl 122 #[.int .i64 0, .int .i64 0, .int .i64 0, .int .i64 0, .int .u64 0, .int .u64 0, .int .u64 0, .int .u64 0, .int .u64 0, .int .u64 0, .int .i64 0, .int .u32 0, .int .i64 0, .int .i64 0, .int .i64 0, .int .u64 0, .int .i64 0, .int .i64 0, .int .u64 0, .slice none 0 0, .bool false, .int .i64 0, .slice none 0 0, .slice none 0 0, .slice none 0 0] HGZ.out (by kernel_rfl) rfl HONE.out ?_; rw [HSR.out]))
  rw [← HW.out]
  clear d0 d1 d2 z0
  go_wp2_with fail
  refine HPO.out.mono ?_
  rintro e w1 ⟨pa, pc, ps, rfl, hrow, hps, hk⟩
  have HROW := Lib.hid hrow
  have HPS := Lib.hid hps
  have HK1 := Lib.hid hk
  have HR1 := Lib.hid (hk.heap (fun h => h) HH1.out)
  have HR2 := Lib.hid (hk.heap (fun h => h) HH2.out)
  have HX1 := Lib.hid (HX.out.no hk)
  clear hrow hps hk
  go_wp2
  generalize Value.agg #[.int .i64 17, .int .i64 201, .int .i64 1, .int .i64 0, .int .u64 1, .int .u64 0, .int .u64 0, .int .u64 0, .int .u64 0, .int .u64 0, .int .i64 0, .int .u32 0, .int .i64 0, .int .i64 0, .int .i64 0, .int .u64 0, .int .i64 0, .int .i64 0, .int .u64 0, .slice none 0 0, .bool false, .int .i64 0, .slice none 0 0, .slice ua l.length uc, .slice none 0 0] = LV0
  go_loopw [28] (ChkRel17 w w1 (w.heap.size + 1) ua uc l) (fun j _ => 3 - (RowKit.intOf j).toNat)
  case atStart => exact ⟨0, by omega, rfl, HR2.out, fun h => absurd h (by omega), Kept.refl _ _⟩
  case round =>
    obtain ⟨j, hj, rfl, hg2, hfin, hK⟩ := hrel
    have HFIN := Lib.hid hfin
    have hsB : ∀ k, W.heap.size ≤ k → ¬ k = w.heap.size + 1 := fun k hk => by have := HSW.out; omega
    have HG2 := Lib.hid hg2
    have HKR := Lib.hid hK
    have HRW := Lib.hid (HROW.out.kept hK hsB)
    have HPR := Lib.hid (HPS.out.kept hK hsB)
    have HG1 := Lib.hid (hK.heap (k := w.heap.size) (by omega) HR1.out)
    have HXR := Lib.hid (HX1.out.kept hK (fun k hf => by have := HF.out k hf; omega))
    clear hg2 hK hsB hfin
    have hcase : j = 0 ∨ j = 1 ∨ j = 2 ∨ j = 3 := by omega
    clear hj
    rcases hcase with rfl | rfl | rfl | rfl

    · as_aux_lemma =>
        have hjj : jN 0 = 0 := rfl
        rw [hjj] at *
        clear hjj
        have hlen : ps.length = 3 := HPR.out.1
        obtain ⟨r, rfl, hBr, f0, f1, f2, f3⟩ := HRW.out.at_ (j := 0) (by omega)
        have hp : Part1 W.heap.size wr (q4v (ps.getD 0 q40)) := HPR.out.2 0 (by decide)
        have hgd : ps.getD 0 q40 = ps[0]'(by omega) := by rw [List.getD_eq_getElem?_getD, List.getElem?_eq_getElem (by omega)]; rfl
        rw [hgd] at hp
        obtain ⟨bm, hbm, hm, s, bw, hs, hbw, he, a1, a2, a3, a4, a5⟩ := hp
        obtain ⟨i0, i1, i2, i3⟩ := q4_inj he
        rw [i0] at f0
        rw [i1] at f1
        rw [i2] at f2
        rw [i3] at f3
        simp only [Nat.reduceMul, Nat.reduceAdd, Nat.zero_mul, Nat.zero_add] at f0 f1 f2 f3
        have hsI : W.heap.size ≤ s := hs
        have hka := (Kept.refl NoB wr).alloc (.cells #[(.func (.func 341) #[] #[pb s, pb (s + 3)]), (.func (.func 342) #[] #[pb (s + 1), pb (s + 3)]), (.func (.func 343) #[] #[pb (s + 2), pb (s + 3)]), (.func (.func 344) #[] #[pb (s + 3)])] 226 (0, 0))
        obtain ⟨b0, b1, b2, b3⟩ := cells4p (heap_alloc_new wr (.cells #[(.func (.func 341) #[] #[pb s, pb (s + 3)]), (.func (.func 342) #[] #[pb (s + 1), pb (s + 3)]), (.func (.func 343) #[] #[pb (s + 2), pb (s + 3)]), (.func (.func 344) #[] #[pb (s + 3)])] 226 (0, 0)))
        have HB := Lib.hid (heap_alloc_new wr (.cells #[(.func (.func 341) #[] #[pb s, pb (s + 3)]), (.func (.func 342) #[] #[pb (s + 1), pb (s + 3)]), (.func (.func 343) #[] #[pb (s + 2), pb (s + 3)]), (.func (.func 344) #[] #[pb (s + 3)])] 226 (0, 0)))
        have hR := right_1 _ w.heap.size s bm 0 (hm.no hka) (a1.no hka) (a4.no hka) (hka.cell (p := ⟨w.heap.size, 3, none⟩) (fun h => h) (let17_3 HG1.out))
        have HKA := Lib.hid hka
        have HA4 := Lib.hid a4
        have hent1 : ∀ (args : Array Value) (w : World), Sem.run Tryz.prog (callFunc 341 args) w = .ok (.enter 341 args) w := fun args w => by kernel_rfl
        have hent4 : ∀ (args : Array Value) (w : World), Sem.run Tryz.prog (callFunc 344 args) w = .ok (.enter 344 args) w := fun args w => by kernel_rfl
        rw [(by decide : (decide ((0 : Int) ≤ 0) && decide ((0 : Int) ≤ 3)) = true)] at hR
        have HRI := Lib.hid hR
        clear hka a1 a2 a3 a4 he i0 i1 i2 i3 hs hgd hBr hm hbm hbw a5 hR
        go_wp2_with fail
        refine HRI.out.mono ?_
        rintro e w2 ⟨rfl, hk2⟩
        have hb2 := hk2.heap (fun h => h) HB.out
        obtain ⟨b0, b1, b2, b3⟩ := cells4p hb2
        have hg2 := (HKA.out.trans hk2 (fun _ _ h => h)).heap (fun h => h) HG2.out
        have HG := Lib.hid hg2
        have HD := Lib.hid (drop_1 w2 (w.heap.size + 1) (s + 3) _ (HA4.out.no (HKA.out.trans hk2 (fun _ _ h => h))) hg2 (rest17_len0 _ _ _))
        have HK2 := Lib.hid (HKR.out.trans (HKA.out.trans hk2 (fun _ _ h => h)) (fun _ _ h => absurd h (fun h => h)))
        clear hk2 hb2 hg2
        go_wp2_with fail
        refine HD.out.mono ?_
        rintro e w3 ⟨rfl, rfl⟩
        go_wp2
        exact ⟨⟨1, by omega, rfl, rest17_row0 HG.out, fun h => absurd h (by omega), HK2.out.setCell (p := ⟨w.heap.size + 1, 3, none⟩) (.inl rfl) _⟩, by simp [RowKit.intOf, jN]⟩
    · as_aux_lemma =>
        have hjj : jN 1 = 1 := rfl
        rw [hjj] at *
        clear hjj
        have hlen : ps.length = 3 := HPR.out.1
        obtain ⟨r, rfl, hBr, f0, f1, f2, f3⟩ := HRW.out.at_ (j := 1) (by omega)
        have hp : Part2 W.heap.size wr (q4v (ps.getD 1 q40)) := HPR.out.2 1 (by decide)
        have hgd : ps.getD 1 q40 = ps[1]'(by omega) := by rw [List.getD_eq_getElem?_getD, List.getElem?_eq_getElem (by omega)]; rfl
        rw [hgd] at hp
        obtain ⟨s, bw, hs, hbw, he, a1, a2, a3, a4, a5⟩ := hp
        obtain ⟨i0, i1, i2, i3⟩ := q4_inj he
        rw [i0] at f0
        rw [i1] at f1
        rw [i2] at f2
        rw [i3] at f3
        simp only [Nat.reduceMul, Nat.reduceAdd, Nat.zero_mul, Nat.zero_add] at f0 f1 f2 f3
        have hsI : W.heap.size ≤ s := hs
        have hka := (Kept.refl NoB wr).alloc (.cells #[(.func (.func 336) #[] #[pb s, pb (s + 3)]), (.func (.func 337) #[] #[pb (s + 1), pb (s + 3)]), (.func (.func 338) #[] #[pb (s + 2), pb (s + 3)]), (.func (.func 339) #[] #[pb (s + 3)])] 226 (0, 0))
        obtain ⟨b0, b1, b2, b3⟩ := cells4p (heap_alloc_new wr (.cells #[(.func (.func 336) #[] #[pb s, pb (s + 3)]), (.func (.func 337) #[] #[pb (s + 1), pb (s + 3)]), (.func (.func 338) #[] #[pb (s + 2), pb (s + 3)]), (.func (.func 339) #[] #[pb (s + 3)])] 226 (0, 0)))
        have HB := Lib.hid (heap_alloc_new wr (.cells #[(.func (.func 336) #[] #[pb s, pb (s + 3)]), (.func (.func 337) #[] #[pb (s + 1), pb (s + 3)]), (.func (.func 338) #[] #[pb (s + 2), pb (s + 3)]), (.func (.func 339) #[] #[pb (s + 3)])] 226 (0, 0)))
        have hR := right_2 _ w.heap.size s 1 (a1.no hka) (a4.no hka) (hka.cell (p := ⟨w.heap.size, 4, none⟩) (fun h => h) (let17_4 HG1.out))
        have HKA := Lib.hid hka
        have HA4 := Lib.hid a4
        have hent1 : ∀ (args : Array Value) (w : World), Sem.run Tryz.prog (callFunc 336 args) w = .ok (.enter 336 args) w := fun args w => by kernel_rfl
        have hent4 : ∀ (args : Array Value) (w : World), Sem.run Tryz.prog (callFunc 339 args) w = .ok (.enter 339 args) w := fun args w => by kernel_rfl
        rw [(by decide : decide ((1 : Int) ≤ 1) = true)] at hR
        have HRI := Lib.hid hR
        clear hka a1 a2 a3 a4 he i0 i1 i2 i3 hs hgd hBr hbw a5 hR
        go_wp2_with fail
        refine HRI.out.mono ?_
        rintro e w2 ⟨rfl, hk2⟩
        have hb2 := hk2.heap (fun h => h) HB.out
        obtain ⟨b0, b1, b2, b3⟩ := cells4p hb2
        have hg2 := (HKA.out.trans hk2 (fun _ _ h => h)).heap (fun h => h) HG2.out
        have HG := Lib.hid hg2
        have HD := Lib.hid (drop_2 w2 (w.heap.size + 1) (s + 3) _ (HA4.out.no (HKA.out.trans hk2 (fun _ _ h => h))) hg2 (rest17_len1 _ _ _))
        have HK2 := Lib.hid (HKR.out.trans (HKA.out.trans hk2 (fun _ _ h => h)) (fun _ _ h => absurd h (fun h => h)))
        clear hk2 hb2 hg2
        go_wp2_with fail
        refine HD.out.mono ?_
        rintro e w3 ⟨rfl, rfl⟩
        go_wp2
        exact ⟨⟨2, by omega, rfl, rest17_row1 HG.out, fun h => absurd h (by omega), HK2.out.setCell (p := ⟨w.heap.size + 1, 4, none⟩) (.inl rfl) _⟩, by simp [RowKit.intOf, jN]⟩
    · as_aux_lemma =>
        have hjj : jN 2 = 2 := rfl
        rw [hjj] at *
        clear hjj
        have hlen : ps.length = 3 := HPR.out.1
        obtain ⟨r, rfl, hBr, f0, f1, f2, f3⟩ := HRW.out.at_ (j := 2) (by omega)
        have hp : Part15 W.heap.size wr (q4v (ps.getD 2 q40)) := HPR.out.2 2 (by decide)
        have hgd : ps.getD 2 q40 = ps[2]'(by omega) := by rw [List.getD_eq_getElem?_getD, List.getElem?_eq_getElem (by omega)]; rfl
        rw [hgd] at hp
        obtain ⟨s, hs, he, a1, a2, a3, a4⟩ := hp
        obtain ⟨i0, i1, i2, i3⟩ := q4_inj he
        rw [i0] at f0
        rw [i1] at f1
        rw [i2] at f2
        rw [i3] at f3
        simp only [Nat.reduceMul, Nat.reduceAdd, Nat.zero_mul, Nat.zero_add] at f0 f1 f2 f3
        have hsI : W.heap.size ≤ s := hs
        have hka := (Kept.refl NoB wr).alloc (.cells #[(.func (.func 314) #[] #[pb s, pb (s + 3)]), (.func (.func 315) #[] #[pb (s + 1), pb (s + 3)]), (.func (.func 316) #[] #[pb (s + 2), pb (s + 3)]), (.func (.func 317) #[] #[pb (s + 3)])] 226 (0, 0))
        obtain ⟨b0, b1, b2, b3⟩ := cells4p (heap_alloc_new wr (.cells #[(.func (.func 314) #[] #[pb s, pb (s + 3)]), (.func (.func 315) #[] #[pb (s + 1), pb (s + 3)]), (.func (.func 316) #[] #[pb (s + 2), pb (s + 3)]), (.func (.func 317) #[] #[pb (s + 3)])] 226 (0, 0)))
        have HB := Lib.hid (heap_alloc_new wr (.cells #[(.func (.func 314) #[] #[pb s, pb (s + 3)]), (.func (.func 315) #[] #[pb (s + 1), pb (s + 3)]), (.func (.func 316) #[] #[pb (s + 2), pb (s + 3)]), (.func (.func 317) #[] #[pb (s + 3)])] 226 (0, 0)))
        have hR := right_15 _ w.heap.size s _ l F (HXR.out.no hka) (a1.no hka) (a4.no hka) (hka.cell (p := ⟨w.heap.size, 23, none⟩) (fun h => h) (let17_23 HG1.out))
        have HKA := Lib.hid hka
        have HA4 := Lib.hid a4
        have hent1 : ∀ (args : Array Value) (w : World), Sem.run Tryz.prog (callFunc 314 args) w = .ok (.enter 314 args) w := fun args w => by kernel_rfl
        have hent4 : ∀ (args : Array Value) (w : World), Sem.run Tryz.prog (callFunc 317 args) w = .ok (.enter 317 args) w := fun args w => by kernel_rfl
        have HRI := Lib.hid hR
        clear hka a1 a2 a3 a4 he i0 i1 i2 i3 hs hgd hBr hR
        cases hfine : areReq l with
        | true =>
          rw [hfine] at HRI
          have HFN := Lib.hid hfine
          clear hfine
          go_wp2_with fail
          refine HRI.out.mono ?_
          rintro e w2 ⟨rfl, hk2⟩
          have hb2 := hk2.heap (fun h => h) HB.out
          obtain ⟨b0, b1, b2, b3⟩ := cells4p hb2
          have hg2 := (HKA.out.trans hk2 (fun _ _ h => h)).heap (fun h => h) HG2.out
          have HG := Lib.hid hg2
          have HD := Lib.hid (drop_15 w2 (w.heap.size + 1) (s + 3) _ (HA4.out.no (HKA.out.trans hk2 (fun _ _ h => h))) hg2 (rest17_len2 _ _ _))
          have HK2 := Lib.hid (HKR.out.trans (HKA.out.trans hk2 (fun _ _ h => h)) (fun _ _ h => absurd h (fun h => h)))
          clear hk2 hb2 hg2
          go_wp2_with fail
          refine HD.out.mono ?_
          rintro e w3 ⟨rfl, rfl⟩
          go_wp2
          exact ⟨⟨3, by omega, rfl, rest17_row2 HG.out, fun _ => HFN.out, HK2.out.setCell (p := ⟨w.heap.size + 1, 23, none⟩) (.inl rfl) _⟩, by simp [RowKit.intOf, jN]⟩
        | false =>
          rw [hfine] at HRI
          have HFN := Lib.hid hfine
          clear hfine
          go_wp2_with fail
          refine HRI.out.mono ?_
          rintro e w2 ⟨rfl, hk2⟩
          have HK2 := Lib.hid (HKR.out.trans (HKA.out.trans hk2 (fun _ _ h => h)) (fun _ _ h => absurd h (fun h => h)))
          clear hk2
          go_wp2
          go_ret
          exact ⟨by rw [HEB.out.2 HFN.out]; rfl, (HKW.out.trans HK1.out (fun _ _ h => h)).trans HK2.out (fun i hi h => by omega)⟩
    · as_aux_lemma =>
        have hjj : jN 3 = 3 := rfl
        rw [hjj] at *
        clear hjj
        have HK3 := Lib.hid ((HKW.out.trans HK1.out (fun _ _ h => h)).trans HKR.out (fun i hi h => by omega))
        have hz := HG2.out
        rw [rest17_end] at hz
        go_wp2_with (refine wpList_load_row rfl 122 _ rfl (w.heap.size + 1) rfl 122 #[.int .i64 0, .int .i64 0, .int .i64 0, .int .i64 0, .int .u64 0, .int .u64 0, .int .u64 0, .int .u64 0, .int .u64 0, .int .u64 0, .int .i64 0, .int .u32 0, .int .i64 0, .int .i64 0, .int .i64 0, .int .u64 0, .int .i64 0, .int .i64 0, .int .u64 0, .slice none 0 0, .bool false, .int .i64 0, .slice none 0 0, .slice none 0 0, .slice none 0 0] (0, 0) _ hz Tryz.underlying122 rfl (by kernel_rfl) ?_)
        refine (LSame_zero _).mono ?_
        rintro e w2 ⟨rfl, hk2⟩
        have HK4 := Lib.hid (HK3.out.trans hk2 (fun _ _ h => h))
        clear hk2
        go_wp2
        go_ret
        exact ⟨by rw [HEB.out.1 (HFIN.out (by omega))]; rfl, HK4.out⟩
end Go.Proofs.YtnnmkmipeoajjaaGreatDoor
