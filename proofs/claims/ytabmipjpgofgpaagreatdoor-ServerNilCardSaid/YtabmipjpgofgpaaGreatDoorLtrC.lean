/-
  Package letter: field and number: what a part consists of.
-/
import Derived.Test.YtabmipjpgofgpaaGreatDoorLtrB
namespace Go.Proofs.YtabmipjpgofgpaaGreatDoor
open Go.RowKit
set_option linter.unusedVariables false
set_option linter.unusedSimpArgs false

/-- A block of one value. -/
def OneAt (t : TypeId) (b : Nat) (v : Value) (w : World) : Prop := w.heap[b]? = some (.cells #[v] t (0, 0))
theorem OneAt.kept {t : TypeId} {b : Nat} {v : Value} {S : Nat → Prop} {a c : World} (h : OneAt t b v a) (hk : Kept S a c) (hs : ¬ S b) : OneAt t b v c := hk.heap hs h
theorem OneAt.no {t : TypeId} {b : Nat} {v : Value} {a c : World} (h : OneAt t b v a) (hk : Kept NoB a c) : OneAt t b v c := hk.heap (fun h => h) h
theorem OneAt.cell {t : TypeId} {b : Nat} {v : Value} {w : World} (h : OneAt t b v w) : w.cell? ⟨b, 0, none⟩ = some v := cell_of_row _ _ 0 _ _ _ h
theorem OneAt.new (w : World) (t : TypeId) (v : Value) : OneAt t w.heap.size v (w.alloc (.cells #[v] t (0, 0))) := heap_alloc_new w _
theorem OneAt.alloc {t : TypeId} {b : Nat} {v : Value} {w : World} (h : OneAt t b v w) (o : Obj) : OneAt t b v (w.alloc o) := h.no ((Kept.refl NoB w).alloc o)
/-- A pointer to a block's first cell. -/
abbrev pb (b : Nat) : Value := .pointer (some ⟨b, 0, none⟩)
/-- A part as a value: its four functions, over the blocks that hold what they were made of. -/
def PartAg (f1 f2 f3 f4 : FuncId) (br bp bg ba : Nat) : Value := .agg #[.func (.func f1) #[] #[pb br, pb ba], .func (.func f2) #[] #[pb bp, pb ba], .func (.func f3) #[] #[pb bg, pb ba], .func (.func f4) #[] #[pb ba]]
theorem PartAg_one (f1 f2 f3 f4 : FuncId) (br bp bg ba : Nat) : ∀ u ∈ [Value.func (.func f1) #[] #[pb br, pb ba], .func (.func f2) #[] #[pb bp, pb ba], .func (.func f3) #[] #[pb bg, pb ba], .func (.func f4) #[] #[pb ba]], u.oneCell' = true := by
  intro u hu
  simp only [List.mem_cons, List.not_mem_nil, or_false] at hu
  rcases hu with rfl | rfl | rfl | rfl <;> rfl
/-- What field tells. -/
def FieldE (f1 f2 f3 f4 : FuncId) (t1 t2 t3 t4 : TypeId) (v1 v2 v3 v4 : Value) (w : World) (e : Ending) (w' : World) : Prop :=
  ∃ s, w.heap.size ≤ s ∧ e = .returned (PartAg f1 f2 f3 f4 s (s + 1) (s + 2) (s + 3)) ∧ OneAt t1 s v1 w' ∧ OneAt t2 (s + 1) v2 w' ∧ OneAt t3 (s + 2) v3 w' ∧ OneAt t4 (s + 3) v4 w' ∧ Kept NoB w w'
set_option maxRecDepth 100000 in
set_option maxHeartbeats 1000000 in
theorem field_u64 (w : World) (v1 v2 v3 v4 : Value) (h1 : v1.oneCell' = true) (h2 : v2.oneCell' = true) (h3 : v3.oneCell' = true) (h4 : v4.oneCell' = true) : Calls Tryz.prog 288 #[v1, v2, v3, v4] w (FieldE 341 342 343 344 186 355 356 297 v1 v2 v3 v4 w) := by
  have hmf : ∀ (fn : Fn) (first cap : Array Value) (w : World), (Instr.makeFunc fn first cap).run Tryz.prog w = .ok (.func fn first cap) w := fun _ _ _ _ => rfl
  have o1 := OneAt.new w 186 v1
  have o2 := OneAt.new (w.alloc (.cells #[v1] 186 (0, 0))) 355 v2
  have o3 := OneAt.new ((w.alloc (.cells #[v1] 186 (0, 0))).alloc (.cells #[v2] 355 (0, 0))) 356 v3
  have o4 := OneAt.new (((w.alloc (.cells #[v1] 186 (0, 0))).alloc (.cells #[v2] 355 (0, 0))).alloc (.cells #[v3] 356 (0, 0))) 297 v4
  have HK := Lib.hid (((((Kept.refl NoB w).alloc (.cells #[v1] 186 (0, 0))).alloc (.cells #[v2] 355 (0, 0))).alloc (.cells #[v3] 356 (0, 0))).alloc (.cells #[v4] 297 (0, 0)))
  have e2 : (w.alloc (.cells #[v1] 186 (0, 0))).heap.size = w.heap.size + 1 := by simp
  have e3 : ((w.alloc (.cells #[v1] 186 (0, 0))).alloc (.cells #[v2] 355 (0, 0))).heap.size = w.heap.size + 2 := by simp
  have e4 : (((w.alloc (.cells #[v1] 186 (0, 0))).alloc (.cells #[v2] 355 (0, 0))).alloc (.cells #[v3] 356 (0, 0))).heap.size = w.heap.size + 3 := by simp
  rw [e2] at o2
  rw [e3] at o3
  rw [e4] at o4
  have HO := Lib.hid (And.intro (((o1.alloc (.cells #[v2] 355 (0, 0))).alloc (.cells #[v3] 356 (0, 0))).alloc (.cells #[v4] 297 (0, 0))) (And.intro ((o2.alloc (.cells #[v3] 356 (0, 0))).alloc (.cells #[v4] 297 (0, 0))) (And.intro (o3.alloc (.cells #[v4] 297 (0, 0))) o4)))
  clear o1 o2 o3 o4 e2 e3 e4
  go_enter Tryz.func288, Tryz.ntmps288
  go_wp2
  exact bodyPost_ret (v := PartAg 341 342 343 344 w.heap.size (w.heap.size + 1) (w.heap.size + 2) (w.heap.size + 3)) (by simp [results, Tryz.results288, go_sem, PartAg]) rfl ⟨w.heap.size, Nat.le_refl _, rfl, HO.out.1.alloc _, HO.out.2.1.alloc _, HO.out.2.2.1.alloc _, HO.out.2.2.2.alloc _, HK.out.alloc _⟩
set_option maxRecDepth 100000 in
set_option maxHeartbeats 1000000 in
theorem field_int (w : World) (v1 v2 v3 v4 : Value) (h1 : v1.oneCell' = true) (h2 : v2.oneCell' = true) (h3 : v3.oneCell' = true) (h4 : v4.oneCell' = true) : Calls Tryz.prog 292 #[v1, v2, v3, v4] w (FieldE 346 347 348 349 197 360 361 301 v1 v2 v3 v4 w) := by
  have hmf : ∀ (fn : Fn) (first cap : Array Value) (w : World), (Instr.makeFunc fn first cap).run Tryz.prog w = .ok (.func fn first cap) w := fun _ _ _ _ => rfl
  have o1 := OneAt.new w 197 v1
  have o2 := OneAt.new (w.alloc (.cells #[v1] 197 (0, 0))) 360 v2
  have o3 := OneAt.new ((w.alloc (.cells #[v1] 197 (0, 0))).alloc (.cells #[v2] 360 (0, 0))) 361 v3
  have o4 := OneAt.new (((w.alloc (.cells #[v1] 197 (0, 0))).alloc (.cells #[v2] 360 (0, 0))).alloc (.cells #[v3] 361 (0, 0))) 301 v4
  have HK := Lib.hid (((((Kept.refl NoB w).alloc (.cells #[v1] 197 (0, 0))).alloc (.cells #[v2] 360 (0, 0))).alloc (.cells #[v3] 361 (0, 0))).alloc (.cells #[v4] 301 (0, 0)))
  have e2 : (w.alloc (.cells #[v1] 197 (0, 0))).heap.size = w.heap.size + 1 := by simp
  have e3 : ((w.alloc (.cells #[v1] 197 (0, 0))).alloc (.cells #[v2] 360 (0, 0))).heap.size = w.heap.size + 2 := by simp
  have e4 : (((w.alloc (.cells #[v1] 197 (0, 0))).alloc (.cells #[v2] 360 (0, 0))).alloc (.cells #[v3] 361 (0, 0))).heap.size = w.heap.size + 3 := by simp
  rw [e2] at o2
  rw [e3] at o3
  rw [e4] at o4
  have HO := Lib.hid (And.intro (((o1.alloc (.cells #[v2] 360 (0, 0))).alloc (.cells #[v3] 361 (0, 0))).alloc (.cells #[v4] 301 (0, 0))) (And.intro ((o2.alloc (.cells #[v3] 361 (0, 0))).alloc (.cells #[v4] 301 (0, 0))) (And.intro (o3.alloc (.cells #[v4] 301 (0, 0))) o4)))
  clear o1 o2 o3 o4 e2 e3 e4
  go_enter Tryz.func292, Tryz.ntmps292
  go_wp2
  exact bodyPost_ret (v := PartAg 346 347 348 349 w.heap.size (w.heap.size + 1) (w.heap.size + 2) (w.heap.size + 3)) (by simp [results, Tryz.results292, go_sem, PartAg]) rfl ⟨w.heap.size, Nat.le_refl _, rfl, HO.out.1.alloc _, HO.out.2.1.alloc _, HO.out.2.2.1.alloc _, HO.out.2.2.2.alloc _, HK.out.alloc _⟩
set_option maxRecDepth 100000 in
set_option maxHeartbeats 1000000 in
theorem field_ups (w : World) (v1 v2 v3 v4 : Value) (h1 : v1.oneCell' = true) (h2 : v2.oneCell' = true) (h3 : v3.oneCell' = true) (h4 : v4.oneCell' = true) : Calls Tryz.prog 257 #[v1, v2, v3, v4] w (FieldE 318 319 320 321 328 329 330 332 v1 v2 v3 v4 w) := by
  have hmf : ∀ (fn : Fn) (first cap : Array Value) (w : World), (Instr.makeFunc fn first cap).run Tryz.prog w = .ok (.func fn first cap) w := fun _ _ _ _ => rfl
  have o1 := OneAt.new w 328 v1
  have o2 := OneAt.new (w.alloc (.cells #[v1] 328 (0, 0))) 329 v2
  have o3 := OneAt.new ((w.alloc (.cells #[v1] 328 (0, 0))).alloc (.cells #[v2] 329 (0, 0))) 330 v3
  have o4 := OneAt.new (((w.alloc (.cells #[v1] 328 (0, 0))).alloc (.cells #[v2] 329 (0, 0))).alloc (.cells #[v3] 330 (0, 0))) 332 v4
  have HK := Lib.hid (((((Kept.refl NoB w).alloc (.cells #[v1] 328 (0, 0))).alloc (.cells #[v2] 329 (0, 0))).alloc (.cells #[v3] 330 (0, 0))).alloc (.cells #[v4] 332 (0, 0)))
  have e2 : (w.alloc (.cells #[v1] 328 (0, 0))).heap.size = w.heap.size + 1 := by simp
  have e3 : ((w.alloc (.cells #[v1] 328 (0, 0))).alloc (.cells #[v2] 329 (0, 0))).heap.size = w.heap.size + 2 := by simp
  have e4 : (((w.alloc (.cells #[v1] 328 (0, 0))).alloc (.cells #[v2] 329 (0, 0))).alloc (.cells #[v3] 330 (0, 0))).heap.size = w.heap.size + 3 := by simp
  rw [e2] at o2
  rw [e3] at o3
  rw [e4] at o4
  have HO := Lib.hid (And.intro (((o1.alloc (.cells #[v2] 329 (0, 0))).alloc (.cells #[v3] 330 (0, 0))).alloc (.cells #[v4] 332 (0, 0))) (And.intro ((o2.alloc (.cells #[v3] 330 (0, 0))).alloc (.cells #[v4] 332 (0, 0))) (And.intro (o3.alloc (.cells #[v4] 332 (0, 0))) o4)))
  clear o1 o2 o3 o4 e2 e3 e4
  go_enter Tryz.func257, Tryz.ntmps257
  go_wp2
  exact bodyPost_ret (v := PartAg 318 319 320 321 w.heap.size (w.heap.size + 1) (w.heap.size + 2) (w.heap.size + 3)) (by simp [results, Tryz.results257, go_sem, PartAg]) rfl ⟨w.heap.size, Nat.le_refl _, rfl, HO.out.1.alloc _, HO.out.2.1.alloc _, HO.out.2.2.1.alloc _, HO.out.2.2.2.alloc _, HK.out.alloc _⟩
end Go.Proofs.YtabmipjpgofgpaaGreatDoor
