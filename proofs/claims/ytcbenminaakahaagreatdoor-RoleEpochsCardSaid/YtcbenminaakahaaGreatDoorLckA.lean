/-
  Package letter: field, for the other types of parts.
-/
import Derived.Test.YtcbenminaakahaaGreatDoorLtrG
import Derived.Test.YtcbenminaakahaaGreatDoorLtrH
namespace Go.Proofs.YtcbenminaakahaaGreatDoor
open Go.RowKit
set_option linter.unusedVariables false
set_option linter.unusedSimpArgs false


set_option maxRecDepth 100000 in
set_option maxHeartbeats 1000000 in
theorem field_u32 (w : World) (v1 v2 v3 v4 : Value) (h1 : v1.oneCell' = true) (h2 : v2.oneCell' = true) (h3 : v3.oneCell' = true) (h4 : v4.oneCell' = true) : Calls Tryz.prog 255 #[v1, v2, v3, v4] w (FieldE 313 314 315 316 244 341 342 286 v1 v2 v3 v4 w) := by
  have hmf : ∀ (fn : Fn) (first cap : Array Value) (w : World), (Instr.makeFunc fn first cap).run Tryz.prog w = .ok (.func fn first cap) w := fun _ _ _ _ => rfl
  have o1 := OneAt.new w 244 v1
  have o2 := OneAt.new (w.alloc (.cells #[v1] 244 (0, 0))) 341 v2
  have o3 := OneAt.new ((w.alloc (.cells #[v1] 244 (0, 0))).alloc (.cells #[v2] 341 (0, 0))) 342 v3
  have o4 := OneAt.new (((w.alloc (.cells #[v1] 244 (0, 0))).alloc (.cells #[v2] 341 (0, 0))).alloc (.cells #[v3] 342 (0, 0))) 286 v4
  have HK := Lib.hid (((((Kept.refl NoB w).alloc (.cells #[v1] 244 (0, 0))).alloc (.cells #[v2] 341 (0, 0))).alloc (.cells #[v3] 342 (0, 0))).alloc (.cells #[v4] 286 (0, 0)))
  have e2 : (w.alloc (.cells #[v1] 244 (0, 0))).heap.size = w.heap.size + 1 := by simp
  have e3 : ((w.alloc (.cells #[v1] 244 (0, 0))).alloc (.cells #[v2] 341 (0, 0))).heap.size = w.heap.size + 2 := by simp
  have e4 : (((w.alloc (.cells #[v1] 244 (0, 0))).alloc (.cells #[v2] 341 (0, 0))).alloc (.cells #[v3] 342 (0, 0))).heap.size = w.heap.size + 3 := by simp
  rw [e2] at o2
  rw [e3] at o3
  rw [e4] at o4
  have HO := Lib.hid (And.intro (((o1.alloc (.cells #[v2] 341 (0, 0))).alloc (.cells #[v3] 342 (0, 0))).alloc (.cells #[v4] 286 (0, 0))) (And.intro ((o2.alloc (.cells #[v3] 342 (0, 0))).alloc (.cells #[v4] 286 (0, 0))) (And.intro (o3.alloc (.cells #[v4] 286 (0, 0))) o4)))
  clear o1 o2 o3 o4 e2 e3 e4
  go_enter Tryz.func255, Tryz.ntmps255
  go_wp2
  exact bodyPost_ret (v := PartAg 313 314 315 316 w.heap.size (w.heap.size + 1) (w.heap.size + 2) (w.heap.size + 3)) (by simp [results, Tryz.results255, go_sem, PartAg]) rfl ⟨w.heap.size, Nat.le_refl _, rfl, HO.out.1.alloc _, HO.out.2.1.alloc _, HO.out.2.2.1.alloc _, HO.out.2.2.2.alloc _, HK.out.alloc _⟩
set_option maxRecDepth 100000 in
set_option maxHeartbeats 1000000 in
theorem field_err (w : World) (v1 v2 v3 v4 : Value) (h1 : v1.oneCell' = true) (h2 : v2.oneCell' = true) (h3 : v3.oneCell' = true) (h4 : v4.oneCell' = true) : Calls Tryz.prog 258 #[v1, v2, v3, v4] w (FieldE 317 318 319 320 288 344 345 291 v1 v2 v3 v4 w) := by
  have hmf : ∀ (fn : Fn) (first cap : Array Value) (w : World), (Instr.makeFunc fn first cap).run Tryz.prog w = .ok (.func fn first cap) w := fun _ _ _ _ => rfl
  have o1 := OneAt.new w 288 v1
  have o2 := OneAt.new (w.alloc (.cells #[v1] 288 (0, 0))) 344 v2
  have o3 := OneAt.new ((w.alloc (.cells #[v1] 288 (0, 0))).alloc (.cells #[v2] 344 (0, 0))) 345 v3
  have o4 := OneAt.new (((w.alloc (.cells #[v1] 288 (0, 0))).alloc (.cells #[v2] 344 (0, 0))).alloc (.cells #[v3] 345 (0, 0))) 291 v4
  have HK := Lib.hid (((((Kept.refl NoB w).alloc (.cells #[v1] 288 (0, 0))).alloc (.cells #[v2] 344 (0, 0))).alloc (.cells #[v3] 345 (0, 0))).alloc (.cells #[v4] 291 (0, 0)))
  have e2 : (w.alloc (.cells #[v1] 288 (0, 0))).heap.size = w.heap.size + 1 := by simp
  have e3 : ((w.alloc (.cells #[v1] 288 (0, 0))).alloc (.cells #[v2] 344 (0, 0))).heap.size = w.heap.size + 2 := by simp
  have e4 : (((w.alloc (.cells #[v1] 288 (0, 0))).alloc (.cells #[v2] 344 (0, 0))).alloc (.cells #[v3] 345 (0, 0))).heap.size = w.heap.size + 3 := by simp
  rw [e2] at o2
  rw [e3] at o3
  rw [e4] at o4
  have HO := Lib.hid (And.intro (((o1.alloc (.cells #[v2] 344 (0, 0))).alloc (.cells #[v3] 345 (0, 0))).alloc (.cells #[v4] 291 (0, 0))) (And.intro ((o2.alloc (.cells #[v3] 345 (0, 0))).alloc (.cells #[v4] 291 (0, 0))) (And.intro (o3.alloc (.cells #[v4] 291 (0, 0))) o4)))
  clear o1 o2 o3 o4 e2 e3 e4
  go_enter Tryz.func258, Tryz.ntmps258
  go_wp2
  exact bodyPost_ret (v := PartAg 317 318 319 320 w.heap.size (w.heap.size + 1) (w.heap.size + 2) (w.heap.size + 3)) (by simp [results, Tryz.results258, go_sem, PartAg]) rfl ⟨w.heap.size, Nat.le_refl _, rfl, HO.out.1.alloc _, HO.out.2.1.alloc _, HO.out.2.2.1.alloc _, HO.out.2.2.2.alloc _, HK.out.alloc _⟩
set_option maxRecDepth 100000 in
set_option maxHeartbeats 1000000 in
theorem field_cmd (w : World) (v1 v2 v3 v4 : Value) (h1 : v1.oneCell' = true) (h2 : v2.oneCell' = true) (h3 : v3.oneCell' = true) (h4 : v4.oneCell' = true) : Calls Tryz.prog 205 #[v1, v2, v3, v4] w (FieldE 260 261 262 263 293 294 295 297 v1 v2 v3 v4 w) := by
  have hmf : ∀ (fn : Fn) (first cap : Array Value) (w : World), (Instr.makeFunc fn first cap).run Tryz.prog w = .ok (.func fn first cap) w := fun _ _ _ _ => rfl
  have o1 := OneAt.new w 293 v1
  have o2 := OneAt.new (w.alloc (.cells #[v1] 293 (0, 0))) 294 v2
  have o3 := OneAt.new ((w.alloc (.cells #[v1] 293 (0, 0))).alloc (.cells #[v2] 294 (0, 0))) 295 v3
  have o4 := OneAt.new (((w.alloc (.cells #[v1] 293 (0, 0))).alloc (.cells #[v2] 294 (0, 0))).alloc (.cells #[v3] 295 (0, 0))) 297 v4
  have HK := Lib.hid (((((Kept.refl NoB w).alloc (.cells #[v1] 293 (0, 0))).alloc (.cells #[v2] 294 (0, 0))).alloc (.cells #[v3] 295 (0, 0))).alloc (.cells #[v4] 297 (0, 0)))
  have e2 : (w.alloc (.cells #[v1] 293 (0, 0))).heap.size = w.heap.size + 1 := by simp
  have e3 : ((w.alloc (.cells #[v1] 293 (0, 0))).alloc (.cells #[v2] 294 (0, 0))).heap.size = w.heap.size + 2 := by simp
  have e4 : (((w.alloc (.cells #[v1] 293 (0, 0))).alloc (.cells #[v2] 294 (0, 0))).alloc (.cells #[v3] 295 (0, 0))).heap.size = w.heap.size + 3 := by simp
  rw [e2] at o2
  rw [e3] at o3
  rw [e4] at o4
  have HO := Lib.hid (And.intro (((o1.alloc (.cells #[v2] 294 (0, 0))).alloc (.cells #[v3] 295 (0, 0))).alloc (.cells #[v4] 297 (0, 0))) (And.intro ((o2.alloc (.cells #[v3] 295 (0, 0))).alloc (.cells #[v4] 297 (0, 0))) (And.intro (o3.alloc (.cells #[v4] 297 (0, 0))) o4)))
  clear o1 o2 o3 o4 e2 e3 e4
  go_enter Tryz.func205, Tryz.ntmps205
  go_wp2
  exact bodyPost_ret (v := PartAg 260 261 262 263 w.heap.size (w.heap.size + 1) (w.heap.size + 2) (w.heap.size + 3)) (by simp [results, Tryz.results205, go_sem, PartAg]) rfl ⟨w.heap.size, Nat.le_refl _, rfl, HO.out.1.alloc _, HO.out.2.1.alloc _, HO.out.2.2.1.alloc _, HO.out.2.2.2.alloc _, HK.out.alloc _⟩
set_option maxRecDepth 100000 in
set_option maxHeartbeats 1000000 in
theorem field_cnf (w : World) (v1 v2 v3 v4 : Value) (h1 : v1.oneCell' = true) (h2 : v2.oneCell' = true) (h3 : v3.oneCell' = true) (h4 : v4.oneCell' = true) : Calls Tryz.prog 210 #[v1, v2, v3, v4] w (FieldE 266 267 268 269 187 299 300 302 v1 v2 v3 v4 w) := by
  have hmf : ∀ (fn : Fn) (first cap : Array Value) (w : World), (Instr.makeFunc fn first cap).run Tryz.prog w = .ok (.func fn first cap) w := fun _ _ _ _ => rfl
  have o1 := OneAt.new w 187 v1
  have o2 := OneAt.new (w.alloc (.cells #[v1] 187 (0, 0))) 299 v2
  have o3 := OneAt.new ((w.alloc (.cells #[v1] 187 (0, 0))).alloc (.cells #[v2] 299 (0, 0))) 300 v3
  have o4 := OneAt.new (((w.alloc (.cells #[v1] 187 (0, 0))).alloc (.cells #[v2] 299 (0, 0))).alloc (.cells #[v3] 300 (0, 0))) 302 v4
  have HK := Lib.hid (((((Kept.refl NoB w).alloc (.cells #[v1] 187 (0, 0))).alloc (.cells #[v2] 299 (0, 0))).alloc (.cells #[v3] 300 (0, 0))).alloc (.cells #[v4] 302 (0, 0)))
  have e2 : (w.alloc (.cells #[v1] 187 (0, 0))).heap.size = w.heap.size + 1 := by simp
  have e3 : ((w.alloc (.cells #[v1] 187 (0, 0))).alloc (.cells #[v2] 299 (0, 0))).heap.size = w.heap.size + 2 := by simp
  have e4 : (((w.alloc (.cells #[v1] 187 (0, 0))).alloc (.cells #[v2] 299 (0, 0))).alloc (.cells #[v3] 300 (0, 0))).heap.size = w.heap.size + 3 := by simp
  rw [e2] at o2
  rw [e3] at o3
  rw [e4] at o4
  have HO := Lib.hid (And.intro (((o1.alloc (.cells #[v2] 299 (0, 0))).alloc (.cells #[v3] 300 (0, 0))).alloc (.cells #[v4] 302 (0, 0))) (And.intro ((o2.alloc (.cells #[v3] 300 (0, 0))).alloc (.cells #[v4] 302 (0, 0))) (And.intro (o3.alloc (.cells #[v4] 302 (0, 0))) o4)))
  clear o1 o2 o3 o4 e2 e3 e4
  go_enter Tryz.func210, Tryz.ntmps210
  go_wp2
  exact bodyPost_ret (v := PartAg 266 267 268 269 w.heap.size (w.heap.size + 1) (w.heap.size + 2) (w.heap.size + 3)) (by simp [results, Tryz.results210, go_sem, PartAg]) rfl ⟨w.heap.size, Nat.le_refl _, rfl, HO.out.1.alloc _, HO.out.2.1.alloc _, HO.out.2.2.1.alloc _, HO.out.2.2.2.alloc _, HK.out.alloc _⟩
set_option maxRecDepth 100000 in
set_option maxHeartbeats 1000000 in
theorem field_vts (w : World) (v1 v2 v3 v4 : Value) (h1 : v1.oneCell' = true) (h2 : v2.oneCell' = true) (h3 : v3.oneCell' = true) (h4 : v4.oneCell' = true) : Calls Tryz.prog 214 #[v1, v2, v3, v4] w (FieldE 272 273 274 275 304 305 306 308 v1 v2 v3 v4 w) := by
  have hmf : ∀ (fn : Fn) (first cap : Array Value) (w : World), (Instr.makeFunc fn first cap).run Tryz.prog w = .ok (.func fn first cap) w := fun _ _ _ _ => rfl
  have o1 := OneAt.new w 304 v1
  have o2 := OneAt.new (w.alloc (.cells #[v1] 304 (0, 0))) 305 v2
  have o3 := OneAt.new ((w.alloc (.cells #[v1] 304 (0, 0))).alloc (.cells #[v2] 305 (0, 0))) 306 v3
  have o4 := OneAt.new (((w.alloc (.cells #[v1] 304 (0, 0))).alloc (.cells #[v2] 305 (0, 0))).alloc (.cells #[v3] 306 (0, 0))) 308 v4
  have HK := Lib.hid (((((Kept.refl NoB w).alloc (.cells #[v1] 304 (0, 0))).alloc (.cells #[v2] 305 (0, 0))).alloc (.cells #[v3] 306 (0, 0))).alloc (.cells #[v4] 308 (0, 0)))
  have e2 : (w.alloc (.cells #[v1] 304 (0, 0))).heap.size = w.heap.size + 1 := by simp
  have e3 : ((w.alloc (.cells #[v1] 304 (0, 0))).alloc (.cells #[v2] 305 (0, 0))).heap.size = w.heap.size + 2 := by simp
  have e4 : (((w.alloc (.cells #[v1] 304 (0, 0))).alloc (.cells #[v2] 305 (0, 0))).alloc (.cells #[v3] 306 (0, 0))).heap.size = w.heap.size + 3 := by simp
  rw [e2] at o2
  rw [e3] at o3
  rw [e4] at o4
  have HO := Lib.hid (And.intro (((o1.alloc (.cells #[v2] 305 (0, 0))).alloc (.cells #[v3] 306 (0, 0))).alloc (.cells #[v4] 308 (0, 0))) (And.intro ((o2.alloc (.cells #[v3] 306 (0, 0))).alloc (.cells #[v4] 308 (0, 0))) (And.intro (o3.alloc (.cells #[v4] 308 (0, 0))) o4)))
  clear o1 o2 o3 o4 e2 e3 e4
  go_enter Tryz.func214, Tryz.ntmps214
  go_wp2
  exact bodyPost_ret (v := PartAg 272 273 274 275 w.heap.size (w.heap.size + 1) (w.heap.size + 2) (w.heap.size + 3)) (by simp [results, Tryz.results214, go_sem, PartAg]) rfl ⟨w.heap.size, Nat.le_refl _, rfl, HO.out.1.alloc _, HO.out.2.1.alloc _, HO.out.2.2.1.alloc _, HO.out.2.2.2.alloc _, HK.out.alloc _⟩
set_option maxRecDepth 100000 in
set_option maxHeartbeats 1000000 in
theorem field_dat (w : World) (v1 v2 v3 v4 : Value) (h1 : v1.oneCell' = true) (h2 : v2.oneCell' = true) (h3 : v3.oneCell' = true) (h4 : v4.oneCell' = true) : Calls Tryz.prog 287 #[v1, v2, v3, v4] w (FieldE 325 326 327 328 332 359 357 361 v1 v2 v3 v4 w) := by
  have hmf : ∀ (fn : Fn) (first cap : Array Value) (w : World), (Instr.makeFunc fn first cap).run Tryz.prog w = .ok (.func fn first cap) w := fun _ _ _ _ => rfl
  have o1 := OneAt.new w 332 v1
  have o2 := OneAt.new (w.alloc (.cells #[v1] 332 (0, 0))) 359 v2
  have o3 := OneAt.new ((w.alloc (.cells #[v1] 332 (0, 0))).alloc (.cells #[v2] 359 (0, 0))) 357 v3
  have o4 := OneAt.new (((w.alloc (.cells #[v1] 332 (0, 0))).alloc (.cells #[v2] 359 (0, 0))).alloc (.cells #[v3] 357 (0, 0))) 361 v4
  have HK := Lib.hid (((((Kept.refl NoB w).alloc (.cells #[v1] 332 (0, 0))).alloc (.cells #[v2] 359 (0, 0))).alloc (.cells #[v3] 357 (0, 0))).alloc (.cells #[v4] 361 (0, 0)))
  have e2 : (w.alloc (.cells #[v1] 332 (0, 0))).heap.size = w.heap.size + 1 := by simp
  have e3 : ((w.alloc (.cells #[v1] 332 (0, 0))).alloc (.cells #[v2] 359 (0, 0))).heap.size = w.heap.size + 2 := by simp
  have e4 : (((w.alloc (.cells #[v1] 332 (0, 0))).alloc (.cells #[v2] 359 (0, 0))).alloc (.cells #[v3] 357 (0, 0))).heap.size = w.heap.size + 3 := by simp
  rw [e2] at o2
  rw [e3] at o3
  rw [e4] at o4
  have HO := Lib.hid (And.intro (((o1.alloc (.cells #[v2] 359 (0, 0))).alloc (.cells #[v3] 357 (0, 0))).alloc (.cells #[v4] 361 (0, 0))) (And.intro ((o2.alloc (.cells #[v3] 357 (0, 0))).alloc (.cells #[v4] 361 (0, 0))) (And.intro (o3.alloc (.cells #[v4] 361 (0, 0))) o4)))
  clear o1 o2 o3 o4 e2 e3 e4
  go_enter Tryz.func287, Tryz.ntmps287
  go_wp2
  exact bodyPost_ret (v := PartAg 325 326 327 328 w.heap.size (w.heap.size + 1) (w.heap.size + 2) (w.heap.size + 3)) (by simp [results, Tryz.results287, go_sem, PartAg]) rfl ⟨w.heap.size, Nat.le_refl _, rfl, HO.out.1.alloc _, HO.out.2.1.alloc _, HO.out.2.2.1.alloc _, HO.out.2.2.2.alloc _, HK.out.alloc _⟩
end Go.Proofs.YtcbenminaakahaaGreatDoor
