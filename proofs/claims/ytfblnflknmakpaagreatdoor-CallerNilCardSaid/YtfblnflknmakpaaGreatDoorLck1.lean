/-
  Package letter: field, for the other types of parts. Package letter: number, for the other types of numbers. Package letter: the other checks of parts: ballots, codes, commands, votes, data. A letter, plainly: its cells, what its slices hold, which parts are right, what is dropped. catenarylaw14.Far: has a letter more than is looked at? A letter that came in, opened.
-/
import Derived.Test.YtfblnflknmakpaaGreatDoorLtr1
import Derived.Test.YtfblnflknmakpaaGreatDoorBal1
import Derived.Test.YtfblnflknmakpaaGreatDoorCmd1
import Derived.Test.YtfblnflknmakpaaGreatDoorAcc1
import Derived.Test.YtfblnflknmakpaaGreatDoorCnf2
import Derived.Test.YtfblnflknmakpaaGreatDoorUpd2
import Derived.Test.YtfblnflknmakpaaGreatDoorRol2
namespace Go.Proofs.YtfblnflknmakpaaGreatDoor
open Go.RowKit
set_option linter.unusedVariables false
set_option linter.unusedSimpArgs false


set_option maxRecDepth 100000 in
set_option maxHeartbeats 1000000 in
theorem field_u32 (w : World) (v1 v2 v3 v4 : Value) (h1 : v1.oneCell' = true) (h2 : v2.oneCell' = true) (h3 : v3.oneCell' = true) (h4 : v4.oneCell' = true) : Calls Tryz.prog 148 #[v1, v2, v3, v4] w (FieldE 201 202 203 204 161 211 212 162 v1 v2 v3 v4 w) := by
  have hmf : ∀ (fn : Fn) (first cap : Array Value) (w : World), (Instr.makeFunc fn first cap).run Tryz.prog w = .ok (.func fn first cap) w := fun _ _ _ _ => rfl
  have o1 := OneAt.new w 161 v1
  have o2 := OneAt.new (w.alloc (.cells #[v1] 161 (0, 0))) 211 v2
  have o3 := OneAt.new ((w.alloc (.cells #[v1] 161 (0, 0))).alloc (.cells #[v2] 211 (0, 0))) 212 v3
  have o4 := OneAt.new (((w.alloc (.cells #[v1] 161 (0, 0))).alloc (.cells #[v2] 211 (0, 0))).alloc (.cells #[v3] 212 (0, 0))) 162 v4
  have HK := Lib.hid (((((Kept.refl NoB w).alloc (.cells #[v1] 161 (0, 0))).alloc (.cells #[v2] 211 (0, 0))).alloc (.cells #[v3] 212 (0, 0))).alloc (.cells #[v4] 162 (0, 0)))
  have e2 : (w.alloc (.cells #[v1] 161 (0, 0))).heap.size = w.heap.size + 1 := by simp
  have e3 : ((w.alloc (.cells #[v1] 161 (0, 0))).alloc (.cells #[v2] 211 (0, 0))).heap.size = w.heap.size + 2 := by simp
  have e4 : (((w.alloc (.cells #[v1] 161 (0, 0))).alloc (.cells #[v2] 211 (0, 0))).alloc (.cells #[v3] 212 (0, 0))).heap.size = w.heap.size + 3 := by simp
  rw [e2] at o2
  rw [e3] at o3
  rw [e4] at o4
  have HO := Lib.hid (And.intro (((o1.alloc (.cells #[v2] 211 (0, 0))).alloc (.cells #[v3] 212 (0, 0))).alloc (.cells #[v4] 162 (0, 0))) (And.intro ((o2.alloc (.cells #[v3] 212 (0, 0))).alloc (.cells #[v4] 162 (0, 0))) (And.intro (o3.alloc (.cells #[v4] 162 (0, 0))) o4)))
  clear o1 o2 o3 o4 e2 e3 e4
  go_enter Tryz.func148, Tryz.ntmps148
  go_wp2
  exact bodyPost_ret (v := PartAg 201 202 203 204 w.heap.size (w.heap.size + 1) (w.heap.size + 2) (w.heap.size + 3)) (by simp [results, Tryz.results148, go_sem, PartAg]) rfl ⟨w.heap.size, Nat.le_refl _, rfl, HO.out.1.alloc _, HO.out.2.1.alloc _, HO.out.2.2.1.alloc _, HO.out.2.2.2.alloc _, HK.out.alloc _⟩
set_option maxRecDepth 100000 in
set_option maxHeartbeats 1000000 in
theorem field_err (w : World) (v1 v2 v3 v4 : Value) (h1 : v1.oneCell' = true) (h2 : v2.oneCell' = true) (h3 : v3.oneCell' = true) (h4 : v4.oneCell' = true) : Calls Tryz.prog 151 #[v1, v2, v3, v4] w (FieldE 205 206 207 208 164 214 215 167 v1 v2 v3 v4 w) := by
  have hmf : ∀ (fn : Fn) (first cap : Array Value) (w : World), (Instr.makeFunc fn first cap).run Tryz.prog w = .ok (.func fn first cap) w := fun _ _ _ _ => rfl
  have o1 := OneAt.new w 164 v1
  have o2 := OneAt.new (w.alloc (.cells #[v1] 164 (0, 0))) 214 v2
  have o3 := OneAt.new ((w.alloc (.cells #[v1] 164 (0, 0))).alloc (.cells #[v2] 214 (0, 0))) 215 v3
  have o4 := OneAt.new (((w.alloc (.cells #[v1] 164 (0, 0))).alloc (.cells #[v2] 214 (0, 0))).alloc (.cells #[v3] 215 (0, 0))) 167 v4
  have HK := Lib.hid (((((Kept.refl NoB w).alloc (.cells #[v1] 164 (0, 0))).alloc (.cells #[v2] 214 (0, 0))).alloc (.cells #[v3] 215 (0, 0))).alloc (.cells #[v4] 167 (0, 0)))
  have e2 : (w.alloc (.cells #[v1] 164 (0, 0))).heap.size = w.heap.size + 1 := by simp
  have e3 : ((w.alloc (.cells #[v1] 164 (0, 0))).alloc (.cells #[v2] 214 (0, 0))).heap.size = w.heap.size + 2 := by simp
  have e4 : (((w.alloc (.cells #[v1] 164 (0, 0))).alloc (.cells #[v2] 214 (0, 0))).alloc (.cells #[v3] 215 (0, 0))).heap.size = w.heap.size + 3 := by simp
  rw [e2] at o2
  rw [e3] at o3
  rw [e4] at o4
  have HO := Lib.hid (And.intro (((o1.alloc (.cells #[v2] 214 (0, 0))).alloc (.cells #[v3] 215 (0, 0))).alloc (.cells #[v4] 167 (0, 0))) (And.intro ((o2.alloc (.cells #[v3] 215 (0, 0))).alloc (.cells #[v4] 167 (0, 0))) (And.intro (o3.alloc (.cells #[v4] 167 (0, 0))) o4)))
  clear o1 o2 o3 o4 e2 e3 e4
  go_enter Tryz.func151, Tryz.ntmps151
  go_wp2
  exact bodyPost_ret (v := PartAg 205 206 207 208 w.heap.size (w.heap.size + 1) (w.heap.size + 2) (w.heap.size + 3)) (by simp [results, Tryz.results151, go_sem, PartAg]) rfl ⟨w.heap.size, Nat.le_refl _, rfl, HO.out.1.alloc _, HO.out.2.1.alloc _, HO.out.2.2.1.alloc _, HO.out.2.2.2.alloc _, HK.out.alloc _⟩
set_option maxRecDepth 100000 in
set_option maxHeartbeats 1000000 in
theorem field_cmd (w : World) (v1 v2 v3 v4 : Value) (h1 : v1.oneCell' = true) (h2 : v2.oneCell' = true) (h3 : v3.oneCell' = true) (h4 : v4.oneCell' = true) : Calls Tryz.prog 106 #[v1, v2, v3, v4] w (FieldE 153 154 155 156 169 170 171 173 v1 v2 v3 v4 w) := by
  have hmf : ∀ (fn : Fn) (first cap : Array Value) (w : World), (Instr.makeFunc fn first cap).run Tryz.prog w = .ok (.func fn first cap) w := fun _ _ _ _ => rfl
  have o1 := OneAt.new w 169 v1
  have o2 := OneAt.new (w.alloc (.cells #[v1] 169 (0, 0))) 170 v2
  have o3 := OneAt.new ((w.alloc (.cells #[v1] 169 (0, 0))).alloc (.cells #[v2] 170 (0, 0))) 171 v3
  have o4 := OneAt.new (((w.alloc (.cells #[v1] 169 (0, 0))).alloc (.cells #[v2] 170 (0, 0))).alloc (.cells #[v3] 171 (0, 0))) 173 v4
  have HK := Lib.hid (((((Kept.refl NoB w).alloc (.cells #[v1] 169 (0, 0))).alloc (.cells #[v2] 170 (0, 0))).alloc (.cells #[v3] 171 (0, 0))).alloc (.cells #[v4] 173 (0, 0)))
  have e2 : (w.alloc (.cells #[v1] 169 (0, 0))).heap.size = w.heap.size + 1 := by simp
  have e3 : ((w.alloc (.cells #[v1] 169 (0, 0))).alloc (.cells #[v2] 170 (0, 0))).heap.size = w.heap.size + 2 := by simp
  have e4 : (((w.alloc (.cells #[v1] 169 (0, 0))).alloc (.cells #[v2] 170 (0, 0))).alloc (.cells #[v3] 171 (0, 0))).heap.size = w.heap.size + 3 := by simp
  rw [e2] at o2
  rw [e3] at o3
  rw [e4] at o4
  have HO := Lib.hid (And.intro (((o1.alloc (.cells #[v2] 170 (0, 0))).alloc (.cells #[v3] 171 (0, 0))).alloc (.cells #[v4] 173 (0, 0))) (And.intro ((o2.alloc (.cells #[v3] 171 (0, 0))).alloc (.cells #[v4] 173 (0, 0))) (And.intro (o3.alloc (.cells #[v4] 173 (0, 0))) o4)))
  clear o1 o2 o3 o4 e2 e3 e4
  go_enter Tryz.func106, Tryz.ntmps106
  go_wp2
  exact bodyPost_ret (v := PartAg 153 154 155 156 w.heap.size (w.heap.size + 1) (w.heap.size + 2) (w.heap.size + 3)) (by simp [results, Tryz.results106, go_sem, PartAg]) rfl ⟨w.heap.size, Nat.le_refl _, rfl, HO.out.1.alloc _, HO.out.2.1.alloc _, HO.out.2.2.1.alloc _, HO.out.2.2.2.alloc _, HK.out.alloc _⟩
set_option maxRecDepth 100000 in
set_option maxHeartbeats 1000000 in
theorem field_cnf (w : World) (v1 v2 v3 v4 : Value) (h1 : v1.oneCell' = true) (h2 : v2.oneCell' = true) (h3 : v3.oneCell' = true) (h4 : v4.oneCell' = true) : Calls Tryz.prog 111 #[v1, v2, v3, v4] w (FieldE 159 160 161 162 120 175 176 178 v1 v2 v3 v4 w) := by
  have hmf : ∀ (fn : Fn) (first cap : Array Value) (w : World), (Instr.makeFunc fn first cap).run Tryz.prog w = .ok (.func fn first cap) w := fun _ _ _ _ => rfl
  have o1 := OneAt.new w 120 v1
  have o2 := OneAt.new (w.alloc (.cells #[v1] 120 (0, 0))) 175 v2
  have o3 := OneAt.new ((w.alloc (.cells #[v1] 120 (0, 0))).alloc (.cells #[v2] 175 (0, 0))) 176 v3
  have o4 := OneAt.new (((w.alloc (.cells #[v1] 120 (0, 0))).alloc (.cells #[v2] 175 (0, 0))).alloc (.cells #[v3] 176 (0, 0))) 178 v4
  have HK := Lib.hid (((((Kept.refl NoB w).alloc (.cells #[v1] 120 (0, 0))).alloc (.cells #[v2] 175 (0, 0))).alloc (.cells #[v3] 176 (0, 0))).alloc (.cells #[v4] 178 (0, 0)))
  have e2 : (w.alloc (.cells #[v1] 120 (0, 0))).heap.size = w.heap.size + 1 := by simp
  have e3 : ((w.alloc (.cells #[v1] 120 (0, 0))).alloc (.cells #[v2] 175 (0, 0))).heap.size = w.heap.size + 2 := by simp
  have e4 : (((w.alloc (.cells #[v1] 120 (0, 0))).alloc (.cells #[v2] 175 (0, 0))).alloc (.cells #[v3] 176 (0, 0))).heap.size = w.heap.size + 3 := by simp
  rw [e2] at o2
  rw [e3] at o3
  rw [e4] at o4
  have HO := Lib.hid (And.intro (((o1.alloc (.cells #[v2] 175 (0, 0))).alloc (.cells #[v3] 176 (0, 0))).alloc (.cells #[v4] 178 (0, 0))) (And.intro ((o2.alloc (.cells #[v3] 176 (0, 0))).alloc (.cells #[v4] 178 (0, 0))) (And.intro (o3.alloc (.cells #[v4] 178 (0, 0))) o4)))
  clear o1 o2 o3 o4 e2 e3 e4
  go_enter Tryz.func111, Tryz.ntmps111
  go_wp2
  exact bodyPost_ret (v := PartAg 159 160 161 162 w.heap.size (w.heap.size + 1) (w.heap.size + 2) (w.heap.size + 3)) (by simp [results, Tryz.results111, go_sem, PartAg]) rfl ⟨w.heap.size, Nat.le_refl _, rfl, HO.out.1.alloc _, HO.out.2.1.alloc _, HO.out.2.2.1.alloc _, HO.out.2.2.2.alloc _, HK.out.alloc _⟩
set_option maxRecDepth 100000 in
set_option maxHeartbeats 1000000 in
theorem field_vts (w : World) (v1 v2 v3 v4 : Value) (h1 : v1.oneCell' = true) (h2 : v2.oneCell' = true) (h3 : v3.oneCell' = true) (h4 : v4.oneCell' = true) : Calls Tryz.prog 115 #[v1, v2, v3, v4] w (FieldE 165 166 167 168 180 181 182 184 v1 v2 v3 v4 w) := by
  have hmf : ∀ (fn : Fn) (first cap : Array Value) (w : World), (Instr.makeFunc fn first cap).run Tryz.prog w = .ok (.func fn first cap) w := fun _ _ _ _ => rfl
  have o1 := OneAt.new w 180 v1
  have o2 := OneAt.new (w.alloc (.cells #[v1] 180 (0, 0))) 181 v2
  have o3 := OneAt.new ((w.alloc (.cells #[v1] 180 (0, 0))).alloc (.cells #[v2] 181 (0, 0))) 182 v3
  have o4 := OneAt.new (((w.alloc (.cells #[v1] 180 (0, 0))).alloc (.cells #[v2] 181 (0, 0))).alloc (.cells #[v3] 182 (0, 0))) 184 v4
  have HK := Lib.hid (((((Kept.refl NoB w).alloc (.cells #[v1] 180 (0, 0))).alloc (.cells #[v2] 181 (0, 0))).alloc (.cells #[v3] 182 (0, 0))).alloc (.cells #[v4] 184 (0, 0)))
  have e2 : (w.alloc (.cells #[v1] 180 (0, 0))).heap.size = w.heap.size + 1 := by simp
  have e3 : ((w.alloc (.cells #[v1] 180 (0, 0))).alloc (.cells #[v2] 181 (0, 0))).heap.size = w.heap.size + 2 := by simp
  have e4 : (((w.alloc (.cells #[v1] 180 (0, 0))).alloc (.cells #[v2] 181 (0, 0))).alloc (.cells #[v3] 182 (0, 0))).heap.size = w.heap.size + 3 := by simp
  rw [e2] at o2
  rw [e3] at o3
  rw [e4] at o4
  have HO := Lib.hid (And.intro (((o1.alloc (.cells #[v2] 181 (0, 0))).alloc (.cells #[v3] 182 (0, 0))).alloc (.cells #[v4] 184 (0, 0))) (And.intro ((o2.alloc (.cells #[v3] 182 (0, 0))).alloc (.cells #[v4] 184 (0, 0))) (And.intro (o3.alloc (.cells #[v4] 184 (0, 0))) o4)))
  clear o1 o2 o3 o4 e2 e3 e4
  go_enter Tryz.func115, Tryz.ntmps115
  go_wp2
  exact bodyPost_ret (v := PartAg 165 166 167 168 w.heap.size (w.heap.size + 1) (w.heap.size + 2) (w.heap.size + 3)) (by simp [results, Tryz.results115, go_sem, PartAg]) rfl ⟨w.heap.size, Nat.le_refl _, rfl, HO.out.1.alloc _, HO.out.2.1.alloc _, HO.out.2.2.1.alloc _, HO.out.2.2.2.alloc _, HK.out.alloc _⟩
set_option maxRecDepth 100000 in
set_option maxHeartbeats 1000000 in
theorem field_dat (w : World) (v1 v2 v3 v4 : Value) (h1 : v1.oneCell' = true) (h2 : v2.oneCell' = true) (h3 : v3.oneCell' = true) (h4 : v4.oneCell' = true) : Calls Tryz.prog 182 #[v1, v2, v3, v4] w (FieldE 214 215 216 217 229 233 231 236 v1 v2 v3 v4 w) := by
  have hmf : ∀ (fn : Fn) (first cap : Array Value) (w : World), (Instr.makeFunc fn first cap).run Tryz.prog w = .ok (.func fn first cap) w := fun _ _ _ _ => rfl
  have o1 := OneAt.new w 229 v1
  have o2 := OneAt.new (w.alloc (.cells #[v1] 229 (0, 0))) 233 v2
  have o3 := OneAt.new ((w.alloc (.cells #[v1] 229 (0, 0))).alloc (.cells #[v2] 233 (0, 0))) 231 v3
  have o4 := OneAt.new (((w.alloc (.cells #[v1] 229 (0, 0))).alloc (.cells #[v2] 233 (0, 0))).alloc (.cells #[v3] 231 (0, 0))) 236 v4
  have HK := Lib.hid (((((Kept.refl NoB w).alloc (.cells #[v1] 229 (0, 0))).alloc (.cells #[v2] 233 (0, 0))).alloc (.cells #[v3] 231 (0, 0))).alloc (.cells #[v4] 236 (0, 0)))
  have e2 : (w.alloc (.cells #[v1] 229 (0, 0))).heap.size = w.heap.size + 1 := by simp
  have e3 : ((w.alloc (.cells #[v1] 229 (0, 0))).alloc (.cells #[v2] 233 (0, 0))).heap.size = w.heap.size + 2 := by simp
  have e4 : (((w.alloc (.cells #[v1] 229 (0, 0))).alloc (.cells #[v2] 233 (0, 0))).alloc (.cells #[v3] 231 (0, 0))).heap.size = w.heap.size + 3 := by simp
  rw [e2] at o2
  rw [e3] at o3
  rw [e4] at o4
  have HO := Lib.hid (And.intro (((o1.alloc (.cells #[v2] 233 (0, 0))).alloc (.cells #[v3] 231 (0, 0))).alloc (.cells #[v4] 236 (0, 0))) (And.intro ((o2.alloc (.cells #[v3] 231 (0, 0))).alloc (.cells #[v4] 236 (0, 0))) (And.intro (o3.alloc (.cells #[v4] 236 (0, 0))) o4)))
  clear o1 o2 o3 o4 e2 e3 e4
  go_enter Tryz.func182, Tryz.ntmps182
  go_wp2
  exact bodyPost_ret (v := PartAg 214 215 216 217 w.heap.size (w.heap.size + 1) (w.heap.size + 2) (w.heap.size + 3)) (by simp [results, Tryz.results182, go_sem, PartAg]) rfl ⟨w.heap.size, Nat.le_refl _, rfl, HO.out.1.alloc _, HO.out.2.1.alloc _, HO.out.2.2.1.alloc _, HO.out.2.2.2.alloc _, HK.out.alloc _⟩
end Go.Proofs.YtfblnflknmakpaaGreatDoor
namespace Go.Proofs.YtfblnflknmakpaaGreatDoor
open Go.RowKit
set_option linter.unusedVariables false
set_option linter.unusedSimpArgs false


set_option maxRecDepth 100000 in
set_option maxHeartbeats 1000000 in
theorem number_u32 (w : World) (wd : Int) (v1 v4 : Value) (h1 : v1.oneCell' = true) (h4 : v4.oneCell' = true) : Calls Tryz.prog 99 #[.int .i64 wd, v1, v4] w (NumberE 201 202 203 204 146 147 161 211 212 162 wd v1 v4 w) := by
  have hmf : ∀ (fn : Fn) (first cap : Array Value) (w : World), (Instr.makeFunc fn first cap).run Tryz.prog w = .ok (.func fn first cap) w := fun _ _ _ _ => rfl
  obtain ⟨W, hW⟩ : ∃ W, W = (w.alloc (.cells #[.int .i64 wd] 3 (0, 0))).alloc (.cells #[.nilFunc, .nilFunc, .nilFunc, .nilFunc] 117 (0, 0)) := ⟨_, rfl⟩
  have hsz : W.heap.size = w.heap.size + 2 := by rw [hW]; simp
  have o1 : OneAt 3 w.heap.size (.int .i64 wd) W := by rw [hW]; exact (OneAt.new w _ _).alloc _
  have o2 : W.heap[w.heap.size + 1]? = some (.cells #[.nilFunc, .nilFunc, .nilFunc, .nilFunc] 117 (0, 0)) := by
    have := heap_alloc_new (w.alloc (.cells #[.int .i64 wd] 3 (0, 0))) (.cells #[.nilFunc, .nilFunc, .nilFunc, .nilFunc] 117 (0, 0))
    rw [show (w.alloc (.cells #[.int .i64 wd] 3 (0, 0))).heap.size = w.heap.size + 1 by simp] at this
    rw [hW]; exact this
  have HKW : Hid (Kept NoB w W) := Lib.hid (by rw [hW]; exact ((Kept.refl NoB w).alloc _).alloc _)
  have HO1 := Lib.hid o1
  have HO2 := Lib.hid o2
  have HSZ := Lib.hid hsz
  have HW := Lib.hid hW
  have HF := Lib.hid (field_u32 W v1 (.func (.func 146) #[] #[pb w.heap.size]) (.func (.func 147) #[] #[pb w.heap.size]) v4 h1 rfl rfl h4)
  clear hW hsz o1 o2
  go_enter Tryz.func99, Tryz.ntmps99
  go_wp2_with fail
  rw [← HW.out]
  go_wp2_with fail
  refine HF.out.mono ?_
  rintro e w1 ⟨s, hs, rfl, a1, a2, a3, a4, hk⟩
  have HA := Lib.hid (And.intro a1 (And.intro a2 (And.intro a3 a4)))
  have HB := Lib.hid (HO1.out.no hk)
  have hr := hk.heap (fun h => h) HO2.out
  have HR := Lib.hid hr
  obtain ⟨r0, r1, r2, r3⟩ := cells4p hr
  have z := blkU_frozen hr
  have HK1 := Lib.hid (HKW.out.trans hk (fun _ _ h => h))
  have HS : Hid (w.heap.size + 2 ≤ s) := Lib.hid (by have := HSZ.out; omega)
  unfold PartAg
  clear a1 a2 a3 a4 hk hr hs
  go_wp2
  have hF := four10_at HR.out (.func (.func 201) #[] #[pb s, pb (s + 3)]) (.func (.func 202) #[] #[pb (s + 1), pb (s + 3)]) (.func (.func 203) #[] #[pb (s + 2), pb (s + 3)]) (.func (.func 204) #[] #[pb (s + 3)])
  have hK := HK1.out.four10 (b := w.heap.size + 1) (.inr (by omega)) 0 (.func (.func 201) #[] #[pb s, pb (s + 3)]) (.func (.func 202) #[] #[pb (s + 1), pb (s + 3)]) (.func (.func 203) #[] #[pb (s + 2), pb (s + 3)]) (.func (.func 204) #[] #[pb (s + 3)])
  have hO : ∀ (t : TypeId) (b : Nat) (v : Value), OneAt t b v w1 → b ≠ w.heap.size + 1 → OneAt t b v (four10 w1 (w.heap.size + 1) 0 (.func (.func 201) #[] #[pb s, pb (s + 3)]) (.func (.func 202) #[] #[pb (s + 1), pb (s + 3)]) (.func (.func 203) #[] #[pb (s + 2), pb (s + 3)]) (.func (.func 204) #[] #[pb (s + 3)])) := fun t b v h hb => h.kept ((Kept.refl (fun k => k = w.heap.size + 1) w1).four10 (b := w.heap.size + 1) (.inl rfl) 0 (.func (.func 201) #[] #[pb s, pb (s + 3)]) (.func (.func 202) #[] #[pb (s + 1), pb (s + 3)]) (.func (.func 203) #[] #[pb (s + 2), pb (s + 3)]) (.func (.func 204) #[] #[pb (s + 3)])) hb
  clear r0 r1 r2 r3 z
  obtain ⟨r0, r1, r2, r3⟩ := cells4p hF
  clear hF
  unfold four10 at r0 r1 r2 r3 hK hO
  simp only [Nat.zero_add] at r0 r1 r2 r3 hK hO
  generalize hW : World.setCell _ _ _ = W3 at r0 r1 r2 r3 hK hO ⊢
  have hs := HS.out
  exact bodyPost_ret (v := PartAg 201 202 203 204 s (s + 1) (s + 2) (s + 3)) (by simp [results, Tryz.results99, go_sem, PartAg, r0, r1, r2, r3]) rfl ⟨s, w.heap.size, by omega, Nat.le_refl _, rfl, hO _ _ _ HA.out.1 (by omega), hO _ _ _ HA.out.2.1 (by omega), hO _ _ _ HA.out.2.2.1 (by omega), hO _ _ _ HA.out.2.2.2 (by omega), hO _ _ _ HB.out (by omega), hK⟩
set_option maxRecDepth 100000 in
set_option maxHeartbeats 1000000 in
theorem number_err (w : World) (wd : Int) (v1 v4 : Value) (h1 : v1.oneCell' = true) (h4 : v4.oneCell' = true) : Calls Tryz.prog 102 #[.int .i64 wd, v1, v4] w (NumberE 205 206 207 208 149 150 164 214 215 167 wd v1 v4 w) := by
  have hmf : ∀ (fn : Fn) (first cap : Array Value) (w : World), (Instr.makeFunc fn first cap).run Tryz.prog w = .ok (.func fn first cap) w := fun _ _ _ _ => rfl
  obtain ⟨W, hW⟩ : ∃ W, W = (w.alloc (.cells #[.int .i64 wd] 3 (0, 0))).alloc (.cells #[.nilFunc, .nilFunc, .nilFunc, .nilFunc] 117 (0, 0)) := ⟨_, rfl⟩
  have hsz : W.heap.size = w.heap.size + 2 := by rw [hW]; simp
  have o1 : OneAt 3 w.heap.size (.int .i64 wd) W := by rw [hW]; exact (OneAt.new w _ _).alloc _
  have o2 : W.heap[w.heap.size + 1]? = some (.cells #[.nilFunc, .nilFunc, .nilFunc, .nilFunc] 117 (0, 0)) := by
    have := heap_alloc_new (w.alloc (.cells #[.int .i64 wd] 3 (0, 0))) (.cells #[.nilFunc, .nilFunc, .nilFunc, .nilFunc] 117 (0, 0))
    rw [show (w.alloc (.cells #[.int .i64 wd] 3 (0, 0))).heap.size = w.heap.size + 1 by simp] at this
    rw [hW]; exact this
  have HKW : Hid (Kept NoB w W) := Lib.hid (by rw [hW]; exact ((Kept.refl NoB w).alloc _).alloc _)
  have HO1 := Lib.hid o1
  have HO2 := Lib.hid o2
  have HSZ := Lib.hid hsz
  have HW := Lib.hid hW
  have HF := Lib.hid (field_err W v1 (.func (.func 149) #[] #[pb w.heap.size]) (.func (.func 150) #[] #[pb w.heap.size]) v4 h1 rfl rfl h4)
  clear hW hsz o1 o2
  go_enter Tryz.func102, Tryz.ntmps102
  go_wp2_with fail
  rw [← HW.out]
  go_wp2_with fail
  refine HF.out.mono ?_
  rintro e w1 ⟨s, hs, rfl, a1, a2, a3, a4, hk⟩
  have HA := Lib.hid (And.intro a1 (And.intro a2 (And.intro a3 a4)))
  have HB := Lib.hid (HO1.out.no hk)
  have hr := hk.heap (fun h => h) HO2.out
  have HR := Lib.hid hr
  obtain ⟨r0, r1, r2, r3⟩ := cells4p hr
  have z := blkU_frozen hr
  have HK1 := Lib.hid (HKW.out.trans hk (fun _ _ h => h))
  have HS : Hid (w.heap.size + 2 ≤ s) := Lib.hid (by have := HSZ.out; omega)
  unfold PartAg
  clear a1 a2 a3 a4 hk hr hs
  go_wp2
  have hF := four10_at HR.out (.func (.func 205) #[] #[pb s, pb (s + 3)]) (.func (.func 206) #[] #[pb (s + 1), pb (s + 3)]) (.func (.func 207) #[] #[pb (s + 2), pb (s + 3)]) (.func (.func 208) #[] #[pb (s + 3)])
  have hK := HK1.out.four10 (b := w.heap.size + 1) (.inr (by omega)) 0 (.func (.func 205) #[] #[pb s, pb (s + 3)]) (.func (.func 206) #[] #[pb (s + 1), pb (s + 3)]) (.func (.func 207) #[] #[pb (s + 2), pb (s + 3)]) (.func (.func 208) #[] #[pb (s + 3)])
  have hO : ∀ (t : TypeId) (b : Nat) (v : Value), OneAt t b v w1 → b ≠ w.heap.size + 1 → OneAt t b v (four10 w1 (w.heap.size + 1) 0 (.func (.func 205) #[] #[pb s, pb (s + 3)]) (.func (.func 206) #[] #[pb (s + 1), pb (s + 3)]) (.func (.func 207) #[] #[pb (s + 2), pb (s + 3)]) (.func (.func 208) #[] #[pb (s + 3)])) := fun t b v h hb => h.kept ((Kept.refl (fun k => k = w.heap.size + 1) w1).four10 (b := w.heap.size + 1) (.inl rfl) 0 (.func (.func 205) #[] #[pb s, pb (s + 3)]) (.func (.func 206) #[] #[pb (s + 1), pb (s + 3)]) (.func (.func 207) #[] #[pb (s + 2), pb (s + 3)]) (.func (.func 208) #[] #[pb (s + 3)])) hb
  clear r0 r1 r2 r3 z
  obtain ⟨r0, r1, r2, r3⟩ := cells4p hF
  clear hF
  unfold four10 at r0 r1 r2 r3 hK hO
  simp only [Nat.zero_add] at r0 r1 r2 r3 hK hO
  generalize hW : World.setCell _ _ _ = W3 at r0 r1 r2 r3 hK hO ⊢
  have hs := HS.out
  exact bodyPost_ret (v := PartAg 205 206 207 208 s (s + 1) (s + 2) (s + 3)) (by simp [results, Tryz.results102, go_sem, PartAg, r0, r1, r2, r3]) rfl ⟨s, w.heap.size, by omega, Nat.le_refl _, rfl, hO _ _ _ HA.out.1 (by omega), hO _ _ _ HA.out.2.1 (by omega), hO _ _ _ HA.out.2.2.1 (by omega), hO _ _ _ HA.out.2.2.2 (by omega), hO _ _ _ HB.out (by omega), hK⟩
end Go.Proofs.YtfblnflknmakpaaGreatDoor
namespace Go.Proofs.YtfblnflknmakpaaGreatDoor
open Go.RowKit
set_option linter.unusedVariables false
set_option linter.unusedSimpArgs false

/-- Is a number a ballot? -/
def balB (b : Int) : Bool := decide (1 ≤ b / 8 ∧ b / 8 ≤ 1152921504606846975 ∧ 1 ≤ b % 8 ∧ b % 8 ≤ 5)
theorem balB_fine (b : Int) : balB b = true ↔ Fine (b / 8) (b % 8) := by unfold balB Fine; rw [lastR_eq]; simp
theorem isBallot_any (w : World) (b : Int) (h0 : 0 ≤ b) (hm : b ≤ 18446744073709551615) : Calls Tryz.prog 87 #[.int .u64 b] w (YesNo (balB b) w) := by
  cases h : balB b with
  | true => exact bIs_yes b w h0 hm ((balB_fine b).1 h)
  | false => exact bIs_no b w h0 hm (fun hf => by rw [(balB_fine b).2 hf] at h; cases h)
/-- May a command be? -/
def cmdB (k ch ep nd : Int) : Bool := decide ((k = 0 ∧ ch = 0 ∧ ep = 0 ∧ nd = 0) ∨ (1 ≤ k ∧ k ≤ 4 ∧ 0 ≤ ch ∧ ch ≤ 3 ∧ 1 ≤ ep ∧ 1 ≤ nd ∧ nd ≤ 24))
theorem cmdB_vld (k ch ep nd : Int) : cmdB k ch ep nd = true ↔ Vld k ch ep nd := by unfold cmdB Vld; simp
set_option maxRecDepth 100000 in
theorem isCommand_any (k ch ep nd : Int) (w : World) (he : 0 ≤ ep) : Calls Tryz.prog 107 #[.agg #[.int .i64 k, .int .i64 ch, .int .u64 ep, .int .i64 nd]] w (YesNoK (cmdB k ch ep nd) w) := by
  have HC := Lib.hid (fun w => Check_any k ch ep nd w he)
  obtain ⟨d, hd⟩ : ∃ d, d = cmdB k ch ep nd := ⟨_, rfl⟩
  have HD : Hid (∀ x, Chk k ch ep nd x → (x == 0) = d) := Lib.hid (fun x hx => by
    rw [hd]
    cases h : cmdB k ch ep nd with
    | true => have := (cmdB_vld k ch ep nd).1 h; unfold Chk Vld at hx; unfold Vld at this; simp; omega
    | false =>
      have : ¬ Vld k ch ep nd := fun hv => by rw [(cmdB_vld k ch ep nd).2 hv] at h; cases h
      rcases hx with ⟨_, rfl⟩ | ⟨_, _, ⟨hv, _⟩ | ⟨_, rfl⟩⟩
      · rfl
      · exact absurd hv this
      · rfl)
  rw [← hd]
  clear hd
  go_enter Tryz.func107, Tryz.ntmps107
  go_wp2_with fail
  refine (HC.out _).mono ?_
  rintro e w1 ⟨x, hx, rfl, hk⟩
  have HX := Lib.hid (HD.out x hx)
  have HK := Lib.hid (((Kept.refl NoB w).alloc (.cells #[.int .i64 k, .int .i64 ch, .int .u64 ep, .int .i64 nd] 41 (0, 0))).trans hk (fun _ _ h => h))
  clear hx hk
  go_wp2
  go_ret
  exact ⟨by show Ending.returned (Value.bool (x == 0)) = _; rw [HX.out], HK.out⟩
theorem ent_isBallot : Enters17 87 := fun args w => by kernel_rfl
theorem ent_isCommand : Enters17 107 := fun args w => by kernel_rfl
theorem ent_confRight : Enters17 53 := fun args w => by kernel_rfl
theorem ent_areVotes : Enters17 116 := fun args w => by kernel_rfl
theorem ent_any_u32 : Enters17 100 := fun args w => by kernel_rfl
theorem ent_upto_err : Enters17 152 := fun args w => by kernel_rfl
theorem ent_data_1 : Enters17 179 := fun args w => by kernel_rfl
set_option maxRecDepth 100000 in
theorem anyU32_any (w : World) (n : Int) : Calls Tryz.prog 100 #[.int .u32 n] w (YesNo true w) := by
  go_enter Tryz.func100, Tryz.ntmps100
  go_wp2
  go_ret
  exact ⟨rfl, rfl⟩
set_option maxRecDepth 100000 in
theorem uptoErr_any (w : World) (n m : Int) (b : Nat) (hc : w.cell? ⟨b, 0, none⟩ = some (.int .i64 m)) : Calls Tryz.prog 152 #[.int .i64 n, .pointer (some ⟨b, 0, none⟩)] w (YesNo (decide (0 ≤ n) && decide (n ≤ m)) w) := by
  obtain ⟨b1, h1⟩ : ∃ b1, b1 = decide (0 ≤ n) := ⟨_, rfl⟩
  obtain ⟨b2, h2⟩ : ∃ b2, b2 = decide (n ≤ m) := ⟨_, rfl⟩
  have g1 := h1.symm
  have g2 := h2.symm
  clear h1 h2
  rw [g1, g2]
  cases b1
  · go_enter Tryz.func152, Tryz.ntmps152
    go_wp2
    go_ret
    exact ⟨rfl, rfl⟩
  · go_enter Tryz.func152, Tryz.ntmps152
    go_wp2
    go_ret
    exact ⟨rfl, rfl⟩
set_option maxRecDepth 100000 in
theorem upTo_err (w : World) (m : Int) : Calls Tryz.prog 103 #[.int .i64 m] w fun e w' => e = .returned (.func (.func 152) #[] #[.pointer (some ⟨w.heap.size, 0, none⟩)]) ∧ w' = w.alloc (.cells #[.int .i64 m] 29) := by
  have hmf : ∀ (fn : Fn) (first cap : Array Value) (w : World), (Instr.makeFunc fn first cap).run Tryz.prog w = .ok (.func fn first cap) w := fun _ _ _ _ => rfl
  go_enter Tryz.func103, Tryz.ntmps103
  go_wp2
  go_ret
  exact ⟨rfl, rfl⟩
set_option maxRecDepth 100000 in
theorem data1_any (w : World) (v : Value) (l : List Int) (F : Nat → Prop) (m : Int) (b : Nat) (h : BSl w F v l) (hc : w.cell? ⟨b, 0, none⟩ = some (.int .i64 m)) : Calls Tryz.prog 179 #[v, .pointer (some ⟨b, 0, none⟩)] w (YesNo (decide ((l.length : Int) ≤ m)) w) := by
  obtain ⟨a, c, rfl, _⟩ := h
  go_enter Tryz.func179, Tryz.ntmps179
  go_wp2
  go_ret
  exact ⟨rfl, rfl⟩
/-- A vote's numbers are numbers. -/
def VtNm (v : Vt) : Prop := 0 ≤ v.b ∧ v.b ≤ 18446744073709551615 ∧ 0 ≤ v.ep
/-- Votes of a master, behind a slot. -/
def areVsF : Int → List Vt → Bool
  | _, [] => true
  | a, v :: r => !(decide (v.s ≤ a)) && (!(decide (512 ≤ v.s)) && (balB v.b && (cmdB v.k v.ch v.ep v.nd && areVsF v.s r)))
def areVs (l : List Vt) : Bool := areVsF (-1) l
theorem areVsF_at {l : List Vt} {k : Nat} (h : k < l.length) (a : Int) : areVsF a (l.drop k) = (!(decide (l[k].s ≤ a)) && (!(decide (512 ≤ l[k].s)) && (balB l[k].b && (cmdB l[k].k l[k].ch l[k].ep l[k].nd && areVsF l[k].s (l.drop (k + 1)))))) := by
  rw [List.drop_eq_getElem_cons h]; rfl
theorem cells6v {w : World} {b : Nat} {x0 x1 x2 x3 x4 x5 : Value} {t : TypeId} (h : w.heap[b]? = some (.cells #[x0, x1, x2, x3, x4, x5] t (0, 0))) :
    w.cell? ⟨b, 0, none⟩ = some x0 ∧ w.cell? ⟨b, 1, none⟩ = some x1 ∧ w.cell? ⟨b, 2, none⟩ = some x2 ∧ w.cell? ⟨b, 3, none⟩ = some x3 ∧ w.cell? ⟨b, 4, none⟩ = some x4 ∧ w.cell? ⟨b, 5, none⟩ = some x5 :=
  ⟨cell_of_row _ _ 0 _ _ _ h, cell_of_row _ _ 1 _ _ _ h, cell_of_row _ _ 2 _ _ _ h, cell_of_row _ _ 3 _ _ _ h, cell_of_row _ _ 4 _ _ _ h, cell_of_row _ _ 5 _ _ _ h⟩
theorem VRd.at10 {w : World} {F : Nat → Prop} {a : Option Addr} {n c : Nat} {l : List Vt} (h : VRd w F (.slice a n c) l) {j : Nat} (hj : j < l.length) : ∃ b o, a = some ⟨b, o, none⟩ ∧ F b ∧ b < w.heap.size ∧ VtAt w b (o + j * 6) l[j] := by
  obtain ⟨a', c', e, h2, h3, h4, h5⟩ := h
  injection e with e1 e2 e3
  subst e1 e3
  obtain ⟨b, o, e, hF, hb, hc⟩ := h5 (by omega)
  exact ⟨b, o, e, hF, hb, hc j hj⟩
set_option maxRecDepth 100000 in
set_option maxHeartbeats 2000000 in
theorem areVotes_any (w : World) (v : Value) (l : List Vt) (H : Nat → Prop) (h : VRd w H v l) (hv : ∀ x ∈ l, VtNm x) : Calls Tryz.prog 116 #[v] w (YesNoK (areVs l) w) := by
  obtain ⟨a, c, rfl⟩ := h.form
  have HH := Lib.hid h
  have HV := Lib.hid hv
  have hl : (l.length : Int) ≤ 9223372036854775807 := by have := h.len; omega
  clear h hv
  go_enter Tryz.func116, Tryz.ntmps116
  go_wp2
  go_loopw [3, 8] (fun av i wr => ∃ (k : Nat) (ah : Int), av = .int .i64 ah ∧ i = .int .i64 k ∧ k ≤ l.length ∧ areVsF ah (l.drop k) = areVs l ∧ Kept NoB w wr) (fun _ i _ => l.length - (RowKit.intOf i).toNat)
  case atStart => exact ⟨0, -1, rfl, rfl, Nat.zero_le _, rfl, Kept.refl _ _⟩
  case round =>
    obtain ⟨k, ah, rfl, rfl, hk, hA, hK⟩ := hrel
    have HA := Lib.hid hA
    have HK := Lib.hid hK
    have hk0 : (0 : Int) ≤ (k : Int) := by omega
    clear hA hK
    by_cases hlt : k < l.length
    · obtain ⟨b, o, rfl, _, _, e0, e1, e2, e3, e4, e5⟩ := (HH.out.no HK.out).at10 hlt
      have HF := HV.out l[k] (List.getElem_mem _)
      have hS := areVsF_at hlt ah
      rw [HA.out] at hS
      have hk1 : (k : Int) < (l.length : Int) := by omega
      obtain ⟨y, hy⟩ : ∃ y, y = l[k] := ⟨_, rfl⟩
      rw [← hy] at e0 e1 e2 e3 e4 e5 hS HF
      obtain ⟨y0, y1, y2, y3, y4, y5⟩ := y
      simp only at e0 e1 e2 e3 e4 e5 hS
      obtain ⟨f0, f1, f2⟩ := HF
      simp only at f0 f1 f2
      have HB := Lib.hid (fun w' => isBallot_any w' y1 f0 f1)
      have HC := Lib.hid (fun w' => isCommand_any y2 y3 y4 y5 w' f2)
      obtain ⟨W, hW⟩ : ∃ W, W = wr.alloc (.cells #[.int .i64 y0, .int .u64 y1, .int .i64 y2, .int .i64 y3, .int .u64 y4, .int .i64 y5] 142 (0, 0)) := ⟨_, rfl⟩
      have hg := heap_alloc_new wr (.cells #[.int .i64 y0, .int .u64 y1, .int .i64 y2, .int .i64 y3, .int .u64 y4, .int .i64 y5] 142 (0, 0))
      have hkW := HK.out.alloc (.cells #[.int .i64 y0, .int .u64 y1, .int .i64 y2, .int .i64 y3, .int .u64 y4, .int .i64 y5] 142 (0, 0))
      have HG := Lib.hid hg
      have HKW := Lib.hid hkW
      obtain ⟨c0, c1, c2, c3, c4, c5⟩ := cells6v hg
      obtain ⟨d1, h1⟩ : ∃ d1, d1 = decide (y0 ≤ ah) := ⟨_, rfl⟩
      obtain ⟨d2, h2⟩ : ∃ d2, d2 = decide (512 ≤ y0) := ⟨_, rfl⟩
      obtain ⟨d3, h3⟩ : ∃ d3, d3 = balB y1 := ⟨_, rfl⟩
      obtain ⟨d4, h4⟩ : ∃ d4, d4 = cmdB y2 y3 y4 y5 := ⟨_, rfl⟩
      rw [← h1, ← h2, ← h3, ← h4] at hS
      rw [← h3] at HB
      rw [← h4] at HC
      have g1 := h1.symm
      have g2 := h2.symm
      have HS := Lib.hid hS
      clear hy hW hg hkW h1 h2 h3 h4 hS f0 f1 f2
      cases d1 with
      | true =>
        go_wp2
        go_ret
        exact ⟨by rw [HS.out]; rfl, HKW.out⟩
      | false =>
        cases d2 with
        | true =>
          go_wp2
          go_ret
          exact ⟨by rw [HS.out]; rfl, HKW.out⟩
        | false =>
          cases d3 with
          | false =>
            go_wp2_with (go_at_call 87; refine (HB.out _).mono ?_; rintro e w1 ⟨rfl, rfl⟩)
            go_ret
            exact ⟨by rw [HS.out]; rfl, HKW.out⟩
          | true =>
            go_wp2_with fail
            refine (HB.out _).mono ?_
            rintro e w1 ⟨rfl, rfl⟩
            go_wp2_with fail
            refine (HC.out _).mono ?_
            rintro e w1 ⟨rfl, hk1⟩
            have HK1 := Lib.hid (HKW.out.trans hk1 (fun _ _ h => h))
            obtain ⟨c0, c1, c2, c3, c4, c5⟩ := cells6v (hk1.heap (fun h => h) HG.out)
            clear hk1
            cases d4 with
            | false =>
              go_wp2
              go_ret
              exact ⟨by rw [HS.out]; rfl, HK1.out⟩
            | true =>
              go_wp2
              exact ⟨⟨k + 1, y0, rfl, by go_num, by omega, HS.out.symm, HK1.out⟩, by simp [RowKit.intOf]; omega⟩
    · obtain rfl : k = l.length := by omega
      have HR : Hid (areVs l = true) := Lib.hid (by rw [← HA.out, List.drop_length]; rfl)
      go_wp2
      go_ret
      exact ⟨by rw [HR.out]; rfl, HK.out⟩
end Go.Proofs.YtfblnflknmakpaaGreatDoor
namespace Go.Proofs.YtfblnflknmakpaaGreatDoor
open Go.RowKit
set_option linter.unusedVariables false
set_option linter.unusedSimpArgs false

/-- The twenty-five cells of a letter. -/
structure LV where
  kd : Int
  fr : Int
  to : Int
  ch : Int
  ep : Int
  ba : Int
  nu : Int
  se : Int
  dn : Int
  ve : Int
  sl : Int
  ke : Int
  co : Int
  ck : Int
  cc : Int
  ce : Int
  cn : Int
  gc : Int
  ge : Int
  gn : Value
  gf : Bool
  gj : Int
  vo : Value
  up : Value
  da : Value
def lcs (x : LV) : Array Value := #[.int .i64 x.kd, .int .i64 x.fr, .int .i64 x.to, .int .i64 x.ch, .int .u64 x.ep, .int .u64 x.ba, .int .u64 x.nu, .int .u64 x.se, .int .u64 x.dn, .int .u64 x.ve, .int .i64 x.sl, .int .u32 x.ke, .int .i64 x.co, .int .i64 x.ck, .int .i64 x.cc, .int .u64 x.ce, .int .i64 x.cn, .int .i64 x.gc, .int .u64 x.ge, x.gn, .bool x.gf, .int .i64 x.gj, x.vo, x.up, x.da]
theorem lcs_size (x : LV) : (lcs x).size = 25 := rfl
def lval (x : LV) : Value := .agg (lcs x)
def lv0 : LV := ⟨0, 0, 0, 0, 0, 0, 0, 0, 0, 0, 0, 0, 0, 0, 0, 0, 0, 0, 0, .slice none 0 0, false, 0, .slice none 0 0, .slice none 0 0, .slice none 0 0⟩
/-- What its four slices hold. -/
structure LC where
  ns : List Int
  vs : List Vt
  us : List Up
  ds : List Int


/-- The slices hold that, in blocks of H; the numbers are numbers. -/
structure LtM (w : World) (H : Nat → Prop) (x : LV) (c : LC) : Prop where
  ns : NSl w H x.gn c.ns
  vs : VRd w H x.vo c.vs
  us : UsAt w H x.up c.us
  ds : BSl w H x.da c.ds
  vok : ∀ v ∈ c.vs, VtNm v
  ba0 : 0 ≤ x.ba
  ba1 : x.ba ≤ 18446744073709551615
  ce0 : 0 ≤ x.ce
  ge0 : 0 ≤ x.ge
  ge1 : x.ge ≤ topE
theorem LtM.kept {S H : Nat → Prop} {w w' : World} {x : LV} {c : LC} (h : LtM w H x c) (hk : Kept S w w') (hs : ∀ k, H k → ¬ S k) : LtM w' H x c :=
  ⟨h.ns.kept hk (fun k _ hH => hs k hH), h.vs.kept hk hs, h.us.kept hk hs, h.ds.kept hk hs, h.vok, h.ba0, h.ba1, h.ce0, h.ge0, h.ge1⟩
theorem LtM.no {H : Nat → Prop} {w w' : World} {x : LV} {c : LC} (h : LtM w H x c) (hk : Kept NoB w w') : LtM w' H x c := h.kept hk (fun _ _ h => h)
/-- Its configuration. -/
def lcf (x : LV) (c : LC) : Cf := ⟨x.gc, x.ge, c.ns, x.gf, x.gj⟩
/-- Is a part right? -/
def rgt (i : Nat) (x : LV) (c : LC) : Bool :=
  match i with
  | 0 => balB x.ba
  | 1 => decide (0 ≤ x.ch) && decide (x.ch ≤ 3)
  | 2 => decide (1 ≤ x.ep)
  | 5 => decide (0 ≤ x.sl) && decide (x.sl ≤ 512)
  | 7 => decide (0 ≤ x.sl) && decide (x.sl ≤ 512)
  | 9 => decide (0 ≤ x.co) && decide (x.co ≤ 255)
  | 11 => cmdB x.ck x.cc x.ce x.cn
  | 12 => rgtB (lcf x c)
  | 13 => areVs c.vs
  | 14 => areUs c.us
  | 15 => areReq c.us
  | 16 => decide ((c.ds.length : Int) ≤ 1024)
  | 17 => decide ((c.ds.length : Int) ≤ 2048)
  | _ => true
/-- A letter without a part. -/
def drp (i : Nat) (x : LV) : LV :=
  match i with
  | 0 => { x with ba := 0 }
  | 1 => { x with ch := 0 }
  | 2 => { x with ep := 0 }
  | 3 => { x with se := 0 }
  | 4 => { x with dn := 0 }
  | 5 => { x with sl := 0 }
  | 6 => { x with nu := 0 }
  | 7 => { x with sl := 0 }
  | 8 => { x with ke := 0 }
  | 9 => { x with co := 0 }
  | 10 => { x with ve := 0 }
  | 11 => { x with ck := 0, cc := 0, ce := 0, cn := 0 }
  | 12 => { x with gc := 0, ge := 0, gn := .slice none 0 0, gf := false, gj := 0 }
  | 13 => { x with vo := .slice none 0 0 }
  | 14 => { x with up := .slice none 0 0 }
  | 15 => { x with up := .slice none 0 0 }
  | 16 => { x with da := .slice none 0 0 }
  | 17 => { x with da := .slice none 0 0 }
  | _ => x
/-- The parts of a kind. -/
def prtK (kd : Nat) : List Nat := (List.range 18).filter (fun i => (kpTab.getD kd 0).toNat.testBit i)
/-- A part's law: what its first and its last function do, over blocks of P alone. -/
structure PLaw (i : Nat) (P : Nat → Prop) (w : World) (x : Q4) (f1 f4 : FuncId) (c1 c4 : Array Value) : Prop where
  a : x.a = .func (.func f1) #[] c1
  d : x.d = .func (.func f4) #[] c4
  b : ∃ f2 c2, x.b = .func (.func f2) #[] c2
  c : ∃ f3 c3, x.c = .func (.func f3) #[] c3
  e1 : Enters17 f1
  e4 : Enters17 f4
  right : ∀ (S : Nat → Prop) (w' : World), Kept S w w' → (∀ k, P k → ¬ S k) → ∀ (g : Nat) (y : LV) (c : LC) (H : Nat → Prop), w'.heap[g]? = some (.cells (lcs y) 48 (0, 0)) → LtM w' H y c → c.ns.length ≤ 1000 → Calls Tryz.prog f1 (#[pb g] ++ c1) w' (YesNoK (rgt i y c) w')
  drop : ∀ (S : Nat → Prop) (w' : World), Kept S w w' → (∀ k, P k → ¬ S k) → ∀ (g : Nat) (y : LV), w'.heap[g]? = some (.cells (lcs y) 48 (0, 0)) → Calls Tryz.prog f4 (#[pb g] ++ c4) w' fun e w'' => e = .returned (.tuple #[]) ∧ w''.heap[g]? = some (.cells (lcs (drp i y)) 48 (0, 0)) ∧ Kept (fun k => k = g) w' w''
/-- The value is the part of number i, in blocks from B on that are no row of parts. -/
def PartOk (i B : Nat) (w : World) (x : Q4) : Prop :=
  (∀ u ∈ q4l x, u.oneCell' = true) ∧ ∃ (P : Nat → Prop) (f1 f4 : FuncId) (c1 c4 : Array Value), (∀ k, P k → B ≤ k ∧ ∃ cs t fr, w.heap[k]? = some (.cells cs t fr) ∧ t ≠ 117) ∧ PLaw i P w x f1 f4 c1 c4
theorem PartOk.kept' {i B : Nat} {S : Nat → Prop} {w w' : World} {x : Q4} (h : PartOk i B w x) (hk : Kept S w w') (hs : ∀ k cs t fr, B ≤ k → w.heap[k]? = some (.cells cs t fr) → t ≠ 117 → ¬ S k) : PartOk i B w' x := by
  obtain ⟨h1, P, f1, f4, c1, c4, hP, hl⟩ := h
  have hPS : ∀ k, P k → ¬ S k := fun k hk' => by
    obtain ⟨hb, cs, t, fr, hr, ht⟩ := hP k hk'
    exact hs k cs t fr hb hr ht
  refine ⟨h1, P, f1, f4, c1, c4, fun k hk' => ?_, ⟨hl.a, hl.d, hl.b, hl.c, hl.e1, hl.e4, fun S' w2 hk2 hs2 => ?_, fun S' w2 hk2 hs2 => ?_⟩⟩
  · obtain ⟨hb, cs, t, fr, hr, ht⟩ := hP k hk'
    exact ⟨hb, cs, t, fr, hk.heap (hPS k hk') hr, ht⟩
  · exact hl.right (fun k => S k ∨ S' k) w2 ((hk.mono (fun k _ h => .inl h)).trans (hk2.mono (fun k _ h => .inr h)) (fun _ _ h => h)) (fun k hp h => h.elim (hPS k hp) (hs2 k hp))
  · exact hl.drop (fun k => S k ∨ S' k) w2 ((hk.mono (fun k _ h => .inl h)).trans (hk2.mono (fun k _ h => .inr h)) (fun _ _ h => h)) (fun k hp h => h.elim (hPS k hp) (hs2 k hp))
theorem PartOk.kept {i B : Nat} {S : Nat → Prop} {w w' : World} {x : Q4} (h : PartOk i B w x) (hk : Kept S w w') (hs : ∀ k, B ≤ k → ¬ S k) : PartOk i B w' x := h.kept' hk (fun k _ _ _ hb _ _ => hs k hb)
/-- Each is the part of its number. -/
def PartsOk (ns : List Nat) (B : Nat) (w : World) (ps : List Q4) : Prop := ps.length = ns.length ∧ ∀ j, j < ns.length → PartOk (ns.getD j 0) B w (ps.getD j q40)
theorem PartsOk.kept {ns : List Nat} {S : Nat → Prop} {B : Nat} {w w' : World} {ps : List Q4} (h : PartsOk ns B w ps) (hk : Kept S w w') (hs : ∀ k, B ≤ k → ¬ S k) : PartsOk ns B w' ps := ⟨h.1, fun j hj => (h.2 j hj).kept hk hs⟩
theorem PartsOk.snoc {ns : List Nat} {B : Nat} {w : World} {ps : List Q4} (h : PartsOk ns B w ps) {i : Nat} {x : Q4} (hx : PartOk i B w x) : PartsOk (ns ++ [i]) B w (ps ++ [x]) := by
  refine ⟨by rw [List.length_append, List.length_append, h.1]; rfl, fun j hj => ?_⟩
  rw [List.length_append] at hj
  by_cases e : j < ns.length
  · rw [List.getD_eq_getElem?_getD, List.getD_eq_getElem?_getD, List.getElem?_append_left e, List.getElem?_append_left (by rw [h.1]; exact e)]
    have := h.2 j e
    rw [List.getD_eq_getElem?_getD, List.getD_eq_getElem?_getD] at this
    exact this
  · have hj' : j = ns.length := by simp only [List.length_cons, List.length_nil] at hj; omega
    subst hj'
    have hl := h.1
    simp only [List.getD_eq_getElem?_getD]
    rw [List.getElem?_append_right (Nat.le_refl _), List.getElem?_append_right (by omega)]
    simp [hl]
    exact hx
theorem own_type {B : Nat} {w : World} {v : Value} {ps : List Q4} (h : POw B w v ps) {k : Nat} (hk : v.ownBlock = some k) : ∃ cs fr, w.heap[k]? = some (.cells cs 117 fr) := by
  rcases h.2 with ⟨rfl, _⟩ | ⟨r, cap, cur, rfl, hb, hr, _⟩
  · cases hk
  · injection hk with hk
    subst hk
    exact ⟨_, _, hr⟩
theorem PartOk.grow {i B C : Nat} {w w' : World} {v : Value} {x : Q4} {ps : List Q4} (h : PartOk i B w x) (hrow : POw C w v ps) (hk : Kept (fun i => some i = v.ownBlock) w w') : PartOk i B w' x :=
  h.kept' hk (fun k cs t fr _ hr ht he => by
    obtain ⟨cs', fr', h2⟩ := own_type hrow he.symm
    rw [hr] at h2
    injection h2 with h2
    injection h2 with _ h2 _
    exact ht h2)
theorem PartsOk.grow {ns : List Nat} {B C : Nat} {w w' : World} {v : Value} {qs ps : List Q4} (h : PartsOk ns B w qs) (hrow : POw C w v ps) (hk : Kept (fun i => some i = v.ownBlock) w w') : PartsOk ns B w' qs := ⟨h.1, fun j hj => (h.2 j hj).grow hrow hk⟩
end Go.Proofs.YtfblnflknmakpaaGreatDoor
namespace Go.Proofs.YtfblnflknmakpaaGreatDoor
open Go.RowKit
set_option linter.unusedVariables false
set_option linter.unusedSimpArgs false

def farU14 (u : Up) : Bool := decide (2100 < u.d.length)
def far14 (c : LC) : Bool := (c.us.take 9).any farU14 || (decide (8 < c.us.length) || (decide (600 < c.vs.length) || (decide (2100 < c.ds.length) || decide (30 < c.ns.length))))
theorem far14_ns {c : LC} (h : far14 c = false) : c.ns.length ≤ 30 ∧ c.vs.length ≤ 600 ∧ c.us.length ≤ 8 ∧ c.ds.length ≤ 2100 := by
  unfold far14 at h
  simp only [Bool.or_eq_false_iff, decide_eq_false_iff_not] at h
  omega
theorem far14_us {c : LC} (h : far14 c = false) : ∀ u ∈ c.us, u.d.length ≤ 2100 := by
  have hl := (far14_ns h).2.2.1
  unfold far14 at h
  rw [Bool.or_eq_false_iff] at h
  intro u hu
  have := List.any_eq_false.1 h.1 u (by rw [List.take_of_length_le (by omega)]; exact hu)
  unfold farU14 at this
  simp at this
  exact this
set_option maxRecDepth 100000 in
set_option maxHeartbeats 4000000 in
theorem Far_any (w : World) (kd fr to ch ep ba nu se dn ve sl ke co ck cc ce cn gc ge gj : Int) (gf : Bool) (ga va ua dda : Option Addr) (gm gcp vm vcp um ucp dm dcp : Nat) (x : LV) (c : LC) (H : Nat → Prop) (hx : x = ⟨kd, fr, to, ch, ep, ba, nu, se, dn, ve, sl, ke, co, ck, cc, ce, cn, gc, ge, .slice ga gm gcp, gf, gj, .slice va vm vcp, .slice ua um ucp, .slice dda dm dcp⟩) (h : LtM w H x c) :
    Calls Tryz.prog 15 #[.agg #[.int .i64 kd, .int .i64 fr, .int .i64 to, .int .i64 ch, .int .u64 ep, .int .u64 ba, .int .u64 nu, .int .u64 se, .int .u64 dn, .int .u64 ve, .int .i64 sl, .int .u32 ke, .int .i64 co, .int .i64 ck, .int .i64 cc, .int .u64 ce, .int .i64 cn, .int .i64 gc, .int .u64 ge, .slice ga gm gcp, .bool gf, .int .i64 gj, .slice va vm vcp, .slice ua um ucp, .slice dda dm dcp]] w (YesNoK (far14 c) w) := by
  obtain ⟨hns, hvs, hus, hds, _, _, _, _, _, _⟩ := h
  subst hx
  simp only at hns hvs hus hds
  obtain ⟨ga', gcp', eg, _, hgm, _⟩ := id hns
  obtain ⟨va', vcp', ev⟩ := hvs.form
  obtain ⟨ua', ucp', eu⟩ := hus.form
  obtain ⟨da', dcp', ed, hdc, hdm, _⟩ := id hds
  injection eg with eg1 eg2 eg3
  injection ev with ev1 ev2 ev3
  injection eu with eu1 eu2 eu3
  injection ed with ed1 ed2 ed3
  subst eg1 eg2 eg3 ev1 ev2 ev3 eu1 eu2 eu3 ed1 ed2 ed3
  have hvl : (c.vs.length : Int) ≤ 9223372036854775807 := by have := hvs.len; omega
  have hul : (c.us.length : Int) ≤ 9223372036854775807 := by have := hus.len; unfold maxLen at this; omega
  unfold maxLen at hgm hdm
  have hgl : (c.ns.length : Int) ≤ 9223372036854775807 := by omega
  have hdl : (c.ds.length : Int) ≤ 9223372036854775807 := by omega
  obtain ⟨fb, hfb⟩ : ∃ fb, fb = far14 c := ⟨_, rfl⟩
  have HFB := Lib.hid hfb
  rw [← hfb]
  obtain ⟨W, hW⟩ : ∃ W, W = w.alloc (.cells #[.int .i64 kd, .int .i64 fr, .int .i64 to, .int .i64 ch, .int .u64 ep, .int .u64 ba, .int .u64 nu, .int .u64 se, .int .u64 dn, .int .u64 ve, .int .i64 sl, .int .u32 ke, .int .i64 co, .int .i64 ck, .int .i64 cc, .int .u64 ce, .int .i64 cn, .int .i64 gc, .int .u64 ge, .slice ga c.ns.length gcp, .bool gf, .int .i64 gj, .slice va c.vs.length vcp, .slice ua c.us.length ucp, .slice dda c.ds.length dcp] 48 (0, 0)) := ⟨_, rfl⟩
  have hkk : Kept NoB w W := by rw [hW]; exact (Kept.refl NoB w).alloc _
  have h1 : W.heap[w.heap.size]? = some (.cells #[.int .i64 kd, .int .i64 fr, .int .i64 to, .int .i64 ch, .int .u64 ep, .int .u64 ba, .int .u64 nu, .int .u64 se, .int .u64 dn, .int .u64 ve, .int .i64 sl, .int .u32 ke, .int .i64 co, .int .i64 ck, .int .i64 cc, .int .u64 ce, .int .i64 cn, .int .i64 gc, .int .u64 ge, .slice ga c.ns.length gcp, .bool gf, .int .i64 gj, .slice va c.vs.length vcp, .slice ua c.us.length ucp, .slice dda c.ds.length dcp] 48 (0, 0)) := by rw [hW]; exact heap_alloc_new w _
  have HTEN : Hid (∀ w', Kept NoB W w' → w'.cell? ⟨w.heap.size, 19, none⟩ = some (.slice ga c.ns.length gcp) ∧ w'.cell? ⟨w.heap.size, 22, none⟩ = some (.slice va c.vs.length vcp) ∧ w'.cell? ⟨w.heap.size, 23, none⟩ = some (.slice ua c.us.length ucp) ∧ w'.cell? ⟨w.heap.size, 24, none⟩ = some (.slice dda c.ds.length dcp)) := Lib.hid (fun w' hk => ⟨cell_of_row _ _ 19 _ _ _ (hk.heap (fun h => h) h1), cell_of_row _ _ 22 _ _ _ (hk.heap (fun h => h) h1), cell_of_row _ _ 23 _ _ _ (hk.heap (fun h => h) h1), cell_of_row _ _ 24 _ _ _ (hk.heap (fun h => h) h1)⟩)
  have HK := Lib.hid hkk
  have HW := Lib.hid hW
  have HU := Lib.hid (hus.no hkk)
  clear h1 hW hkk hns hvs hus hds hfb hgm hdc hdm
  go_enter Tryz.func15, Tryz.ntmps15
  go_wp2_with fail
  try rw [← HW.out]
  go_wp2
  go_loopw [3] (fun i wr => ∃ k : Nat, i = .int .i64 k ∧ k ≤ c.us.length ∧ k ≤ 9 ∧ (c.us.take k).any farU14 = false ∧ Kept NoB W wr) (fun i _ => 9 - (RowKit.intOf i).toNat)
  case atStart => exact ⟨0, rfl, Nat.zero_le _, by omega, rfl, Kept.refl _ _⟩
  case round =>
    obtain ⟨k, rfl, hk, hk9, hno, hkr⟩ := hrel
    have HNO := Lib.hid hno
    have HKR := Lib.hid hkr
    obtain ⟨c19, c22, c23, c24⟩ := HTEN.out wr hkr
    have hk0 : (0 : Int) ≤ (k : Int) := by omega
    clear hno hkr
    by_cases hlt : k < c.us.length
    · by_cases h9 : k < 9
      · obtain ⟨b, o, rfl, _, hb, u, e0, e1, e2, e3, e4, e5, e6, hdd⟩ := (HU.out.no HKR.out).at_ hlt
        have HSS := Lib.hid (takeU hlt)
        obtain ⟨y, hy⟩ : ∃ y, y = nthU c.us k := ⟨_, rfl⟩
        rw [← hy] at hdd HSS
        have HY : Hid (y ∈ c.us.take 9) := Lib.hid (by rw [hy, nthU_at hlt]; exact List.mem_take_iff_getElem.2 ⟨k, by omega, rfl⟩)
        obtain ⟨dq, dqc, rfl, _⟩ := hdd
        have hk1 : (k : Int) < (c.us.length : Int) := by omega
        have hk2 : (k : Int) < 9 := by omega
        obtain ⟨m, hm⟩ : ∃ m, m = y.d.length := ⟨_, rfl⟩
        rw [← hm] at e6
        have HM := Lib.hid hm
        clear hy hm e0 e1 e2 e3 e4 e5 hb
        by_cases hf : 2100 < m
        · have g : decide ((m : Int) > 2100) = true := decide_eq_true (by omega)
          have g' : decide ((2100 : Int) < (m : Int)) = true := decide_eq_true (by omega)
          have HR : Hid (fb = true) := Lib.hid (by rw [HFB.out]; unfold far14; rw [List.any_eq_true.2 ⟨y, HY.out, by unfold farU14; rw [← HM.out]; exact decide_eq_true hf⟩]; rfl)
          clear hf
          go_wp2
          go_ret
          exact ⟨by rw [HR.out]; rfl, HK.out.trans HKR.out (fun _ _ h => h)⟩
        · have g : decide ((m : Int) > 2100) = false := decide_eq_false (by omega)
          have g' : decide ((2100 : Int) < (m : Int)) = false := decide_eq_false (by omega)
          have HN2 : Hid ((c.us.take (k + 1)).any farU14 = false) := Lib.hid (by rw [HSS.out, List.any_append, HNO.out]; simp [farU14, ← HM.out]; omega)
          clear hf
          go_wp2
          exact ⟨⟨k + 1, by go_num, by omega, by omega, HN2.out, HKR.out⟩, by simp [RowKit.intOf]; omega⟩
      · have hk1 : (k : Int) < (c.us.length : Int) := by omega
        have hk2 : ¬ (k : Int) < 9 := by omega
        have hl8 : (c.us.length : Int) > 8 := by omega
        have g8 : decide ((c.us.length : Int) > 8) = true := decide_eq_true hl8
        have g8' : decide ((8 : Int) < (c.us.length : Int)) = true := decide_eq_true hl8
        have HR : Hid (fb = true) := Lib.hid (by rw [HFB.out]; unfold far14; rw [decide_eq_true (show 8 < c.us.length by omega)]; simp)
        clear hl8
        go_wp2
        go_ret
        exact ⟨by rw [HR.out]; rfl, HK.out.trans HKR.out (fun _ _ h => h)⟩
    · obtain ⟨m, hm⟩ : ∃ m, m = c.us.length := ⟨_, rfl⟩
      have hkm : k = m := by omega
      have HA : Hid ((c.us.take 9).any farU14 = false ∨ fb = true) := Lib.hid (by
        by_cases h8 : 8 < c.us.length
        · right; rw [HFB.out]; unfold far14; rw [decide_eq_true h8]; simp
        · left; rw [List.take_of_length_le (by omega)]; have h0 := HNO.out; rw [show k = c.us.length by omega, List.take_length] at h0; exact h0)
      obtain ⟨d1, h1⟩ : ∃ d1, d1 = decide (8 < c.us.length) := ⟨_, rfl⟩
      obtain ⟨d2, h2⟩ : ∃ d2, d2 = decide (600 < c.vs.length) := ⟨_, rfl⟩
      obtain ⟨d3, h3⟩ : ∃ d3, d3 = decide (2100 < c.ds.length) := ⟨_, rfl⟩
      obtain ⟨d4, h4⟩ : ∃ d4, d4 = decide (30 < c.ns.length) := ⟨_, rfl⟩
      have HR : Hid (fb = (d1 || (d2 || (d3 || d4)))) := Lib.hid (by
        rcases HA.out with h | h
        · rw [HFB.out]; unfold far14; rw [h, h1, h2, h3, h4]; rfl
        · by_cases h8 : 8 < c.us.length
          · rw [h, h1, decide_eq_true h8]; rfl
          · have h0 := HNO.out
            rw [show k = c.us.length by omega, List.take_length] at h0
            rw [HFB.out]; unfold far14; rw [List.take_of_length_le (by omega), h0, h1, h2, h3, h4]; rfl)
      have q1 : decide ((c.us.length : Int) > 8) = d1 := by rw [h1]; exact decide_eq_decide.2 (by omega)
      have q2 : decide ((c.vs.length : Int) > 600) = d2 := by rw [h2]; exact decide_eq_decide.2 (by omega)
      have q3 : decide ((c.ds.length : Int) > 2100) = d3 := by rw [h3]; exact decide_eq_decide.2 (by omega)
      have q4 : decide ((c.ns.length : Int) > 30) = d4 := by rw [h4]; exact decide_eq_decide.2 (by omega)
      have p1 : decide ((8 : Int) < (c.us.length : Int)) = d1 := q1
      have p2 : decide ((600 : Int) < (c.vs.length : Int)) = d2 := q2
      have p3 : decide ((2100 : Int) < (c.ds.length : Int)) = d3 := q3
      have p4 : decide ((30 : Int) < (c.ns.length : Int)) = d4 := q4
      have hnl : ¬ (k : Int) < (c.us.length : Int) := by omega
      clear h1 h2 h3 h4 hm hkm HA hlt hk
      cases d1 with
      | true =>
        go_wp2
        go_ret
        exact ⟨by rw [HR.out]; rfl, HK.out.trans HKR.out (fun _ _ h => h)⟩
      | false =>
        cases d2 with
        | true =>
          go_wp2
          go_ret
          exact ⟨by rw [HR.out]; rfl, HK.out.trans HKR.out (fun _ _ h => h)⟩
        | false =>
          cases d3 with
          | true =>
            go_wp2
            go_ret
            exact ⟨by rw [HR.out]; rfl, HK.out.trans HKR.out (fun _ _ h => h)⟩
          | false =>
            go_wp2
            go_ret
            exact ⟨by rw [HR.out]; rfl, HK.out.trans HKR.out (fun _ _ h => h)⟩
end Go.Proofs.YtfblnflknmakpaaGreatDoor
namespace Go.Proofs.YtfblnflknmakpaaGreatDoor
open Go.ChangeShapes Go.WideShapes Go.ChangeAt Go.RowKit Go.Deep
set_option linter.unusedVariables false

section
variable {H : Type} {enc : TypeId × Value → H} {W : World} {base b0 : Nat}
set_option maxRecDepth 100000 in
theorem vt_cells10 {fuel : Nat} {c0 c1 c2 c3 c4 c5 : Value} {x : DataW H × List MemPlace} (ht : DataW.trod enc Tryz.prog W base (fun _ => true) true fuel 142 [c0, c1, c2, c3, c4, c5] = some x) :
    ∃ o : Vt, c0 = .int .i64 o.s ∧ c1 = .int .u64 o.b ∧ c2 = .int .i64 o.k ∧ c3 = .int .i64 o.ch ∧ c4 = .int .u64 o.ep ∧ c5 = .int .i64 o.nd ∧ VtNm o := by
  obtain ⟨xs, n', _, _, _, hxl, hg⟩ := DataW.trod_struct Tryz.underlying142 ht
  have hxl3 : xs.length = 3 := hxl
  match xs, hxl3 with
  | [y0, y1, y2], _ =>
    have g0 : DataW.trod enc Tryz.prog W base (fun _ => true) true n' 3 [c0] = some y0 := hg 0 _ rfl
    have g1 : DataW.trod enc Tryz.prog W base (fun _ => true) true n' 23 [c1] = some y1 := hg 1 _ rfl
    have g2 : DataW.trod enc Tryz.prog W base (fun _ => true) true n' 41 [c2, c3, c4, c5] = some y2 := hg 2 _ rfl
    obtain ⟨ys, m', _, _, _, hyl, hh⟩ := DataW.trod_struct Tryz.underlying41 g2
    have hyl4 : ys.length = 4 := hyl
    match ys, hyl4 with
    | [z0, z1, z2, z3], _ =>
      have q0 : DataW.trod enc Tryz.prog W base (fun _ => true) true m' 3 [c2] = some z0 := hh 0 _ rfl
      have q1 : DataW.trod enc Tryz.prog W base (fun _ => true) true m' 3 [c3] = some z1 := hh 1 _ rfl
      have q2 : DataW.trod enc Tryz.prog W base (fun _ => true) true m' 23 [c4] = some z2 := hh 2 _ rfl
      have q3 : DataW.trod enc Tryz.prog W base (fun _ => true) true m' 3 [c5] = some z3 := hh 3 _ rfl
      obtain ⟨k0, e0, _, w0⟩ := DataW.trod_int Tryz.underlying3 g0
      obtain ⟨k1, e1, _, w1⟩ := DataW.trod_int Tryz.underlying23 g1
      obtain ⟨k2, e2, _, w2⟩ := DataW.trod_int Tryz.underlying3 q0
      obtain ⟨k3, e3, _, w3⟩ := DataW.trod_int Tryz.underlying3 q1
      obtain ⟨k4, e4, _, w4⟩ := DataW.trod_int Tryz.underlying23 q2
      obtain ⟨k5, e5, _, w5⟩ := DataW.trod_int Tryz.underlying3 q3
      simp only [List.cons.injEq, and_true] at e0 e1 e2 e3 e4 e5
      subst e0 e1 e2 e3 e4 e5
      have h1 := bounds_u64 w1
      have h4 := bounds_u64 w4
      exact ⟨⟨k0, k1, k2, k3, k4, k5⟩, rfl, rfl, rfl, rfl, rfl, rfl, h1.1, h1.2, h4.1⟩
theorem list6w {α : Type} {cs : List α} (h : cs.length = 6) : ∃ c0 c1 c2 c3 c4 c5, cs = [c0, c1, c2, c3, c4, c5] := by
  match cs, h with
  | [c0, c1, c2, c3, c4, c5], _ => exact ⟨_, _, _, _, _, _, rfl⟩
/-- One cell that reads as a slice of votes. -/
theorem vts_cell10 {fuel : Nat} {c : Value} {x : DataW H × List MemPlace} (hf : DataW.trod enc Tryz.prog W base (fun _ => true) true fuel 45 [c] = some x) :
    ∃ l : List Vt, VRd W (fun k => k < W.heap.size) c l ∧ ∀ v ∈ l, VtNm v := by
  rcases open_slice Tryz.underlying45 hf with ⟨hcs, _⟩ | ⟨x, len, c, m, n, D, Pl, hcs, _, hl, hm, hmm, _, hi⟩
  · simp only [List.cons.injEq, and_true] at hcs
    subst hcs
    exact ⟨[], VRd.nil _ _, fun x h => by cases h⟩
  · simp only [List.cons.injEq, and_true] at hcs
    subst hcs
    simp only [if_true] at hmm
    subst hmm
    have hC : Tryz.prog.cellsOf 142 = 6 := by kernel_rfl
    rw [hC] at hi
    have key : ∀ j, j < m → ∃ it : Vt, W.cell? (x.add (j * 6)) = some (.int .i64 it.s) ∧ W.cell? ((x.add (j * 6)).add 1) = some (.int .u64 it.b) ∧ W.cell? ((x.add (j * 6)).add 2) = some (.int .i64 it.k) ∧ W.cell? ((x.add (j * 6)).add 3) = some (.int .i64 it.ch) ∧ W.cell? ((x.add (j * 6)).add 4) = some (.int .u64 it.ep) ∧ W.cell? ((x.add (j * 6)).add 5) = some (.int .i64 it.nd) ∧ VtNm it := by
      intro j hj
      obtain ⟨cs', hc, ht⟩ := hi j hj
      obtain ⟨_, hlen, hat⟩ := World.cells?_some hc
      obtain ⟨c0, c1, c2, c3, c4, c5, rfl⟩ := list6w hlen
      obtain ⟨o, rfl, rfl, rfl, rfl, rfl, rfl, hfit⟩ := vt_cells10 ht
      have a0 : ∀ y : Addr, y.add 0 = y := fun y => by unfold Addr.add; split <;> simp_all
      have h0 := hat 0 (by omega)
      rw [a0] at h0
      exact ⟨o, h0, hat 1 (by omega), hat 2 (by omega), hat 3 (by omega), hat 4 (by omega), hat 5 (by omega), hfit⟩
    obtain ⟨it, hit⟩ := pick_all17 vt0 key
    have hll : ((List.range len).map it).length = len := by simp
    refine ⟨(List.range len).map it, ⟨some x, m, by rw [hll], by rw [hll]; exact hl, hm, (fun h => by cases h), fun hp => ?_⟩, fun y hy => ?_⟩
    · rw [hll] at hp
      obtain ⟨h0, _⟩ := hit 0 (by omega)
      obtain ⟨b, o, spot⟩ := x
      have hspot : spot = none := by simpa [Addr.add] using World.cell?_spot h0
      subst hspot
      have hb := World.block_lt_of_cell? W _ h0
      rw [addr_add17] at hb
      refine ⟨b, o, rfl, hb, hb, fun j hj => ?_⟩
      rw [hll] at hj
      obtain ⟨e0, e1, e2, e3, e4, e5, hf⟩ := hit j (by omega)
      simp only [addr_add17] at e0 e1 e2 e3 e4 e5
      rw [List.getElem_map, List.getElem_range]
      exact ⟨e0, e1, e2, e3, e4, e5⟩
    · obtain ⟨j, hj, rfl⟩ := List.mem_map.1 hy
      rw [List.mem_range] at hj
      exact (hit j (by omega)).2.2.2.2.2.2
/-- One cell that reads as a slice of updates. -/
theorem us_cell10 {fuel : Nat} {c : Value} {x : DataW H × List MemPlace} (hf : DataW.trod enc Tryz.prog W base (fun _ => true) true fuel 46 [c] = some x) :
    ∃ l : List Up, UsAt W (fun k => k < W.heap.size) c l := by
  have h1 : ∃ a len cap, c = .slice a len cap := by
    rcases open_slice Tryz.underlying46 hf with ⟨hcs, _⟩ | ⟨x, l, c, m, n, D, Pl, hcs, _⟩
    · simp only [List.cons.injEq, and_true] at hcs
      exact ⟨_, _, _, hcs⟩
    · simp only [List.cons.injEq, and_true] at hcs
      exact ⟨_, _, _, hcs⟩
  obtain ⟨a, len, cap, rfl⟩ := h1
  obtain ⟨d, p⟩ := x
  obtain ⟨l, hl, _⟩ := us_open (enc := enc) (W := W) (base := base) (d := d) (p := p) ⟨fuel, by simpa [Value.cells] using hf⟩
  exact ⟨l, hl⟩
/-- A letter by value. -/
def LtV (w : World) (v : Value) (y : LV × LC) : Prop := v = .agg (lcs y.1) ∧ LtM w (fun k => k < w.heap.size) y.1 y.2
theorem array25 {α : Type} {cs : Array α} (h : cs.size = 25) : ∃ c0 c1 c2 c3 c4 c5 c6 c7 c8 c9 c10 c11 c12 c13 c14 c15 c16 c17 c18 c19 c20 c21 c22 c23 c24, cs = #[c0, c1, c2, c3, c4, c5, c6, c7, c8, c9, c10, c11, c12, c13, c14, c15, c16, c17, c18, c19, c20, c21, c22, c23, c24] := by
  obtain ⟨l⟩ := cs
  match l, h with
  | [c0, c1, c2, c3, c4, c5, c6, c7, c8, c9, c10, c11, c12, c13, c14, c15, c16, c17, c18, c19, c20, c21, c22, c23, c24], _ => exact ⟨c0, c1, c2, c3, c4, c5, c6, c7, c8, c9, c10, c11, c12, c13, c14, c15, c16, c17, c18, c19, c20, c21, c22, c23, c24, rfl⟩
set_option maxRecDepth 100000 in
set_option maxHeartbeats 2000000 in
theorem lt_open {r : Reach} {v : Value} {d : DataW H} {p : List MemPlace} (hv : Value.okWide Tryz.prog W r b0 48 v)
    (h : DataW.Trod enc Tryz.prog W base (fun _ => true) true 48 v d p) : ∃ y : LV × LC, LtV W v y := by
  obtain ⟨cs, rfl, hsz⟩ := okWide_struct Tryz.underlying48 hv
  have hC : Tryz.prog.cellsOf 48 = 25 := by kernel_rfl
  obtain ⟨c0, c1, c2, c3, c4, c5, c6, c7, c8, c9, c10, c11, c12, c13, c14, c15, c16, c17, c18, c19, c20, c21, c22, c23, c24, rfl⟩ := array25 (hsz.trans hC)
  obtain ⟨fuel, hf⟩ := h
  obtain ⟨xs, n', _, _, _, hxl, hg⟩ := DataW.trod_struct Tryz.underlying48 (by simpa [Value.cells] using hf)
  have hxl18 : xs.length = 18 := hxl
  match xs, hxl18 with
  | [y0, y1, y2, y3, y4, y5, y6, y7, y8, y9, y10, y11, y12, y13, y14, y15, y16, y17], _ =>
    have g0 : DataW.trod enc Tryz.prog W base (fun _ => true) true n' 3 [c0] = some y0 := hg 0 _ rfl
    have g1 : DataW.trod enc Tryz.prog W base (fun _ => true) true n' 3 [c1] = some y1 := hg 1 _ rfl
    have g2 : DataW.trod enc Tryz.prog W base (fun _ => true) true n' 3 [c2] = some y2 := hg 2 _ rfl
    have g3 : DataW.trod enc Tryz.prog W base (fun _ => true) true n' 3 [c3] = some y3 := hg 3 _ rfl
    have g4 : DataW.trod enc Tryz.prog W base (fun _ => true) true n' 23 [c4] = some y4 := hg 4 _ rfl
    have g5 : DataW.trod enc Tryz.prog W base (fun _ => true) true n' 23 [c5] = some y5 := hg 5 _ rfl
    have g6 : DataW.trod enc Tryz.prog W base (fun _ => true) true n' 23 [c6] = some y6 := hg 6 _ rfl
    have g7 : DataW.trod enc Tryz.prog W base (fun _ => true) true n' 23 [c7] = some y7 := hg 7 _ rfl
    have g8 : DataW.trod enc Tryz.prog W base (fun _ => true) true n' 23 [c8] = some y8 := hg 8 _ rfl
    have g9 : DataW.trod enc Tryz.prog W base (fun _ => true) true n' 23 [c9] = some y9 := hg 9 _ rfl
    have g10 : DataW.trod enc Tryz.prog W base (fun _ => true) true n' 3 [c10] = some y10 := hg 10 _ rfl
    have g11 : DataW.trod enc Tryz.prog W base (fun _ => true) true n' 22 [c11] = some y11 := hg 11 _ rfl
    have g12 : DataW.trod enc Tryz.prog W base (fun _ => true) true n' 29 [c12] = some y12 := hg 12 _ rfl
    have g13 : DataW.trod enc Tryz.prog W base (fun _ => true) true n' 41 [c13, c14, c15, c16] = some y13 := hg 13 _ rfl
    have g14 : DataW.trod enc Tryz.prog W base (fun _ => true) true n' 44 [c17, c18, c19, c20, c21] = some y14 := hg 14 _ rfl
    have g15 : DataW.trod enc Tryz.prog W base (fun _ => true) true n' 45 [c22] = some y15 := hg 15 _ rfl
    have g16 : DataW.trod enc Tryz.prog W base (fun _ => true) true n' 46 [c23] = some y16 := hg 16 _ rfl
    have g17 : DataW.trod enc Tryz.prog W base (fun _ => true) true n' 24 [c24] = some y17 := hg 17 _ rfl
    obtain ⟨k0, e0, _, w0⟩ := DataW.trod_int Tryz.underlying3 g0
    obtain ⟨k1, e1, _, w1⟩ := DataW.trod_int Tryz.underlying3 g1
    obtain ⟨k2, e2, _, w2⟩ := DataW.trod_int Tryz.underlying3 g2
    obtain ⟨k3, e3, _, w3⟩ := DataW.trod_int Tryz.underlying3 g3
    obtain ⟨k4, e4, _, w4⟩ := DataW.trod_int Tryz.underlying23 g4
    obtain ⟨k5, e5, _, w5⟩ := DataW.trod_int Tryz.underlying23 g5
    obtain ⟨k6, e6, _, w6⟩ := DataW.trod_int Tryz.underlying23 g6
    obtain ⟨k7, e7, _, w7⟩ := DataW.trod_int Tryz.underlying23 g7
    obtain ⟨k8, e8, _, w8⟩ := DataW.trod_int Tryz.underlying23 g8
    obtain ⟨k9, e9, _, w9⟩ := DataW.trod_int Tryz.underlying23 g9
    obtain ⟨k10, e10, _, w10⟩ := DataW.trod_int Tryz.underlying3 g10
    obtain ⟨k11, e11, _, w11⟩ := DataW.trod_int Tryz.underlying22 g11
    obtain ⟨k12, e12, _, w12⟩ := DataW.trod_int Tryz.underlying29 g12
    obtain ⟨zs, m', _, _, _, hzl, hh⟩ := DataW.trod_struct Tryz.underlying41 g13
    have hzl4 : zs.length = 4 := hzl
    match zs, hzl4 with
    | [z0, z1, z2, z3], _ =>
      have q0 : DataW.trod enc Tryz.prog W base (fun _ => true) true m' 3 [c13] = some z0 := hh 0 _ rfl
      have q1 : DataW.trod enc Tryz.prog W base (fun _ => true) true m' 3 [c14] = some z1 := hh 1 _ rfl
      have q2 : DataW.trod enc Tryz.prog W base (fun _ => true) true m' 23 [c15] = some z2 := hh 2 _ rfl
      have q3 : DataW.trod enc Tryz.prog W base (fun _ => true) true m' 3 [c16] = some z3 := hh 3 _ rfl
      obtain ⟨r0, f0, _, _⟩ := DataW.trod_int Tryz.underlying3 q0
      obtain ⟨r1, f1, _, _⟩ := DataW.trod_int Tryz.underlying3 q1
      obtain ⟨r2, f2, _, v2⟩ := DataW.trod_int Tryz.underlying23 q2
      obtain ⟨r3, f3, _, _⟩ := DataW.trod_int Tryz.underlying3 q3
      obtain ⟨cf, rfl, rfl, hns, rfl, rfl, hp0, hp1⟩ := cf_cells g14
      obtain ⟨vs, hvs, hvn⟩ := vts_cell10 g15
      obtain ⟨us, hus⟩ := us_cell10 g16
      obtain ⟨ds, hds⟩ := bsl_cell17 g17
      simp only [List.cons.injEq, and_true] at e0 e1 e2 e3 e4 e5 e6 e7 e8 e9 e10 e11 e12 f0 f1 f2 f3
      subst e0 e1 e2 e3 e4 e5 e6 e7 e8 e9 e10 e11 e12 f0 f1 f2 f3
      have hb := bounds_u64 w5
      exact ⟨(⟨k0, k1, k2, k3, k4, k5, k6, k7, k8, k9, k10, k11, k12, r0, r1, r2, r3, cf.ch, cf.ep, c19, cf.fr, cf.jn, c22, c23, c24⟩, ⟨cf.ns, vs, us, ds⟩), rfl, hns.mono (fun k hk _ => hk), hvs, hus, hds, hvn, hb.1, hb.2, (bounds_u64 v2).1, hp0, hp1⟩
/-- A letter's slices are slices. -/
theorem LtM.forms {w : World} {K : Nat → Prop} {x : LV} {c : LC} (h : LtM w K x c) : ∃ ga gm gcp va vm vcp ua um ucp dda dm dcp, x.gn = .slice ga gm gcp ∧ x.vo = .slice va vm vcp ∧ x.up = .slice ua um ucp ∧ x.da = .slice dda dm dcp := by
  obtain ⟨ga, gcp, e1, _⟩ := h.ns
  obtain ⟨va, vcp, e2⟩ := h.vs.form
  obtain ⟨ua, ucp, e3⟩ := h.us.form
  obtain ⟨dda, dcp, e4, _⟩ := h.ds
  exact ⟨_, _, _, _, _, _, _, _, _, _, _, _, e1, e2, e3, e4⟩
end
end Go.Proofs.YtfblnflknmakpaaGreatDoor
