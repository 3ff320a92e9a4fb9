/-
  Package letter: field, for the other types of parts. Package letter: number, for the other types of numbers. Package letter: the other checks of parts: ballots, codes, commands, votes, data. A letter, plainly: its cells, what its slices hold, which parts are right, what is dropped. Package letter: data; partAt, for the other twelve parts. Package letter: what a part's right and drop do, for the other twelve parts; all eighteen are parts. Package letter: all eighteen parts have their law. Package letter: partsOf, of any kind.
-/
import Derived.Test.YtclfecninhipnaaGreatDoorLtr1
import Derived.Test.YtclfecninhipnaaGreatDoorBal1
import Derived.Test.YtclfecninhipnaaGreatDoorCmd1
import Derived.Test.YtclfecninhipnaaGreatDoorAcc1
import Derived.Test.YtclfecninhipnaaGreatDoorCnf2
namespace Go.Proofs.YtclfecninhipnaaGreatDoor
open Go.RowKit
set_option linter.unusedVariables false
set_option linter.unusedSimpArgs false


set_option maxRecDepth 100000 in
set_option maxHeartbeats 1000000 in
theorem field_u32 (w : World) (v1 v2 v3 v4 : Value) (h1 : v1.oneCell' = true) (h2 : v2.oneCell' = true) (h3 : v3.oneCell' = true) (h4 : v4.oneCell' = true) : Calls Tryz.prog 143 #[v1, v2, v3, v4] w (FieldE 196 197 198 199 156 206 207 157 v1 v2 v3 v4 w) := by
  have hmf : ∀ (fn : Fn) (first cap : Array Value) (w : World), (Instr.makeFunc fn first cap).run Tryz.prog w = .ok (.func fn first cap) w := fun _ _ _ _ => rfl
  have o1 := OneAt.new w 156 v1
  have o2 := OneAt.new (w.alloc (.cells #[v1] 156 (0, 0))) 206 v2
  have o3 := OneAt.new ((w.alloc (.cells #[v1] 156 (0, 0))).alloc (.cells #[v2] 206 (0, 0))) 207 v3
  have o4 := OneAt.new (((w.alloc (.cells #[v1] 156 (0, 0))).alloc (.cells #[v2] 206 (0, 0))).alloc (.cells #[v3] 207 (0, 0))) 157 v4
  have HK := Lib.hid (((((Kept.refl NoB w).alloc (.cells #[v1] 156 (0, 0))).alloc (.cells #[v2] 206 (0, 0))).alloc (.cells #[v3] 207 (0, 0))).alloc (.cells #[v4] 157 (0, 0)))
  have e2 : (w.alloc (.cells #[v1] 156 (0, 0))).heap.size = w.heap.size + 1 := by simp
  have e3 : ((w.alloc (.cells #[v1] 156 (0, 0))).alloc (.cells #[v2] 206 (0, 0))).heap.size = w.heap.size + 2 := by simp
  have e4 : (((w.alloc (.cells #[v1] 156 (0, 0))).alloc (.cells #[v2] 206 (0, 0))).alloc (.cells #[v3] 207 (0, 0))).heap.size = w.heap.size + 3 := by simp
  rw [e2] at o2
  rw [e3] at o3
  rw [e4] at o4
  have HO := Lib.hid (And.intro (((o1.alloc (.cells #[v2] 206 (0, 0))).alloc (.cells #[v3] 207 (0, 0))).alloc (.cells #[v4] 157 (0, 0))) (And.intro ((o2.alloc (.cells #[v3] 207 (0, 0))).alloc (.cells #[v4] 157 (0, 0))) (And.intro (o3.alloc (.cells #[v4] 157 (0, 0))) o4)))
  clear o1 o2 o3 o4 e2 e3 e4
  go_enter Tryz.func143, Tryz.ntmps143
  go_wp2
  exact bodyPost_ret (v := PartAg 196 197 198 199 w.heap.size (w.heap.size + 1) (w.heap.size + 2) (w.heap.size + 3)) (by simp [results, Tryz.results143, go_sem, PartAg]) rfl ⟨w.heap.size, Nat.le_refl _, rfl, HO.out.1.alloc _, HO.out.2.1.alloc _, HO.out.2.2.1.alloc _, HO.out.2.2.2.alloc _, HK.out.alloc _⟩
set_option maxRecDepth 100000 in
set_option maxHeartbeats 1000000 in
theorem field_err (w : World) (v1 v2 v3 v4 : Value) (h1 : v1.oneCell' = true) (h2 : v2.oneCell' = true) (h3 : v3.oneCell' = true) (h4 : v4.oneCell' = true) : Calls Tryz.prog 146 #[v1, v2, v3, v4] w (FieldE 200 201 202 203 159 209 210 162 v1 v2 v3 v4 w) := by
  have hmf : ∀ (fn : Fn) (first cap : Array Value) (w : World), (Instr.makeFunc fn first cap).run Tryz.prog w = .ok (.func fn first cap) w := fun _ _ _ _ => rfl
  have o1 := OneAt.new w 159 v1
  have o2 := OneAt.new (w.alloc (.cells #[v1] 159 (0, 0))) 209 v2
  have o3 := OneAt.new ((w.alloc (.cells #[v1] 159 (0, 0))).alloc (.cells #[v2] 209 (0, 0))) 210 v3
  have o4 := OneAt.new (((w.alloc (.cells #[v1] 159 (0, 0))).alloc (.cells #[v2] 209 (0, 0))).alloc (.cells #[v3] 210 (0, 0))) 162 v4
  have HK := Lib.hid (((((Kept.refl NoB w).alloc (.cells #[v1] 159 (0, 0))).alloc (.cells #[v2] 209 (0, 0))).alloc (.cells #[v3] 210 (0, 0))).alloc (.cells #[v4] 162 (0, 0)))
  have e2 : (w.alloc (.cells #[v1] 159 (0, 0))).heap.size = w.heap.size + 1 := by simp
  have e3 : ((w.alloc (.cells #[v1] 159 (0, 0))).alloc (.cells #[v2] 209 (0, 0))).heap.size = w.heap.size + 2 := by simp
  have e4 : (((w.alloc (.cells #[v1] 159 (0, 0))).alloc (.cells #[v2] 209 (0, 0))).alloc (.cells #[v3] 210 (0, 0))).heap.size = w.heap.size + 3 := by simp
  rw [e2] at o2
  rw [e3] at o3
  rw [e4] at o4
  have HO := Lib.hid (And.intro (((o1.alloc (.cells #[v2] 209 (0, 0))).alloc (.cells #[v3] 210 (0, 0))).alloc (.cells #[v4] 162 (0, 0))) (And.intro ((o2.alloc (.cells #[v3] 210 (0, 0))).alloc (.cells #[v4] 162 (0, 0))) (And.intro (o3.alloc (.cells #[v4] 162 (0, 0))) o4)))
  clear o1 o2 o3 o4 e2 e3 e4
  go_enter Tryz.func146, Tryz.ntmps146
  go_wp2
  exact bodyPost_ret (v := PartAg 200 201 202 203 w.heap.size (w.heap.size + 1) (w.heap.size + 2) (w.heap.size + 3)) (by simp [results, Tryz.results146, go_sem, PartAg]) rfl ⟨w.heap.size, Nat.le_refl _, rfl, HO.out.1.alloc _, HO.out.2.1.alloc _, HO.out.2.2.1.alloc _, HO.out.2.2.2.alloc _, HK.out.alloc _⟩
set_option maxRecDepth 100000 in
set_option maxHeartbeats 1000000 in
theorem field_cmd (w : World) (v1 v2 v3 v4 : Value) (h1 : v1.oneCell' = true) (h2 : v2.oneCell' = true) (h3 : v3.oneCell' = true) (h4 : v4.oneCell' = true) : Calls Tryz.prog 101 #[v1, v2, v3, v4] w (FieldE 148 149 150 151 164 165 166 168 v1 v2 v3 v4 w) := by
  have hmf : ∀ (fn : Fn) (first cap : Array Value) (w : World), (Instr.makeFunc fn first cap).run Tryz.prog w = .ok (.func fn first cap) w := fun _ _ _ _ => rfl
  have o1 := OneAt.new w 164 v1
  have o2 := OneAt.new (w.alloc (.cells #[v1] 164 (0, 0))) 165 v2
  have o3 := OneAt.new ((w.alloc (.cells #[v1] 164 (0, 0))).alloc (.cells #[v2] 165 (0, 0))) 166 v3
  have o4 := OneAt.new (((w.alloc (.cells #[v1] 164 (0, 0))).alloc (.cells #[v2] 165 (0, 0))).alloc (.cells #[v3] 166 (0, 0))) 168 v4
  have HK := Lib.hid (((((Kept.refl NoB w).alloc (.cells #[v1] 164 (0, 0))).alloc (.cells #[v2] 165 (0, 0))).alloc (.cells #[v3] 166 (0, 0))).alloc (.cells #[v4] 168 (0, 0)))
  have e2 : (w.alloc (.cells #[v1] 164 (0, 0))).heap.size = w.heap.size + 1 := by simp
  have e3 : ((w.alloc (.cells #[v1] 164 (0, 0))).alloc (.cells #[v2] 165 (0, 0))).heap.size = w.heap.size + 2 := by simp
  have e4 : (((w.alloc (.cells #[v1] 164 (0, 0))).alloc (.cells #[v2] 165 (0, 0))).alloc (.cells #[v3] 166 (0, 0))).heap.size = w.heap.size + 3 := by simp
  rw [e2] at o2
  rw [e3] at o3
  rw [e4] at o4
  have HO := Lib.hid (And.intro (((o1.alloc (.cells #[v2] 165 (0, 0))).alloc (.cells #[v3] 166 (0, 0))).alloc (.cells #[v4] 168 (0, 0))) (And.intro ((o2.alloc (.cells #[v3] 166 (0, 0))).alloc (.cells #[v4] 168 (0, 0))) (And.intro (o3.alloc (.cells #[v4] 168 (0, 0))) o4)))
  clear o1 o2 o3 o4 e2 e3 e4
  go_enter Tryz.func101, Tryz.ntmps101
  go_wp2
  exact bodyPost_ret (v := PartAg 148 149 150 151 w.heap.size (w.heap.size + 1) (w.heap.size + 2) (w.heap.size + 3)) (by simp [results, Tryz.results101, go_sem, PartAg]) rfl ⟨w.heap.size, Nat.le_refl _, rfl, HO.out.1.alloc _, HO.out.2.1.alloc _, HO.out.2.2.1.alloc _, HO.out.2.2.2.alloc _, HK.out.alloc _⟩
set_option maxRecDepth 100000 in
set_option maxHeartbeats 1000000 in
theorem field_cnf (w : World) (v1 v2 v3 v4 : Value) (h1 : v1.oneCell' = true) (h2 : v2.oneCell' = true) (h3 : v3.oneCell' = true) (h4 : v4.oneCell' = true) : Calls Tryz.prog 106 #[v1, v2, v3, v4] w (FieldE 154 155 156 157 115 170 171 173 v1 v2 v3 v4 w) := by
  have hmf : ∀ (fn : Fn) (first cap : Array Value) (w : World), (Instr.makeFunc fn first cap).run Tryz.prog w = .ok (.func fn first cap) w := fun _ _ _ _ => rfl
  have o1 := OneAt.new w 115 v1
  have o2 := OneAt.new (w.alloc (.cells #[v1] 115 (0, 0))) 170 v2
  have o3 := OneAt.new ((w.alloc (.cells #[v1] 115 (0, 0))).alloc (.cells #[v2] 170 (0, 0))) 171 v3
  have o4 := OneAt.new (((w.alloc (.cells #[v1] 115 (0, 0))).alloc (.cells #[v2] 170 (0, 0))).alloc (.cells #[v3] 171 (0, 0))) 173 v4
  have HK := Lib.hid (((((Kept.refl NoB w).alloc (.cells #[v1] 115 (0, 0))).alloc (.cells #[v2] 170 (0, 0))).alloc (.cells #[v3] 171 (0, 0))).alloc (.cells #[v4] 173 (0, 0)))
  have e2 : (w.alloc (.cells #[v1] 115 (0, 0))).heap.size = w.heap.size + 1 := by simp
  have e3 : ((w.alloc (.cells #[v1] 115 (0, 0))).alloc (.cells #[v2] 170 (0, 0))).heap.size = w.heap.size + 2 := by simp
  have e4 : (((w.alloc (.cells #[v1] 115 (0, 0))).alloc (.cells #[v2] 170 (0, 0))).alloc (.cells #[v3] 171 (0, 0))).heap.size = w.heap.size + 3 := by simp
  rw [e2] at o2
  rw [e3] at o3
  rw [e4] at o4
  have HO := Lib.hid (And.intro (((o1.alloc (.cells #[v2] 170 (0, 0))).alloc (.cells #[v3] 171 (0, 0))).alloc (.cells #[v4] 173 (0, 0))) (And.intro ((o2.alloc (.cells #[v3] 171 (0, 0))).alloc (.cells #[v4] 173 (0, 0))) (And.intro (o3.alloc (.cells #[v4] 173 (0, 0))) o4)))
  clear o1 o2 o3 o4 e2 e3 e4
  go_enter Tryz.func106, Tryz.ntmps106
  go_wp2
  exact bodyPost_ret (v := PartAg 154 155 156 157 w.heap.size (w.heap.size + 1) (w.heap.size + 2) (w.heap.size + 3)) (by simp [results, Tryz.results106, go_sem, PartAg]) rfl ⟨w.heap.size, Nat.le_refl _, rfl, HO.out.1.alloc _, HO.out.2.1.alloc _, HO.out.2.2.1.alloc _, HO.out.2.2.2.alloc _, HK.out.alloc _⟩
set_option maxRecDepth 100000 in
set_option maxHeartbeats 1000000 in
theorem field_vts (w : World) (v1 v2 v3 v4 : Value) (h1 : v1.oneCell' = true) (h2 : v2.oneCell' = true) (h3 : v3.oneCell' = true) (h4 : v4.oneCell' = true) : Calls Tryz.prog 110 #[v1, v2, v3, v4] w (FieldE 160 161 162 163 175 176 177 179 v1 v2 v3 v4 w) := by
  have hmf : ∀ (fn : Fn) (first cap : Array Value) (w : World), (Instr.makeFunc fn first cap).run Tryz.prog w = .ok (.func fn first cap) w := fun _ _ _ _ => rfl
  have o1 := OneAt.new w 175 v1
  have o2 := OneAt.new (w.alloc (.cells #[v1] 175 (0, 0))) 176 v2
  have o3 := OneAt.new ((w.alloc (.cells #[v1] 175 (0, 0))).alloc (.cells #[v2] 176 (0, 0))) 177 v3
  have o4 := OneAt.new (((w.alloc (.cells #[v1] 175 (0, 0))).alloc (.cells #[v2] 176 (0, 0))).alloc (.cells #[v3] 177 (0, 0))) 179 v4
  have HK := Lib.hid (((((Kept.refl NoB w).alloc (.cells #[v1] 175 (0, 0))).alloc (.cells #[v2] 176 (0, 0))).alloc (.cells #[v3] 177 (0, 0))).alloc (.cells #[v4] 179 (0, 0)))
  have e2 : (w.alloc (.cells #[v1] 175 (0, 0))).heap.size = w.heap.size + 1 := by simp
  have e3 : ((w.alloc (.cells #[v1] 175 (0, 0))).alloc (.cells #[v2] 176 (0, 0))).heap.size = w.heap.size + 2 := by simp
  have e4 : (((w.alloc (.cells #[v1] 175 (0, 0))).alloc (.cells #[v2] 176 (0, 0))).alloc (.cells #[v3] 177 (0, 0))).heap.size = w.heap.size + 3 := by simp
  rw [e2] at o2
  rw [e3] at o3
  rw [e4] at o4
  have HO := Lib.hid (And.intro (((o1.alloc (.cells #[v2] 176 (0, 0))).alloc (.cells #[v3] 177 (0, 0))).alloc (.cells #[v4] 179 (0, 0))) (And.intro ((o2.alloc (.cells #[v3] 177 (0, 0))).alloc (.cells #[v4] 179 (0, 0))) (And.intro (o3.alloc (.cells #[v4] 179 (0, 0))) o4)))
  clear o1 o2 o3 o4 e2 e3 e4
  go_enter Tryz.func110, Tryz.ntmps110
  go_wp2
  exact bodyPost_ret (v := PartAg 160 161 162 163 w.heap.size (w.heap.size + 1) (w.heap.size + 2) (w.heap.size + 3)) (by simp [results, Tryz.results110, go_sem, PartAg]) rfl ⟨w.heap.size, Nat.le_refl _, rfl, HO.out.1.alloc _, HO.out.2.1.alloc _, HO.out.2.2.1.alloc _, HO.out.2.2.2.alloc _, HK.out.alloc _⟩
set_option maxRecDepth 100000 in
set_option maxHeartbeats 1000000 in
theorem field_dat (w : World) (v1 v2 v3 v4 : Value) (h1 : v1.oneCell' = true) (h2 : v2.oneCell' = true) (h3 : v3.oneCell' = true) (h4 : v4.oneCell' = true) : Calls Tryz.prog 177 #[v1, v2, v3, v4] w (FieldE 209 210 211 212 224 228 226 231 v1 v2 v3 v4 w) := by
  have hmf : ∀ (fn : Fn) (first cap : Array Value) (w : World), (Instr.makeFunc fn first cap).run Tryz.prog w = .ok (.func fn first cap) w := fun _ _ _ _ => rfl
  have o1 := OneAt.new w 224 v1
  have o2 := OneAt.new (w.alloc (.cells #[v1] 224 (0, 0))) 228 v2
  have o3 := OneAt.new ((w.alloc (.cells #[v1] 224 (0, 0))).alloc (.cells #[v2] 228 (0, 0))) 226 v3
  have o4 := OneAt.new (((w.alloc (.cells #[v1] 224 (0, 0))).alloc (.cells #[v2] 228 (0, 0))).alloc (.cells #[v3] 226 (0, 0))) 231 v4
  have HK := Lib.hid (((((Kept.refl NoB w).alloc (.cells #[v1] 224 (0, 0))).alloc (.cells #[v2] 228 (0, 0))).alloc (.cells #[v3] 226 (0, 0))).alloc (.cells #[v4] 231 (0, 0)))
  have e2 : (w.alloc (.cells #[v1] 224 (0, 0))).heap.size = w.heap.size + 1 := by simp
  have e3 : ((w.alloc (.cells #[v1] 224 (0, 0))).alloc (.cells #[v2] 228 (0, 0))).heap.size = w.heap.size + 2 := by simp
  have e4 : (((w.alloc (.cells #[v1] 224 (0, 0))).alloc (.cells #[v2] 228 (0, 0))).alloc (.cells #[v3] 226 (0, 0))).heap.size = w.heap.size + 3 := by simp
  rw [e2] at o2
  rw [e3] at o3
  rw [e4] at o4
  have HO := Lib.hid (And.intro (((o1.alloc (.cells #[v2] 228 (0, 0))).alloc (.cells #[v3] 226 (0, 0))).alloc (.cells #[v4] 231 (0, 0))) (And.intro ((o2.alloc (.cells #[v3] 226 (0, 0))).alloc (.cells #[v4] 231 (0, 0))) (And.intro (o3.alloc (.cells #[v4] 231 (0, 0))) o4)))
  clear o1 o2 o3 o4 e2 e3 e4
  go_enter Tryz.func177, Tryz.ntmps177
  go_wp2
  exact bodyPost_ret (v := PartAg 209 210 211 212 w.heap.size (w.heap.size + 1) (w.heap.size + 2) (w.heap.size + 3)) (by simp [results, Tryz.results177, go_sem, PartAg]) rfl ⟨w.heap.size, Nat.le_refl _, rfl, HO.out.1.alloc _, HO.out.2.1.alloc _, HO.out.2.2.1.alloc _, HO.out.2.2.2.alloc _, HK.out.alloc _⟩
end Go.Proofs.YtclfecninhipnaaGreatDoor
namespace Go.Proofs.YtclfecninhipnaaGreatDoor
open Go.RowKit
set_option linter.unusedVariables false
set_option linter.unusedSimpArgs false


set_option maxRecDepth 100000 in
set_option maxHeartbeats 1000000 in
theorem number_u32 (w : World) (wd : Int) (v1 v4 : Value) (h1 : v1.oneCell' = true) (h4 : v4.oneCell' = true) : Calls Tryz.prog 94 #[.int .i64 wd, v1, v4] w (NumberE 196 197 198 199 141 142 156 206 207 157 wd v1 v4 w) := by
  have hmf : ∀ (fn : Fn) (first cap : Array Value) (w : World), (Instr.makeFunc fn first cap).run Tryz.prog w = .ok (.func fn first cap) w := fun _ _ _ _ => rfl
  obtain ⟨W, hW⟩ : ∃ W, W = (w.alloc (.cells #[.int .i64 wd] 3 (0, 0))).alloc (.cells #[.nilFunc, .nilFunc, .nilFunc, .nilFunc] 112 (0, 0)) := ⟨_, rfl⟩
  have hsz : W.heap.size = w.heap.size + 2 := by rw [hW]; simp
  have o1 : OneAt 3 w.heap.size (.int .i64 wd) W := by rw [hW]; exact (OneAt.new w _ _).alloc _
  have o2 : W.heap[w.heap.size + 1]? = some (.cells #[.nilFunc, .nilFunc, .nilFunc, .nilFunc] 112 (0, 0)) := by
    have := heap_alloc_new (w.alloc (.cells #[.int .i64 wd] 3 (0, 0))) (.cells #[.nilFunc, .nilFunc, .nilFunc, .nilFunc] 112 (0, 0))
    rw [show (w.alloc (.cells #[.int .i64 wd] 3 (0, 0))).heap.size = w.heap.size + 1 by simp] at this
    rw [hW]; exact this
  have HKW : Hid (Kept NoB w W) := Lib.hid (by rw [hW]; exact ((Kept.refl NoB w).alloc _).alloc _)
  have HO1 := Lib.hid o1
  have HO2 := Lib.hid o2
  have HSZ := Lib.hid hsz
  have HW := Lib.hid hW
  have HF := Lib.hid (field_u32 W v1 (.func (.func 141) #[] #[pb w.heap.size]) (.func (.func 142) #[] #[pb w.heap.size]) v4 h1 rfl rfl h4)
  clear hW hsz o1 o2
  go_enter Tryz.func94, Tryz.ntmps94
  go_wp2_with fail
  rw [← HW.out]
  go_wp2_with fail
  refine HF.out.mono ?_
  rintro e w1 ⟨s, hs, rfl, a1, a2, a3, a4, hk⟩
  have HA := Lib.hid (And.intro a1 (And.intro a2 (And.intro a3 a4)))
  have HB := Lib.hid (HO1.out.no hk)
  have hr := hk.heap (fun h => h) HO2.out
  have HR := Lib.hid hr
  obtain ⟨r0, r1, r2, r3⟩ := cells4p hr
  have z := blkU_frozen hr
  have HK1 := Lib.hid (HKW.out.trans hk (fun _ _ h => h))
  have HS : Hid (w.heap.size + 2 ≤ s) := Lib.hid (by have := HSZ.out; omega)
  unfold PartAg
  clear a1 a2 a3 a4 hk hr hs
  go_wp2
  have hF := four10_at HR.out (.func (.func 196) #[] #[pb s, pb (s + 3)]) (.func (.func 197) #[] #[pb (s + 1), pb (s + 3)]) (.func (.func 198) #[] #[pb (s + 2), pb (s + 3)]) (.func (.func 199) #[] #[pb (s + 3)])
  have hK := HK1.out.four10 (b := w.heap.size + 1) (.inr (by omega)) 0 (.func (.func 196) #[] #[pb s, pb (s + 3)]) (.func (.func 197) #[] #[pb (s + 1), pb (s + 3)]) (.func (.func 198) #[] #[pb (s + 2), pb (s + 3)]) (.func (.func 199) #[] #[pb (s + 3)])
  have hO : ∀ (t : TypeId) (b : Nat) (v : Value), OneAt t b v w1 → b ≠ w.heap.size + 1 → OneAt t b v (four10 w1 (w.heap.size + 1) 0 (.func (.func 196) #[] #[pb s, pb (s + 3)]) (.func (.func 197) #[] #[pb (s + 1), pb (s + 3)]) (.func (.func 198) #[] #[pb (s + 2), pb (s + 3)]) (.func (.func 199) #[] #[pb (s + 3)])) := fun t b v h hb => h.kept ((Kept.refl (fun k => k = w.heap.size + 1) w1).four10 (b := w.heap.size + 1) (.inl rfl) 0 (.func (.func 196) #[] #[pb s, pb (s + 3)]) (.func (.func 197) #[] #[pb (s + 1), pb (s + 3)]) (.func (.func 198) #[] #[pb (s + 2), pb (s + 3)]) (.func (.func 199) #[] #[pb (s + 3)])) hb
  clear r0 r1 r2 r3 z
  obtain ⟨r0, r1, r2, r3⟩ := cells4p hF
  clear hF
  unfold four10 at r0 r1 r2 r3 hK hO
  simp only [Nat.zero_add] at r0 r1 r2 r3 hK hO
  generalize hW : World.setCell _ _ _ = W3 at r0 r1 r2 r3 hK hO ⊢
  have hs := HS.out
  exact bodyPost_ret (v := PartAg 196 197 198 199 s (s + 1) (s + 2) (s + 3)) (by simp [results, Tryz.results94, go_sem, PartAg, r0, r1, r2, r3]) rfl ⟨s, w.heap.size, by omega, Nat.le_refl _, rfl, hO _ _ _ HA.out.1 (by omega), hO _ _ _ HA.out.2.1 (by omega), hO _ _ _ HA.out.2.2.1 (by omega), hO _ _ _ HA.out.2.2.2 (by omega), hO _ _ _ HB.out (by omega), hK⟩
set_option maxRecDepth 100000 in
set_option maxHeartbeats 1000000 in
theorem number_err (w : World) (wd : Int) (v1 v4 : Value) (h1 : v1.oneCell' = true) (h4 : v4.oneCell' = true) : Calls Tryz.prog 97 #[.int .i64 wd, v1, v4] w (NumberE 200 201 202 203 144 145 159 209 210 162 wd v1 v4 w) := by
  have hmf : ∀ (fn : Fn) (first cap : Array Value) (w : World), (Instr.makeFunc fn first cap).run Tryz.prog w = .ok (.func fn first cap) w := fun _ _ _ _ => rfl
  obtain ⟨W, hW⟩ : ∃ W, W = (w.alloc (.cells #[.int .i64 wd] 3 (0, 0))).alloc (.cells #[.nilFunc, .nilFunc, .nilFunc, .nilFunc] 112 (0, 0)) := ⟨_, rfl⟩
  have hsz : W.heap.size = w.heap.size + 2 := by rw [hW]; simp
  have o1 : OneAt 3 w.heap.size (.int .i64 wd) W := by rw [hW]; exact (OneAt.new w _ _).alloc _
  have o2 : W.heap[w.heap.size + 1]? = some (.cells #[.nilFunc, .nilFunc, .nilFunc, .nilFunc] 112 (0, 0)) := by
    have := heap_alloc_new (w.alloc (.cells #[.int .i64 wd] 3 (0, 0))) (.cells #[.nilFunc, .nilFunc, .nilFunc, .nilFunc] 112 (0, 0))
    rw [show (w.alloc (.cells #[.int .i64 wd] 3 (0, 0))).heap.size = w.heap.size + 1 by simp] at this
    rw [hW]; exact this
  have HKW : Hid (Kept NoB w W) := Lib.hid (by rw [hW]; exact ((Kept.refl NoB w).alloc _).alloc _)
  have HO1 := Lib.hid o1
  have HO2 := Lib.hid o2
  have HSZ := Lib.hid hsz
  have HW := Lib.hid hW
  have HF := Lib.hid (field_err W v1 (.func (.func 144) #[] #[pb w.heap.size]) (.func (.func 145) #[] #[pb w.heap.size]) v4 h1 rfl rfl h4)
  clear hW hsz o1 o2
  go_enter Tryz.func97, Tryz.ntmps97
  go_wp2_with fail
  rw [← HW.out]
  go_wp2_with fail
  refine HF.out.mono ?_
  rintro e w1 ⟨s, hs, rfl, a1, a2, a3, a4, hk⟩
  have HA := Lib.hid (And.intro a1 (And.intro a2 (And.intro a3 a4)))
  have HB := Lib.hid (HO1.out.no hk)
  have hr := hk.heap (fun h => h) HO2.out
  have HR := Lib.hid hr
  obtain ⟨r0, r1, r2, r3⟩ := cells4p hr
  have z := blkU_frozen hr
  have HK1 := Lib.hid (HKW.out.trans hk (fun _ _ h => h))
  have HS : Hid (w.heap.size + 2 ≤ s) := Lib.hid (by have := HSZ.out; omega)
  unfold PartAg
  clear a1 a2 a3 a4 hk hr hs
  go_wp2
  have hF := four10_at HR.out (.func (.func 200) #[] #[pb s, pb (s + 3)]) (.func (.func 201) #[] #[pb (s + 1), pb (s + 3)]) (.func (.func 202) #[] #[pb (s + 2), pb (s + 3)]) (.func (.func 203) #[] #[pb (s + 3)])
  have hK := HK1.out.four10 (b := w.heap.size + 1) (.inr (by omega)) 0 (.func (.func 200) #[] #[pb s, pb (s + 3)]) (.func (.func 201) #[] #[pb (s + 1), pb (s + 3)]) (.func (.func 202) #[] #[pb (s + 2), pb (s + 3)]) (.func (.func 203) #[] #[pb (s + 3)])
  have hO : ∀ (t : TypeId) (b : Nat) (v : Value), OneAt t b v w1 → b ≠ w.heap.size + 1 → OneAt t b v (four10 w1 (w.heap.size + 1) 0 (.func (.func 200) #[] #[pb s, pb (s + 3)]) (.func (.func 201) #[] #[pb (s + 1), pb (s + 3)]) (.func (.func 202) #[] #[pb (s + 2), pb (s + 3)]) (.func (.func 203) #[] #[pb (s + 3)])) := fun t b v h hb => h.kept ((Kept.refl (fun k => k = w.heap.size + 1) w1).four10 (b := w.heap.size + 1) (.inl rfl) 0 (.func (.func 200) #[] #[pb s, pb (s + 3)]) (.func (.func 201) #[] #[pb (s + 1), pb (s + 3)]) (.func (.func 202) #[] #[pb (s + 2), pb (s + 3)]) (.func (.func 203) #[] #[pb (s + 3)])) hb
  clear r0 r1 r2 r3 z
  obtain ⟨r0, r1, r2, r3⟩ := cells4p hF
  clear hF
  unfold four10 at r0 r1 r2 r3 hK hO
  simp only [Nat.zero_add] at r0 r1 r2 r3 hK hO
  generalize hW : World.setCell _ _ _ = W3 at r0 r1 r2 r3 hK hO ⊢
  have hs := HS.out
  exact bodyPost_ret (v := PartAg 200 201 202 203 s (s + 1) (s + 2) (s + 3)) (by simp [results, Tryz.results97, go_sem, PartAg, r0, r1, r2, r3]) rfl ⟨s, w.heap.size, by omega, Nat.le_refl _, rfl, hO _ _ _ HA.out.1 (by omega), hO _ _ _ HA.out.2.1 (by omega), hO _ _ _ HA.out.2.2.1 (by omega), hO _ _ _ HA.out.2.2.2 (by omega), hO _ _ _ HB.out (by omega), hK⟩
end Go.Proofs.YtclfecninhipnaaGreatDoor
namespace Go.Proofs.YtclfecninhipnaaGreatDoor
open Go.RowKit
set_option linter.unusedVariables false
set_option linter.unusedSimpArgs false

/-- Is a number a ballot? -/
def balB (b : Int) : Bool := decide (1 ≤ b / 8 ∧ b / 8 ≤ 1152921504606846975 ∧ 1 ≤ b % 8 ∧ b % 8 ≤ 5)
theorem balB_fine (b : Int) : balB b = true ↔ Fine (b / 8) (b % 8) := by unfold balB Fine; rw [lastR_eq]; simp
theorem isBallot_any (w : World) (b : Int) (h0 : 0 ≤ b) (hm : b ≤ 18446744073709551615) : Calls Tryz.prog 82 #[.int .u64 b] w (YesNo (balB b) w) := by
  cases h : balB b with
  | true => exact bIs_yes b w h0 hm ((balB_fine b).1 h)
  | false => exact bIs_no b w h0 hm (fun hf => by rw [(balB_fine b).2 hf] at h; cases h)
/-- May a command be? -/
def cmdB (k ch ep nd : Int) : Bool := decide ((k = 0 ∧ ch = 0 ∧ ep = 0 ∧ nd = 0) ∨ (1 ≤ k ∧ k ≤ 4 ∧ 0 ≤ ch ∧ ch ≤ 3 ∧ 1 ≤ ep ∧ 1 ≤ nd ∧ nd ≤ 24))
theorem cmdB_vld (k ch ep nd : Int) : cmdB k ch ep nd = true ↔ Vld k ch ep nd := by unfold cmdB Vld; simp
set_option maxRecDepth 100000 in
theorem isCommand_any (k ch ep nd : Int) (w : World) (he : 0 ≤ ep) : Calls Tryz.prog 102 #[.agg #[.int .i64 k, .int .i64 ch, .int .u64 ep, .int .i64 nd]] w (YesNoK (cmdB k ch ep nd) w) := by
  have HC := Lib.hid (fun w => Check_any k ch ep nd w he)
  obtain ⟨d, hd⟩ : ∃ d, d = cmdB k ch ep nd := ⟨_, rfl⟩
  have HD : Hid (∀ x, Chk k ch ep nd x → (x == 0) = d) := Lib.hid (fun x hx => by
    rw [hd]
    cases h : cmdB k ch ep nd with
    | true => have := (cmdB_vld k ch ep nd).1 h; unfold Chk Vld at hx; unfold Vld at this; simp; omega
    | false =>
      have : ¬ Vld k ch ep nd := fun hv => by rw [(cmdB_vld k ch ep nd).2 hv] at h; cases h
      rcases hx with ⟨_, rfl⟩ | ⟨_, _, ⟨hv, _⟩ | ⟨_, rfl⟩⟩
      · rfl
      · exact absurd hv this
      · rfl)
  rw [← hd]
  clear hd
  go_enter Tryz.func102, Tryz.ntmps102
  go_wp2_with fail
  refine (HC.out _).mono ?_
  rintro e w1 ⟨x, hx, rfl, hk⟩
  have HX := Lib.hid (HD.out x hx)
  have HK := Lib.hid (((Kept.refl NoB w).alloc (.cells #[.int .i64 k, .int .i64 ch, .int .u64 ep, .int .i64 nd] 41 (0, 0))).trans hk (fun _ _ h => h))
  clear hx hk
  go_wp2
  go_ret
  exact ⟨by show Ending.returned (Value.bool (x == 0)) = _; rw [HX.out], HK.out⟩
theorem ent_isBallot : Enters17 82 := fun args w => by kernel_rfl
theorem ent_isCommand : Enters17 102 := fun args w => by kernel_rfl
theorem ent_confRight : Enters17 48 := fun args w => by kernel_rfl
theorem ent_areVotes : Enters17 111 := fun args w => by kernel_rfl
theorem ent_any_u32 : Enters17 95 := fun args w => by kernel_rfl
theorem ent_upto_err : Enters17 147 := fun args w => by kernel_rfl
theorem ent_data_1 : Enters17 174 := fun args w => by kernel_rfl
set_option maxRecDepth 100000 in
theorem anyU32_any (w : World) (n : Int) : Calls Tryz.prog 95 #[.int .u32 n] w (YesNo true w) := by
  go_enter Tryz.func95, Tryz.ntmps95
  go_wp2
  go_ret
  exact ⟨rfl, rfl⟩
set_option maxRecDepth 100000 in
theorem uptoErr_any (w : World) (n m : Int) (b : Nat) (hc : w.cell? ⟨b, 0, none⟩ = some (.int .i64 m)) : Calls Tryz.prog 147 #[.int .i64 n, .pointer (some ⟨b, 0, none⟩)] w (YesNo (decide (0 ≤ n) && decide (n ≤ m)) w) := by
  obtain ⟨b1, h1⟩ : ∃ b1, b1 = decide (0 ≤ n) := ⟨_, rfl⟩
  obtain ⟨b2, h2⟩ : ∃ b2, b2 = decide (n ≤ m) := ⟨_, rfl⟩
  have g1 := h1.symm
  have g2 := h2.symm
  clear h1 h2
  rw [g1, g2]
  cases b1
  · go_enter Tryz.func147, Tryz.ntmps147
    go_wp2
    go_ret
    exact ⟨rfl, rfl⟩
  · go_enter Tryz.func147, Tryz.ntmps147
    go_wp2
    go_ret
    exact ⟨rfl, rfl⟩
set_option maxRecDepth 100000 in
theorem upTo_err (w : World) (m : Int) : Calls Tryz.prog 98 #[.int .i64 m] w fun e w' => e = .returned (.func (.func 147) #[] #[.pointer (some ⟨w.heap.size, 0, none⟩)]) ∧ w' = w.alloc (.cells #[.int .i64 m] 29) := by
  have hmf : ∀ (fn : Fn) (first cap : Array Value) (w : World), (Instr.makeFunc fn first cap).run Tryz.prog w = .ok (.func fn first cap) w := fun _ _ _ _ => rfl
  go_enter Tryz.func98, Tryz.ntmps98
  go_wp2
  go_ret
  exact ⟨rfl, rfl⟩
set_option maxRecDepth 100000 in
theorem data1_any (w : World) (v : Value) (l : List Int) (F : Nat → Prop) (m : Int) (b : Nat) (h : BSl w F v l) (hc : w.cell? ⟨b, 0, none⟩ = some (.int .i64 m)) : Calls Tryz.prog 174 #[v, .pointer (some ⟨b, 0, none⟩)] w (YesNo (decide ((l.length : Int) ≤ m)) w) := by
  obtain ⟨a, c, rfl, _⟩ := h
  go_enter Tryz.func174, Tryz.ntmps174
  go_wp2
  go_ret
  exact ⟨rfl, rfl⟩
/-- A vote's numbers are numbers. -/
def VtNm (v : Vt) : Prop := 0 ≤ v.b ∧ v.b ≤ 18446744073709551615 ∧ 0 ≤ v.ep
/-- Votes of a master, behind a slot. -/
def areVsF : Int → List Vt → Bool
  | _, [] => true
  | a, v :: r => !(decide (v.s ≤ a)) && (!(decide (512 ≤ v.s)) && (balB v.b && (cmdB v.k v.ch v.ep v.nd && areVsF v.s r)))
def areVs (l : List Vt) : Bool := areVsF (-1) l
theorem areVsF_at {l : List Vt} {k : Nat} (h : k < l.length) (a : Int) : areVsF a (l.drop k) = (!(decide (l[k].s ≤ a)) && (!(decide (512 ≤ l[k].s)) && (balB l[k].b && (cmdB l[k].k l[k].ch l[k].ep l[k].nd && areVsF l[k].s (l.drop (k + 1)))))) := by
  rw [List.drop_eq_getElem_cons h]; rfl
theorem cells6v {w : World} {b : Nat} {x0 x1 x2 x3 x4 x5 : Value} {t : TypeId} (h : w.heap[b]? = some (.cells #[x0, x1, x2, x3, x4, x5] t (0, 0))) :
    w.cell? ⟨b, 0, none⟩ = some x0 ∧ w.cell? ⟨b, 1, none⟩ = some x1 ∧ w.cell? ⟨b, 2, none⟩ = some x2 ∧ w.cell? ⟨b, 3, none⟩ = some x3 ∧ w.cell? ⟨b, 4, none⟩ = some x4 ∧ w.cell? ⟨b, 5, none⟩ = some x5 :=
  ⟨cell_of_row _ _ 0 _ _ _ h, cell_of_row _ _ 1 _ _ _ h, cell_of_row _ _ 2 _ _ _ h, cell_of_row _ _ 3 _ _ _ h, cell_of_row _ _ 4 _ _ _ h, cell_of_row _ _ 5 _ _ _ h⟩
theorem VRd.at10 {w : World} {F : Nat → Prop} {a : Option Addr} {n c : Nat} {l : List Vt} (h : VRd w F (.slice a n c) l) {j : Nat} (hj : j < l.length) : ∃ b o, a = some ⟨b, o, none⟩ ∧ F b ∧ b < w.heap.size ∧ VtAt w b (o + j * 6) l[j] := by
  obtain ⟨a', c', e, h2, h3, h4, h5⟩ := h
  injection e with e1 e2 e3
  subst e1 e3
  obtain ⟨b, o, e, hF, hb, hc⟩ := h5 (by omega)
  exact ⟨b, o, e, hF, hb, hc j hj⟩
set_option maxRecDepth 100000 in
set_option maxHeartbeats 2000000 in
theorem areVotes_any (w : World) (v : Value) (l : List Vt) (H : Nat → Prop) (h : VRd w H v l) (hv : ∀ x ∈ l, VtNm x) : Calls Tryz.prog 111 #[v] w (YesNoK (areVs l) w) := by
  obtain ⟨a, c, rfl⟩ := h.form
  have HH := Lib.hid h
  have HV := Lib.hid hv
  have hl : (l.length : Int) ≤ 9223372036854775807 := by have := h.len; omega
  clear h hv
  go_enter Tryz.func111, Tryz.ntmps111
  go_wp2
  go_loopw [3, 8] (fun av i wr => ∃ (k : Nat) (ah : Int), av = .int .i64 ah ∧ i = .int .i64 k ∧ k ≤ l.length ∧ areVsF ah (l.drop k) = areVs l ∧ Kept NoB w wr) (fun _ i _ => l.length - (RowKit.intOf i).toNat)
  case atStart => exact ⟨0, -1, rfl, rfl, Nat.zero_le _, rfl, Kept.refl _ _⟩
  case round =>
    obtain ⟨k, ah, rfl, rfl, hk, hA, hK⟩ := hrel
    have HA := Lib.hid hA
    have HK := Lib.hid hK
    have hk0 : (0 : Int) ≤ (k : Int) := by omega
    clear hA hK
    by_cases hlt : k < l.length
    · obtain ⟨b, o, rfl, _, _, e0, e1, e2, e3, e4, e5⟩ := (HH.out.no HK.out).at10 hlt
      have HF := HV.out l[k] (List.getElem_mem _)
      have hS := areVsF_at hlt ah
      rw [HA.out] at hS
      have hk1 : (k : Int) < (l.length : Int) := by omega
      obtain ⟨y, hy⟩ : ∃ y, y = l[k] := ⟨_, rfl⟩
      rw [← hy] at e0 e1 e2 e3 e4 e5 hS HF
      obtain ⟨y0, y1, y2, y3, y4, y5⟩ := y
      simp only at e0 e1 e2 e3 e4 e5 hS
      obtain ⟨f0, f1, f2⟩ := HF
      simp only at f0 f1 f2
      have HB := Lib.hid (fun w' => isBallot_any w' y1 f0 f1)
      have HC := Lib.hid (fun w' => isCommand_any y2 y3 y4 y5 w' f2)
      obtain ⟨W, hW⟩ : ∃ W, W = wr.alloc (.cells #[.int .i64 y0, .int .u64 y1, .int .i64 y2, .int .i64 y3, .int .u64 y4, .int .i64 y5] 137 (0, 0)) := ⟨_, rfl⟩
      have hg := heap_alloc_new wr (.cells #[.int .i64 y0, .int .u64 y1, .int .i64 y2, .int .i64 y3, .int .u64 y4, .int .i64 y5] 137 (0, 0))
      have hkW := HK.out.alloc (.cells #[.int .i64 y0, .int .u64 y1, .int .i64 y2, .int .i64 y3, .int .u64 y4, .int .i64 y5] 137 (0, 0))
      have HG := Lib.hid hg
      have HKW := Lib.hid hkW
      obtain ⟨c0, c1, c2, c3, c4, c5⟩ := cells6v hg
      obtain ⟨d1, h1⟩ : ∃ d1, d1 = decide (y0 ≤ ah) := ⟨_, rfl⟩
      obtain ⟨d2, h2⟩ : ∃ d2, d2 = decide (512 ≤ y0) := ⟨_, rfl⟩
      obtain ⟨d3, h3⟩ : ∃ d3, d3 = balB y1 := ⟨_, rfl⟩
      obtain ⟨d4, h4⟩ : ∃ d4, d4 = cmdB y2 y3 y4 y5 := ⟨_, rfl⟩
      rw [← h1, ← h2, ← h3, ← h4] at hS
      rw [← h3] at HB
      rw [← h4] at HC
      have g1 := h1.symm
      have g2 := h2.symm
      have HS := Lib.hid hS
      clear hy hW hg hkW h1 h2 h3 h4 hS f0 f1 f2
      cases d1 with
      | true =>
        go_wp2
        go_ret
        exact ⟨by rw [HS.out]; rfl, HKW.out⟩
      | false =>
        cases d2 with
        | true =>
          go_wp2
          go_ret
          exact ⟨by rw [HS.out]; rfl, HKW.out⟩
        | false =>
          cases d3 with
          | false =>
            go_wp2_with (go_at_call 82; refine (HB.out _).mono ?_; rintro e w1 ⟨rfl, rfl⟩)
            go_ret
            exact ⟨by rw [HS.out]; rfl, HKW.out⟩
          | true =>
            go_wp2_with fail
            refine (HB.out _).mono ?_
            rintro e w1 ⟨rfl, rfl⟩
            go_wp2_with fail
            refine (HC.out _).mono ?_
            rintro e w1 ⟨rfl, hk1⟩
            have HK1 := Lib.hid (HKW.out.trans hk1 (fun _ _ h => h))
            obtain ⟨c0, c1, c2, c3, c4, c5⟩ := cells6v (hk1.heap (fun h => h) HG.out)
            clear hk1
            cases d4 with
            | false =>
              go_wp2
              go_ret
              exact ⟨by rw [HS.out]; rfl, HK1.out⟩
            | true =>
              go_wp2
              exact ⟨⟨k + 1, y0, rfl, by go_num, by omega, HS.out.symm, HK1.out⟩, by simp [RowKit.intOf]; omega⟩
    · obtain rfl : k = l.length := by omega
      have HR : Hid (areVs l = true) := Lib.hid (by rw [← HA.out, List.drop_length]; rfl)
      go_wp2
      go_ret
      exact ⟨by rw [HR.out]; rfl, HK.out⟩
end Go.Proofs.YtclfecninhipnaaGreatDoor
namespace Go.Proofs.YtclfecninhipnaaGreatDoor
open Go.RowKit
set_option linter.unusedVariables false
set_option linter.unusedSimpArgs false

/-- The twenty-five cells of a letter. -/
structure LV where
  kd : Int
  fr : Int
  to : Int
  ch : Int
  ep : Int
  ba : Int
  nu : Int
  se : Int
  dn : Int
  ve : Int
  sl : Int
  ke : Int
  co : Int
  ck : Int
  cc : Int
  ce : Int
  cn : Int
  gc : Int
  ge : Int
  gn : Value
  gf : Bool
  gj : Int
  vo : Value
  up : Value
  da : Value
def lcs (x : LV) : Array Value := #[.int .i64 x.kd, .int .i64 x.fr, .int .i64 x.to, .int .i64 x.ch, .int .u64 x.ep, .int .u64 x.ba, .int .u64 x.nu, .int .u64 x.se, .int .u64 x.dn, .int .u64 x.ve, .int .i64 x.sl, .int .u32 x.ke, .int .i64 x.co, .int .i64 x.ck, .int .i64 x.cc, .int .u64 x.ce, .int .i64 x.cn, .int .i64 x.gc, .int .u64 x.ge, x.gn, .bool x.gf, .int .i64 x.gj, x.vo, x.up, x.da]
theorem lcs_size (x : LV) : (lcs x).size = 25 := rfl
def lval (x : LV) : Value := .agg (lcs x)
def lv0 : LV := ⟨0, 0, 0, 0, 0, 0, 0, 0, 0, 0, 0, 0, 0, 0, 0, 0, 0, 0, 0, .slice none 0 0, false, 0, .slice none 0 0, .slice none 0 0, .slice none 0 0⟩
/-- What its four slices hold. -/
structure LC where
  ns : List Int
  vs : List Vt
  us : List Up
  ds : List Int


/-- The slices hold that, in blocks of H; the numbers are numbers. -/
structure LtM (w : World) (H : Nat → Prop) (x : LV) (c : LC) : Prop where
  ns : NSl w H x.gn c.ns
  vs : VRd w H x.vo c.vs
  us : UsAt w H x.up c.us
  ds : BSl w H x.da c.ds
  vok : ∀ v ∈ c.vs, VtNm v
  ba0 : 0 ≤ x.ba
  ba1 : x.ba ≤ 18446744073709551615
  ce0 : 0 ≤ x.ce
  ge0 : 0 ≤ x.ge
  ge1 : x.ge ≤ topE
theorem LtM.kept {S H : Nat → Prop} {w w' : World} {x : LV} {c : LC} (h : LtM w H x c) (hk : Kept S w w') (hs : ∀ k, H k → ¬ S k) : LtM w' H x c :=
  ⟨h.ns.kept hk (fun k _ hH => hs k hH), h.vs.kept hk hs, h.us.kept hk hs, h.ds.kept hk hs, h.vok, h.ba0, h.ba1, h.ce0, h.ge0, h.ge1⟩
theorem LtM.no {H : Nat → Prop} {w w' : World} {x : LV} {c : LC} (h : LtM w H x c) (hk : Kept NoB w w') : LtM w' H x c := h.kept hk (fun _ _ h => h)
/-- Its configuration. -/
def lcf (x : LV) (c : LC) : Cf := ⟨x.gc, x.ge, c.ns, x.gf, x.gj⟩
/-- Is a part right? -/
def rgt (i : Nat) (x : LV) (c : LC) : Bool :=
  match i with
  | 0 => balB x.ba
  | 1 => decide (0 ≤ x.ch) && decide (x.ch ≤ 3)
  | 2 => decide (1 ≤ x.ep)
  | 5 => decide (0 ≤ x.sl) && decide (x.sl ≤ 512)
  | 7 => decide (0 ≤ x.sl) && decide (x.sl ≤ 512)
  | 9 => decide (0 ≤ x.co) && decide (x.co ≤ 255)
  | 11 => cmdB x.ck x.cc x.ce x.cn
  | 12 => rgtB (lcf x c)
  | 13 => areVs c.vs
  | 14 => areUs c.us
  | 15 => areReq c.us
  | 16 => decide ((c.ds.length : Int) ≤ 1024)
  | 17 => decide ((c.ds.length : Int) ≤ 2048)
  | _ => true
/-- A letter without a part. -/
def drp (i : Nat) (x : LV) : LV :=
  match i with
  | 0 => { x with ba := 0 }
  | 1 => { x with ch := 0 }
  | 2 => { x with ep := 0 }
  | 3 => { x with se := 0 }
  | 4 => { x with dn := 0 }
  | 5 => { x with sl := 0 }
  | 6 => { x with nu := 0 }
  | 7 => { x with sl := 0 }
  | 8 => { x with ke := 0 }
  | 9 => { x with co := 0 }
  | 10 => { x with ve := 0 }
  | 11 => { x with ck := 0, cc := 0, ce := 0, cn := 0 }
  | 12 => { x with gc := 0, ge := 0, gn := .slice none 0 0, gf := false, gj := 0 }
  | 13 => { x with vo := .slice none 0 0 }
  | 14 => { x with up := .slice none 0 0 }
  | 15 => { x with up := .slice none 0 0 }
  | 16 => { x with da := .slice none 0 0 }
  | 17 => { x with da := .slice none 0 0 }
  | _ => x
/-- The parts of a kind. -/
def prtK (kd : Nat) : List Nat := (List.range 18).filter (fun i => (kpTab.getD kd 0).toNat.testBit i)
/-- A part's law: what its first and its last function do, over blocks of P alone. -/
structure PLaw (i : Nat) (P : Nat → Prop) (w : World) (x : Q4) (f1 f4 : FuncId) (c1 c4 : Array Value) : Prop where
  a : x.a = .func (.func f1) #[] c1
  d : x.d = .func (.func f4) #[] c4
  b : ∃ f2 c2, x.b = .func (.func f2) #[] c2
  c : ∃ f3 c3, x.c = .func (.func f3) #[] c3
  e1 : Enters17 f1
  e4 : Enters17 f4
  right : ∀ (S : Nat → Prop) (w' : World), Kept S w w' → (∀ k, P k → ¬ S k) → ∀ (g : Nat) (y : LV) (c : LC) (H : Nat → Prop), w'.heap[g]? = some (.cells (lcs y) 48 (0, 0)) → LtM w' H y c → c.ns.length ≤ 1000 → Calls Tryz.prog f1 (#[pb g] ++ c1) w' (YesNoK (rgt i y c) w')
  drop : ∀ (S : Nat → Prop) (w' : World), Kept S w w' → (∀ k, P k → ¬ S k) → ∀ (g : Nat) (y : LV), w'.heap[g]? = some (.cells (lcs y) 48 (0, 0)) → Calls Tryz.prog f4 (#[pb g] ++ c4) w' fun e w'' => e = .returned (.tuple #[]) ∧ w''.heap[g]? = some (.cells (lcs (drp i y)) 48 (0, 0)) ∧ Kept (fun k => k = g) w' w''
/-- The value is the part of number i, in blocks from B on that are no row of parts. -/
def PartOk (i B : Nat) (w : World) (x : Q4) : Prop :=
  (∀ u ∈ q4l x, u.oneCell' = true) ∧ ∃ (P : Nat → Prop) (f1 f4 : FuncId) (c1 c4 : Array Value), (∀ k, P k → B ≤ k ∧ ∃ cs t fr, w.heap[k]? = some (.cells cs t fr) ∧ t ≠ 112) ∧ PLaw i P w x f1 f4 c1 c4
theorem PartOk.kept' {i B : Nat} {S : Nat → Prop} {w w' : World} {x : Q4} (h : PartOk i B w x) (hk : Kept S w w') (hs : ∀ k cs t fr, B ≤ k → w.heap[k]? = some (.cells cs t fr) → t ≠ 112 → ¬ S k) : PartOk i B w' x := by
  obtain ⟨h1, P, f1, f4, c1, c4, hP, hl⟩ := h
  have hPS : ∀ k, P k → ¬ S k := fun k hk' => by
    obtain ⟨hb, cs, t, fr, hr, ht⟩ := hP k hk'
    exact hs k cs t fr hb hr ht
  refine ⟨h1, P, f1, f4, c1, c4, fun k hk' => ?_, ⟨hl.a, hl.d, hl.b, hl.c, hl.e1, hl.e4, fun S' w2 hk2 hs2 => ?_, fun S' w2 hk2 hs2 => ?_⟩⟩
  · obtain ⟨hb, cs, t, fr, hr, ht⟩ := hP k hk'
    exact ⟨hb, cs, t, fr, hk.heap (hPS k hk') hr, ht⟩
  · exact hl.right (fun k => S k ∨ S' k) w2 ((hk.mono (fun k _ h => .inl h)).trans (hk2.mono (fun k _ h => .inr h)) (fun _ _ h => h)) (fun k hp h => h.elim (hPS k hp) (hs2 k hp))
  · exact hl.drop (fun k => S k ∨ S' k) w2 ((hk.mono (fun k _ h => .inl h)).trans (hk2.mono (fun k _ h => .inr h)) (fun _ _ h => h)) (fun k hp h => h.elim (hPS k hp) (hs2 k hp))
theorem PartOk.kept {i B : Nat} {S : Nat → Prop} {w w' : World} {x : Q4} (h : PartOk i B w x) (hk : Kept S w w') (hs : ∀ k, B ≤ k → ¬ S k) : PartOk i B w' x := h.kept' hk (fun k _ _ _ hb _ _ => hs k hb)
/-- Each is the part of its number. -/
def PartsOk (ns : List Nat) (B : Nat) (w : World) (ps : List Q4) : Prop := ps.length = ns.length ∧ ∀ j, j < ns.length → PartOk (ns.getD j 0) B w (ps.getD j q40)
theorem PartsOk.kept {ns : List Nat} {S : Nat → Prop} {B : Nat} {w w' : World} {ps : List Q4} (h : PartsOk ns B w ps) (hk : Kept S w w') (hs : ∀ k, B ≤ k → ¬ S k) : PartsOk ns B w' ps := ⟨h.1, fun j hj => (h.2 j hj).kept hk hs⟩
theorem PartsOk.snoc {ns : List Nat} {B : Nat} {w : World} {ps : List Q4} (h : PartsOk ns B w ps) {i : Nat} {x : Q4} (hx : PartOk i B w x) : PartsOk (ns ++ [i]) B w (ps ++ [x]) := by
  refine ⟨by rw [List.length_append, List.length_append, h.1]; rfl, fun j hj => ?_⟩
  rw [List.length_append] at hj
  by_cases e : j < ns.length
  · rw [List.getD_eq_getElem?_getD, List.getD_eq_getElem?_getD, List.getElem?_append_left e, List.getElem?_append_left (by rw [h.1]; exact e)]
    have := h.2 j e
    rw [List.getD_eq_getElem?_getD, List.getD_eq_getElem?_getD] at this
    exact this
  · have hj' : j = ns.length := by simp only [List.length_cons, List.length_nil] at hj; omega
    subst hj'
    have hl := h.1
    simp only [List.getD_eq_getElem?_getD]
    rw [List.getElem?_append_right (Nat.le_refl _), List.getElem?_append_right (by omega)]
    simp [hl]
    exact hx
theorem own_type {B : Nat} {w : World} {v : Value} {ps : List Q4} (h : POw B w v ps) {k : Nat} (hk : v.ownBlock = some k) : ∃ cs fr, w.heap[k]? = some (.cells cs 112 fr) := by
  rcases h.2 with ⟨rfl, _⟩ | ⟨r, cap, cur, rfl, hb, hr, _⟩
  · cases hk
  · injection hk with hk
    subst hk
    exact ⟨_, _, hr⟩
theorem PartOk.grow {i B C : Nat} {w w' : World} {v : Value} {x : Q4} {ps : List Q4} (h : PartOk i B w x) (hrow : POw C w v ps) (hk : Kept (fun i => some i = v.ownBlock) w w') : PartOk i B w' x :=
  h.kept' hk (fun k cs t fr _ hr ht he => by
    obtain ⟨cs', fr', h2⟩ := own_type hrow he.symm
    rw [hr] at h2
    injection h2 with h2
    injection h2 with _ h2 _
    exact ht h2)
theorem PartsOk.grow {ns : List Nat} {B C : Nat} {w w' : World} {v : Value} {qs ps : List Q4} (h : PartsOk ns B w qs) (hrow : POw C w v ps) (hk : Kept (fun i => some i = v.ownBlock) w w') : PartsOk ns B w' qs := ⟨h.1, fun j hj => (h.2 j hj).grow hrow hk⟩
end Go.Proofs.YtclfecninhipnaaGreatDoor
namespace Go.Proofs.YtclfecninhipnaaGreatDoor
open Go.RowKit
set_option linter.unusedVariables false
set_option linter.unusedSimpArgs false

/-- A part that is data, in blocks from B on. -/
def DatPart (most : Int) (B : Nat) (w : World) (pv : Value) : Prop :=
  ∃ s bm, B ≤ s ∧ B ≤ bm ∧ pv = PartAg 209 210 211 212 s (s + 1) (s + 2) (s + 3) ∧ OneAt 224 s (.func (.func 174) #[] #[pb bm]) w ∧ OneAt 231 (s + 3) (.func (.func 179) #[] #[]) w ∧ OneAt 3 bm (.int .i64 most) w
set_option maxRecDepth 100000 in
set_option maxHeartbeats 1000000 in
theorem data_any (w : World) (most : Int) : Calls Tryz.prog 122 #[.int .i64 most] w fun e w' => ∃ pv, e = .returned pv ∧ DatPart most w.heap.size w' pv ∧ Kept NoB w w' := by
  have hmf : ∀ (fn : Fn) (first cap : Array Value) (w : World), (Instr.makeFunc fn first cap).run Tryz.prog w = .ok (.func fn first cap) w := fun _ _ _ _ => rfl
  obtain ⟨W, hW⟩ : ∃ W, W = (w.alloc (.cells #[.int .i64 most] 3 (0, 0))).alloc (.cells #[.nilFunc, .nilFunc, .nilFunc, .nilFunc] 112 (0, 0)) := ⟨_, rfl⟩
  have hsz : W.heap.size = w.heap.size + 2 := by rw [hW]; simp
  have o1 : OneAt 3 w.heap.size (.int .i64 most) W := by rw [hW]; exact (OneAt.new w _ _).alloc _
  have o2 : W.heap[w.heap.size + 1]? = some (.cells #[.nilFunc, .nilFunc, .nilFunc, .nilFunc] 112 (0, 0)) := by
    have := heap_alloc_new (w.alloc (.cells #[.int .i64 most] 3 (0, 0))) (.cells #[.nilFunc, .nilFunc, .nilFunc, .nilFunc] 112 (0, 0))
    rw [show (w.alloc (.cells #[.int .i64 most] 3 (0, 0))).heap.size = w.heap.size + 1 by simp] at this
    rw [hW]; exact this
  have HKW : Hid (Kept NoB w W) := Lib.hid (by rw [hW]; exact ((Kept.refl NoB w).alloc _).alloc _)
  have HO1 := Lib.hid o1
  have HO2 := Lib.hid o2
  have HSZ := Lib.hid hsz
  have HW := Lib.hid hW
  have HF := Lib.hid (field_dat W (.func (.func 174) #[] #[pb w.heap.size]) (.func (.func 178) #[] #[]) (.func (.func 175) #[] #[pb w.heap.size]) (.func (.func 179) #[] #[]) rfl rfl rfl rfl)
  clear hW hsz o1 o2
  go_enter Tryz.func122, Tryz.ntmps122
  go_wp2_with fail
  rw [← HW.out]
  go_wp2_with fail
  refine HF.out.mono ?_
  rintro e w1 ⟨s, hs, rfl, a1, a2, a3, a4, hk⟩
  have HA := Lib.hid (And.intro a1 (And.intro a2 (And.intro a3 a4)))
  have HB := Lib.hid (HO1.out.no hk)
  have hr := hk.heap (fun h => h) HO2.out
  have HR := Lib.hid hr
  obtain ⟨r0, r1, r2, r3⟩ := cells4p hr
  have z := blkU_frozen hr
  have HK1 := Lib.hid (HKW.out.trans hk (fun _ _ h => h))
  have HS : Hid (w.heap.size + 2 ≤ s) := Lib.hid (by have := HSZ.out; omega)
  unfold PartAg
  clear a1 a2 a3 a4 hk hr hs
  go_wp2
  have hF := four10_at HR.out (.func (.func 209) #[] #[pb s, pb (s + 3)]) (.func (.func 210) #[] #[pb (s + 1), pb (s + 3)]) (.func (.func 211) #[] #[pb (s + 2), pb (s + 3)]) (.func (.func 212) #[] #[pb (s + 3)])
  have hK := HK1.out.four10 (b := w.heap.size + 1) (.inr (by omega)) 0 (.func (.func 209) #[] #[pb s, pb (s + 3)]) (.func (.func 210) #[] #[pb (s + 1), pb (s + 3)]) (.func (.func 211) #[] #[pb (s + 2), pb (s + 3)]) (.func (.func 212) #[] #[pb (s + 3)])
  have hO : ∀ (t : TypeId) (b : Nat) (v : Value), OneAt t b v w1 → b ≠ w.heap.size + 1 → OneAt t b v (four10 w1 (w.heap.size + 1) 0 (.func (.func 209) #[] #[pb s, pb (s + 3)]) (.func (.func 210) #[] #[pb (s + 1), pb (s + 3)]) (.func (.func 211) #[] #[pb (s + 2), pb (s + 3)]) (.func (.func 212) #[] #[pb (s + 3)])) := fun t b v h hb => h.kept ((Kept.refl (fun k => k = w.heap.size + 1) w1).four10 (b := w.heap.size + 1) (.inl rfl) 0 (.func (.func 209) #[] #[pb s, pb (s + 3)]) (.func (.func 210) #[] #[pb (s + 1), pb (s + 3)]) (.func (.func 211) #[] #[pb (s + 2), pb (s + 3)]) (.func (.func 212) #[] #[pb (s + 3)])) hb
  clear r0 r1 r2 r3 z
  obtain ⟨r0, r1, r2, r3⟩ := cells4p hF
  clear hF
  unfold four10 at r0 r1 r2 r3 hK hO
  simp only [Nat.zero_add] at r0 r1 r2 r3 hK hO
  generalize hW : World.setCell _ _ _ = W3 at r0 r1 r2 r3 hK hO ⊢
  have hs := HS.out
  exact bodyPost_ret (v := PartAg 209 210 211 212 s (s + 1) (s + 2) (s + 3)) (by simp [results, Tryz.results122, go_sem, PartAg, r0, r1, r2, r3]) rfl ⟨_, rfl, ⟨s, w.heap.size, by omega, Nat.le_refl _, rfl, hO _ _ _ HA.out.1 (by omega), hO _ _ _ HA.out.2.2.2 (by omega), hO _ _ _ HB.out (by omega)⟩, hK⟩
def Part0 (B : Nat) (w : World) (pv : Value) : Prop := NumPart 187 188 189 190 130 132 148 195 199 150 8 (.func (.func 82) #[] #[]) (.func (.func 83) #[] #[]) B w pv
set_option maxRecDepth 100000 in
set_option maxHeartbeats 1000000 in
theorem partAt_0 (w : World) (B : Nat) (hB : B ≤ w.heap.size) : Calls Tryz.prog 63 #[.int .u32 1] w fun e w' => ∃ pv, e = .returned pv ∧ Part0 B w' pv ∧ Kept NoB w w' := by
  obtain ⟨W, hW⟩ : ∃ W, W = w.alloc (.cells #[.nilFunc, .nilFunc, .nilFunc, .nilFunc] 112 (0, 0)) := ⟨_, rfl⟩
  have hsz : W.heap.size = w.heap.size + 1 := by rw [hW]; simp
  have o2 : W.heap[w.heap.size]? = some (.cells #[.nilFunc, .nilFunc, .nilFunc, .nilFunc] 112 (0, 0)) := by rw [hW]; exact heap_alloc_new w _
  have HKW : Hid (Kept NoB w W) := Lib.hid (by rw [hW]; exact (Kept.refl NoB w).alloc _)
  have HO2 := Lib.hid o2
  have HSZ := Lib.hid hsz
  have HW := Lib.hid hW
  have HN := Lib.hid (number_u64 W 8 (.func (.func 82) #[] #[]) (.func (.func 83) #[] #[]) rfl rfl)
  clear hW hsz o2
  go_enter Tryz.func63, Tryz.ntmps63
  go_wp2_with fail
  rw [← HW.out]
  go_wp2_with fail
  refine HN.out.mono ?_
  rintro e w1 ⟨s, bw, hs, hbw, rfl, a1, a2, a3, a4, a5, hk⟩
  have HB5 := Lib.hid a5
  have HS : Hid (w.heap.size + 1 ≤ s ∧ w.heap.size + 1 ≤ bw) := Lib.hid (by have := HSZ.out; omega)
  clear hs hbw a5
  have HA := Lib.hid (And.intro a1 (And.intro a2 (And.intro a3 a4)))
  have hk1 := HKW.out.trans hk (fun _ _ h => h)
  have hr := hk.heap (fun h => h) HO2.out
  have HR := Lib.hid hr
  obtain ⟨r0, r1, r2, r3⟩ := cells4p hr
  have z := blkU_frozen hr
  have HK1 := Lib.hid hk1
  unfold PartAg
  clear a1 a2 a3 a4 hk hk1 hr
  go_wp2
  have hF := four10_at HR.out (.func (.func 187) #[] #[pb s, pb (s + 3)]) (.func (.func 188) #[] #[pb (s + 1), pb (s + 3)]) (.func (.func 189) #[] #[pb (s + 2), pb (s + 3)]) (.func (.func 190) #[] #[pb (s + 3)])
  have hK := HK1.out.four10 (b := w.heap.size) (.inr (Nat.le_refl _)) 0 (.func (.func 187) #[] #[pb s, pb (s + 3)]) (.func (.func 188) #[] #[pb (s + 1), pb (s + 3)]) (.func (.func 189) #[] #[pb (s + 2), pb (s + 3)]) (.func (.func 190) #[] #[pb (s + 3)])
  have hO : ∀ (t : TypeId) (b : Nat) (v : Value), OneAt t b v w1 → b ≠ w.heap.size → OneAt t b v (four10 w1 w.heap.size 0 (.func (.func 187) #[] #[pb s, pb (s + 3)]) (.func (.func 188) #[] #[pb (s + 1), pb (s + 3)]) (.func (.func 189) #[] #[pb (s + 2), pb (s + 3)]) (.func (.func 190) #[] #[pb (s + 3)])) := fun t b v h hb => h.kept ((Kept.refl (fun k => k = w.heap.size) w1).four10 (b := w.heap.size) (.inl rfl) 0 (.func (.func 187) #[] #[pb s, pb (s + 3)]) (.func (.func 188) #[] #[pb (s + 1), pb (s + 3)]) (.func (.func 189) #[] #[pb (s + 2), pb (s + 3)]) (.func (.func 190) #[] #[pb (s + 3)])) hb
  clear r0 r1 r2 r3 z
  obtain ⟨r0, r1, r2, r3⟩ := cells4p hF
  clear hF
  unfold four10 at r0 r1 r2 r3 hK hO
  simp only [Nat.zero_add] at r0 r1 r2 r3 hK hO
  generalize hW : World.setCell _ _ _ = W3 at r0 r1 r2 r3 hK hO ⊢

  have hs := HS.out
  exact bodyPost_ret (v := PartAg 187 188 189 190 s (s + 1) (s + 2) (s + 3)) (by simp [results, Tryz.results63, go_sem, PartAg, r0, r1, r2, r3]) rfl ⟨_, rfl, ⟨s, bw, by omega, by omega, rfl, hO _ _ _ HA.out.1 (by omega), hO _ _ _ HA.out.2.1 (by omega), hO _ _ _ HA.out.2.2.1 (by omega), hO _ _ _ HA.out.2.2.2 (by omega), hO _ _ _ HB5.out (by omega)⟩, hK⟩
def Part5 (B : Nat) (w : World) (pv : Value) : Prop := ∃ bm, B ≤ bm ∧ OneAt 3 bm (.int .i64 512) w ∧ NumPart 192 193 194 195 137 138 104 203 204 154 2 (.func (.func 140) #[] #[pb bm]) (.func (.func 92) #[] #[]) B w pv
set_option maxRecDepth 100000 in
set_option maxHeartbeats 1000000 in
theorem partAt_5 (w : World) (B : Nat) (hB : B ≤ w.heap.size) : Calls Tryz.prog 63 #[.int .u32 32] w fun e w' => ∃ pv, e = .returned pv ∧ Part5 B w' pv ∧ Kept NoB w w' := by
  obtain ⟨W, hW⟩ : ∃ W, W = w.alloc (.cells #[.nilFunc, .nilFunc, .nilFunc, .nilFunc] 112 (0, 0)) := ⟨_, rfl⟩
  have hsz : W.heap.size = w.heap.size + 1 := by rw [hW]; simp
  have o2 : W.heap[w.heap.size]? = some (.cells #[.nilFunc, .nilFunc, .nilFunc, .nilFunc] 112 (0, 0)) := by rw [hW]; exact heap_alloc_new w _
  have HKW : Hid (Kept NoB w W) := Lib.hid (by rw [hW]; exact (Kept.refl NoB w).alloc _)
  have HO2 := Lib.hid o2
  have HSZ := Lib.hid hsz
  have HW := Lib.hid hW
  have HU := Lib.hid (upTo_any W 512)
  obtain ⟨W2, hW2⟩ : ∃ W2, W2 = W.alloc (.cells #[.int .i64 512] 3 (0, 0)) := ⟨_, rfl⟩
  have hk2 : Kept NoB W W2 := by rw [hW2]; exact (Kept.refl NoB W).alloc _
  have hm : OneAt 3 W.heap.size (.int .i64 512) W2 := by rw [hW2]; exact OneAt.new W _ _
  have HW2 := Lib.hid hW2
  have HM := Lib.hid hm
  have HK2 := Lib.hid hk2
  have HN := Lib.hid (number_int W2 2 (.func (.func 140) #[] #[pb W.heap.size]) (.func (.func 92) #[] #[]) rfl rfl)
  clear hW hsz o2 hW2 hk2 hm
  go_enter Tryz.func63, Tryz.ntmps63
  go_wp2_with fail
  rw [← HW.out]
  go_wp2_with fail
  refine HU.out.mono ?_
  rintro e w1 ⟨rfl, rfl⟩
  rw [← HW2.out]
  go_wp2_with fail
  refine HN.out.mono ?_
  rintro e w1 ⟨s, bw, hs, hbw, rfl, a1, a2, a3, a4, a5, hk⟩
  have HB5 := Lib.hid a5
  have HBM := Lib.hid (HM.out.no hk)
  have HS : Hid (w.heap.size + 1 ≤ s ∧ w.heap.size + 1 ≤ bw) := Lib.hid (by have := HSZ.out; have := HK2.out.size; omega)
  replace hk := HK2.out.trans hk (fun _ _ h => h)
  clear hs hbw a5
  have HA := Lib.hid (And.intro a1 (And.intro a2 (And.intro a3 a4)))
  have hk1 := HKW.out.trans hk (fun _ _ h => h)
  have hr := hk.heap (fun h => h) HO2.out
  have HR := Lib.hid hr
  obtain ⟨r0, r1, r2, r3⟩ := cells4p hr
  have z := blkU_frozen hr
  have HK1 := Lib.hid hk1
  unfold PartAg
  clear a1 a2 a3 a4 hk hk1 hr
  go_wp2
  have hF := four10_at HR.out (.func (.func 192) #[] #[pb s, pb (s + 3)]) (.func (.func 193) #[] #[pb (s + 1), pb (s + 3)]) (.func (.func 194) #[] #[pb (s + 2), pb (s + 3)]) (.func (.func 195) #[] #[pb (s + 3)])
  have hK := HK1.out.four10 (b := w.heap.size) (.inr (Nat.le_refl _)) 0 (.func (.func 192) #[] #[pb s, pb (s + 3)]) (.func (.func 193) #[] #[pb (s + 1), pb (s + 3)]) (.func (.func 194) #[] #[pb (s + 2), pb (s + 3)]) (.func (.func 195) #[] #[pb (s + 3)])
  have hO : ∀ (t : TypeId) (b : Nat) (v : Value), OneAt t b v w1 → b ≠ w.heap.size → OneAt t b v (four10 w1 w.heap.size 0 (.func (.func 192) #[] #[pb s, pb (s + 3)]) (.func (.func 193) #[] #[pb (s + 1), pb (s + 3)]) (.func (.func 194) #[] #[pb (s + 2), pb (s + 3)]) (.func (.func 195) #[] #[pb (s + 3)])) := fun t b v h hb => h.kept ((Kept.refl (fun k => k = w.heap.size) w1).four10 (b := w.heap.size) (.inl rfl) 0 (.func (.func 192) #[] #[pb s, pb (s + 3)]) (.func (.func 193) #[] #[pb (s + 1), pb (s + 3)]) (.func (.func 194) #[] #[pb (s + 2), pb (s + 3)]) (.func (.func 195) #[] #[pb (s + 3)])) hb
  clear r0 r1 r2 r3 z
  obtain ⟨r0, r1, r2, r3⟩ := cells4p hF
  clear hF
  unfold four10 at r0 r1 r2 r3 hK hO
  simp only [Nat.zero_add] at r0 r1 r2 r3 hK hO
  generalize hW : World.setCell _ _ _ = W3 at r0 r1 r2 r3 hK hO ⊢

  have hs := HS.out
  have hw := HSZ.out
  exact bodyPost_ret (v := PartAg 192 193 194 195 s (s + 1) (s + 2) (s + 3)) (by simp [results, Tryz.results63, go_sem, PartAg, r0, r1, r2, r3]) rfl ⟨_, rfl, ⟨W.heap.size, by omega, hO _ _ _ HBM.out (by omega), s, bw, by omega, by omega, rfl, hO _ _ _ HA.out.1 (by omega), hO _ _ _ HA.out.2.1 (by omega), hO _ _ _ HA.out.2.2.1 (by omega), hO _ _ _ HA.out.2.2.2 (by omega), hO _ _ _ HB5.out (by omega)⟩, hK⟩
def Part6 (B : Nat) (w : World) (pv : Value) : Prop := NumPart 187 188 189 190 130 132 148 195 199 150 8 (.func (.func 89) #[] #[]) (.func (.func 93) #[] #[]) B w pv
set_option maxRecDepth 100000 in
set_option maxHeartbeats 1000000 in
theorem partAt_6 (w : World) (B : Nat) (hB : B ≤ w.heap.size) : Calls Tryz.prog 63 #[.int .u32 64] w fun e w' => ∃ pv, e = .returned pv ∧ Part6 B w' pv ∧ Kept NoB w w' := by
  obtain ⟨W, hW⟩ : ∃ W, W = w.alloc (.cells #[.nilFunc, .nilFunc, .nilFunc, .nilFunc] 112 (0, 0)) := ⟨_, rfl⟩
  have hsz : W.heap.size = w.heap.size + 1 := by rw [hW]; simp
  have o2 : W.heap[w.heap.size]? = some (.cells #[.nilFunc, .nilFunc, .nilFunc, .nilFunc] 112 (0, 0)) := by rw [hW]; exact heap_alloc_new w _
  have HKW : Hid (Kept NoB w W) := Lib.hid (by rw [hW]; exact (Kept.refl NoB w).alloc _)
  have HO2 := Lib.hid o2
  have HSZ := Lib.hid hsz
  have HW := Lib.hid hW
  have HN := Lib.hid (number_u64 W 8 (.func (.func 89) #[] #[]) (.func (.func 93) #[] #[]) rfl rfl)
  clear hW hsz o2
  go_enter Tryz.func63, Tryz.ntmps63
  go_wp2_with fail
  rw [← HW.out]
  go_wp2_with fail
  refine HN.out.mono ?_
  rintro e w1 ⟨s, bw, hs, hbw, rfl, a1, a2, a3, a4, a5, hk⟩
  have HB5 := Lib.hid a5
  have HS : Hid (w.heap.size + 1 ≤ s ∧ w.heap.size + 1 ≤ bw) := Lib.hid (by have := HSZ.out; omega)
  clear hs hbw a5
  have HA := Lib.hid (And.intro a1 (And.intro a2 (And.intro a3 a4)))
  have hk1 := HKW.out.trans hk (fun _ _ h => h)
  have hr := hk.heap (fun h => h) HO2.out
  have HR := Lib.hid hr
  obtain ⟨r0, r1, r2, r3⟩ := cells4p hr
  have z := blkU_frozen hr
  have HK1 := Lib.hid hk1
  unfold PartAg
  clear a1 a2 a3 a4 hk hk1 hr
  go_wp2
  have hF := four10_at HR.out (.func (.func 187) #[] #[pb s, pb (s + 3)]) (.func (.func 188) #[] #[pb (s + 1), pb (s + 3)]) (.func (.func 189) #[] #[pb (s + 2), pb (s + 3)]) (.func (.func 190) #[] #[pb (s + 3)])
  have hK := HK1.out.four10 (b := w.heap.size) (.inr (Nat.le_refl _)) 0 (.func (.func 187) #[] #[pb s, pb (s + 3)]) (.func (.func 188) #[] #[pb (s + 1), pb (s + 3)]) (.func (.func 189) #[] #[pb (s + 2), pb (s + 3)]) (.func (.func 190) #[] #[pb (s + 3)])
  have hO : ∀ (t : TypeId) (b : Nat) (v : Value), OneAt t b v w1 → b ≠ w.heap.size → OneAt t b v (four10 w1 w.heap.size 0 (.func (.func 187) #[] #[pb s, pb (s + 3)]) (.func (.func 188) #[] #[pb (s + 1), pb (s + 3)]) (.func (.func 189) #[] #[pb (s + 2), pb (s + 3)]) (.func (.func 190) #[] #[pb (s + 3)])) := fun t b v h hb => h.kept ((Kept.refl (fun k => k = w.heap.size) w1).four10 (b := w.heap.size) (.inl rfl) 0 (.func (.func 187) #[] #[pb s, pb (s + 3)]) (.func (.func 188) #[] #[pb (s + 1), pb (s + 3)]) (.func (.func 189) #[] #[pb (s + 2), pb (s + 3)]) (.func (.func 190) #[] #[pb (s + 3)])) hb
  clear r0 r1 r2 r3 z
  obtain ⟨r0, r1, r2, r3⟩ := cells4p hF
  clear hF
  unfold four10 at r0 r1 r2 r3 hK hO
  simp only [Nat.zero_add] at r0 r1 r2 r3 hK hO
  generalize hW : World.setCell _ _ _ = W3 at r0 r1 r2 r3 hK hO ⊢

  have hs := HS.out
  exact bodyPost_ret (v := PartAg 187 188 189 190 s (s + 1) (s + 2) (s + 3)) (by simp [results, Tryz.results63, go_sem, PartAg, r0, r1, r2, r3]) rfl ⟨_, rfl, ⟨s, bw, by omega, by omega, rfl, hO _ _ _ HA.out.1 (by omega), hO _ _ _ HA.out.2.1 (by omega), hO _ _ _ HA.out.2.2.1 (by omega), hO _ _ _ HA.out.2.2.2 (by omega), hO _ _ _ HB5.out (by omega)⟩, hK⟩
def Part7 (B : Nat) (w : World) (pv : Value) : Prop := ∃ bm, B ≤ bm ∧ OneAt 3 bm (.int .i64 512) w ∧ NumPart 192 193 194 195 137 138 104 203 204 154 2 (.func (.func 140) #[] #[pb bm]) (.func (.func 92) #[] #[]) B w pv
set_option maxRecDepth 100000 in
set_option maxHeartbeats 1000000 in
theorem partAt_7 (w : World) (B : Nat) (hB : B ≤ w.heap.size) : Calls Tryz.prog 63 #[.int .u32 128] w fun e w' => ∃ pv, e = .returned pv ∧ Part7 B w' pv ∧ Kept NoB w w' := by
  obtain ⟨W, hW⟩ : ∃ W, W = w.alloc (.cells #[.nilFunc, .nilFunc, .nilFunc, .nilFunc] 112 (0, 0)) := ⟨_, rfl⟩
  have hsz : W.heap.size = w.heap.size + 1 := by rw [hW]; simp
  have o2 : W.heap[w.heap.size]? = some (.cells #[.nilFunc, .nilFunc, .nilFunc, .nilFunc] 112 (0, 0)) := by rw [hW]; exact heap_alloc_new w _
  have HKW : Hid (Kept NoB w W) := Lib.hid (by rw [hW]; exact (Kept.refl NoB w).alloc _)
  have HO2 := Lib.hid o2
  have HSZ := Lib.hid hsz
  have HW := Lib.hid hW
  have HU := Lib.hid (upTo_any W 512)
  obtain ⟨W2, hW2⟩ : ∃ W2, W2 = W.alloc (.cells #[.int .i64 512] 3 (0, 0)) := ⟨_, rfl⟩
  have hk2 : Kept NoB W W2 := by rw [hW2]; exact (Kept.refl NoB W).alloc _
  have hm : OneAt 3 W.heap.size (.int .i64 512) W2 := by rw [hW2]; exact OneAt.new W _ _
  have HW2 := Lib.hid hW2
  have HM := Lib.hid hm
  have HK2 := Lib.hid hk2
  have HN := Lib.hid (number_int W2 2 (.func (.func 140) #[] #[pb W.heap.size]) (.func (.func 92) #[] #[]) rfl rfl)
  clear hW hsz o2 hW2 hk2 hm
  go_enter Tryz.func63, Tryz.ntmps63
  go_wp2_with fail
  rw [← HW.out]
  go_wp2_with fail
  refine HU.out.mono ?_
  rintro e w1 ⟨rfl, rfl⟩
  rw [← HW2.out]
  go_wp2_with fail
  refine HN.out.mono ?_
  rintro e w1 ⟨s, bw, hs, hbw, rfl, a1, a2, a3, a4, a5, hk⟩
  have HB5 := Lib.hid a5
  have HBM := Lib.hid (HM.out.no hk)
  have HS : Hid (w.heap.size + 1 ≤ s ∧ w.heap.size + 1 ≤ bw) := Lib.hid (by have := HSZ.out; have := HK2.out.size; omega)
  replace hk := HK2.out.trans hk (fun _ _ h => h)
  clear hs hbw a5
  have HA := Lib.hid (And.intro a1 (And.intro a2 (And.intro a3 a4)))
  have hk1 := HKW.out.trans hk (fun _ _ h => h)
  have hr := hk.heap (fun h => h) HO2.out
  have HR := Lib.hid hr
  obtain ⟨r0, r1, r2, r3⟩ := cells4p hr
  have z := blkU_frozen hr
  have HK1 := Lib.hid hk1
  unfold PartAg
  clear a1 a2 a3 a4 hk hk1 hr
  go_wp2
  have hF := four10_at HR.out (.func (.func 192) #[] #[pb s, pb (s + 3)]) (.func (.func 193) #[] #[pb (s + 1), pb (s + 3)]) (.func (.func 194) #[] #[pb (s + 2), pb (s + 3)]) (.func (.func 195) #[] #[pb (s + 3)])
  have hK := HK1.out.four10 (b := w.heap.size) (.inr (Nat.le_refl _)) 0 (.func (.func 192) #[] #[pb s, pb (s + 3)]) (.func (.func 193) #[] #[pb (s + 1), pb (s + 3)]) (.func (.func 194) #[] #[pb (s + 2), pb (s + 3)]) (.func (.func 195) #[] #[pb (s + 3)])
  have hO : ∀ (t : TypeId) (b : Nat) (v : Value), OneAt t b v w1 → b ≠ w.heap.size → OneAt t b v (four10 w1 w.heap.size 0 (.func (.func 192) #[] #[pb s, pb (s + 3)]) (.func (.func 193) #[] #[pb (s + 1), pb (s + 3)]) (.func (.func 194) #[] #[pb (s + 2), pb (s + 3)]) (.func (.func 195) #[] #[pb (s + 3)])) := fun t b v h hb => h.kept ((Kept.refl (fun k => k = w.heap.size) w1).four10 (b := w.heap.size) (.inl rfl) 0 (.func (.func 192) #[] #[pb s, pb (s + 3)]) (.func (.func 193) #[] #[pb (s + 1), pb (s + 3)]) (.func (.func 194) #[] #[pb (s + 2), pb (s + 3)]) (.func (.func 195) #[] #[pb (s + 3)])) hb
  clear r0 r1 r2 r3 z
  obtain ⟨r0, r1, r2, r3⟩ := cells4p hF
  clear hF
  unfold four10 at r0 r1 r2 r3 hK hO
  simp only [Nat.zero_add] at r0 r1 r2 r3 hK hO
  generalize hW : World.setCell _ _ _ = W3 at r0 r1 r2 r3 hK hO ⊢

  have hs := HS.out
  have hw := HSZ.out
  exact bodyPost_ret (v := PartAg 192 193 194 195 s (s + 1) (s + 2) (s + 3)) (by simp [results, Tryz.results63, go_sem, PartAg, r0, r1, r2, r3]) rfl ⟨_, rfl, ⟨W.heap.size, by omega, hO _ _ _ HBM.out (by omega), s, bw, by omega, by omega, rfl, hO _ _ _ HA.out.1 (by omega), hO _ _ _ HA.out.2.1 (by omega), hO _ _ _ HA.out.2.2.1 (by omega), hO _ _ _ HA.out.2.2.2 (by omega), hO _ _ _ HB5.out (by omega)⟩, hK⟩
def Part8 (B : Nat) (w : World) (pv : Value) : Prop := NumPart 196 197 198 199 141 142 156 206 207 157 4 (.func (.func 95) #[] #[]) (.func (.func 96) #[] #[]) B w pv
set_option maxRecDepth 100000 in
set_option maxHeartbeats 1000000 in
theorem partAt_8 (w : World) (B : Nat) (hB : B ≤ w.heap.size) : Calls Tryz.prog 63 #[.int .u32 256] w fun e w' => ∃ pv, e = .returned pv ∧ Part8 B w' pv ∧ Kept NoB w w' := by
  obtain ⟨W, hW⟩ : ∃ W, W = w.alloc (.cells #[.nilFunc, .nilFunc, .nilFunc, .nilFunc] 112 (0, 0)) := ⟨_, rfl⟩
  have hsz : W.heap.size = w.heap.size + 1 := by rw [hW]; simp
  have o2 : W.heap[w.heap.size]? = some (.cells #[.nilFunc, .nilFunc, .nilFunc, .nilFunc] 112 (0, 0)) := by rw [hW]; exact heap_alloc_new w _
  have HKW : Hid (Kept NoB w W) := Lib.hid (by rw [hW]; exact (Kept.refl NoB w).alloc _)
  have HO2 := Lib.hid o2
  have HSZ := Lib.hid hsz
  have HW := Lib.hid hW
  have HN := Lib.hid (number_u32 W 4 (.func (.func 95) #[] #[]) (.func (.func 96) #[] #[]) rfl rfl)
  clear hW hsz o2
  go_enter Tryz.func63, Tryz.ntmps63
  go_wp2_with fail
  rw [← HW.out]
  go_wp2_with fail
  refine HN.out.mono ?_
  rintro e w1 ⟨s, bw, hs, hbw, rfl, a1, a2, a3, a4, a5, hk⟩
  have HB5 := Lib.hid a5
  have HS : Hid (w.heap.size + 1 ≤ s ∧ w.heap.size + 1 ≤ bw) := Lib.hid (by have := HSZ.out; omega)
  clear hs hbw a5
  have HA := Lib.hid (And.intro a1 (And.intro a2 (And.intro a3 a4)))
  have hk1 := HKW.out.trans hk (fun _ _ h => h)
  have hr := hk.heap (fun h => h) HO2.out
  have HR := Lib.hid hr
  obtain ⟨r0, r1, r2, r3⟩ := cells4p hr
  have z := blkU_frozen hr
  have HK1 := Lib.hid hk1
  unfold PartAg
  clear a1 a2 a3 a4 hk hk1 hr
  go_wp2
  have hF := four10_at HR.out (.func (.func 196) #[] #[pb s, pb (s + 3)]) (.func (.func 197) #[] #[pb (s + 1), pb (s + 3)]) (.func (.func 198) #[] #[pb (s + 2), pb (s + 3)]) (.func (.func 199) #[] #[pb (s + 3)])
  have hK := HK1.out.four10 (b := w.heap.size) (.inr (Nat.le_refl _)) 0 (.func (.func 196) #[] #[pb s, pb (s + 3)]) (.func (.func 197) #[] #[pb (s + 1), pb (s + 3)]) (.func (.func 198) #[] #[pb (s + 2), pb (s + 3)]) (.func (.func 199) #[] #[pb (s + 3)])
  have hO : ∀ (t : TypeId) (b : Nat) (v : Value), OneAt t b v w1 → b ≠ w.heap.size → OneAt t b v (four10 w1 w.heap.size 0 (.func (.func 196) #[] #[pb s, pb (s + 3)]) (.func (.func 197) #[] #[pb (s + 1), pb (s + 3)]) (.func (.func 198) #[] #[pb (s + 2), pb (s + 3)]) (.func (.func 199) #[] #[pb (s + 3)])) := fun t b v h hb => h.kept ((Kept.refl (fun k => k = w.heap.size) w1).four10 (b := w.heap.size) (.inl rfl) 0 (.func (.func 196) #[] #[pb s, pb (s + 3)]) (.func (.func 197) #[] #[pb (s + 1), pb (s + 3)]) (.func (.func 198) #[] #[pb (s + 2), pb (s + 3)]) (.func (.func 199) #[] #[pb (s + 3)])) hb
  clear r0 r1 r2 r3 z
  obtain ⟨r0, r1, r2, r3⟩ := cells4p hF
  clear hF
  unfold four10 at r0 r1 r2 r3 hK hO
  simp only [Nat.zero_add] at r0 r1 r2 r3 hK hO
  generalize hW : World.setCell _ _ _ = W3 at r0 r1 r2 r3 hK hO ⊢

  have hs := HS.out
  exact bodyPost_ret (v := PartAg 196 197 198 199 s (s + 1) (s + 2) (s + 3)) (by simp [results, Tryz.results63, go_sem, PartAg, r0, r1, r2, r3]) rfl ⟨_, rfl, ⟨s, bw, by omega, by omega, rfl, hO _ _ _ HA.out.1 (by omega), hO _ _ _ HA.out.2.1 (by omega), hO _ _ _ HA.out.2.2.1 (by omega), hO _ _ _ HA.out.2.2.2 (by omega), hO _ _ _ HB5.out (by omega)⟩, hK⟩
def Part9 (B : Nat) (w : World) (pv : Value) : Prop := ∃ bm, B ≤ bm ∧ OneAt 29 bm (.int .i64 255) w ∧ NumPart 200 201 202 203 144 145 159 209 210 162 1 (.func (.func 147) #[] #[pb bm]) (.func (.func 99) #[] #[]) B w pv
set_option maxRecDepth 100000 in
set_option maxHeartbeats 1000000 in
theorem partAt_9 (w : World) (B : Nat) (hB : B ≤ w.heap.size) : Calls Tryz.prog 63 #[.int .u32 512] w fun e w' => ∃ pv, e = .returned pv ∧ Part9 B w' pv ∧ Kept NoB w w' := by
  obtain ⟨W, hW⟩ : ∃ W, W = w.alloc (.cells #[.nilFunc, .nilFunc, .nilFunc, .nilFunc] 112 (0, 0)) := ⟨_, rfl⟩
  have hsz : W.heap.size = w.heap.size + 1 := by rw [hW]; simp
  have o2 : W.heap[w.heap.size]? = some (.cells #[.nilFunc, .nilFunc, .nilFunc, .nilFunc] 112 (0, 0)) := by rw [hW]; exact heap_alloc_new w _
  have HKW : Hid (Kept NoB w W) := Lib.hid (by rw [hW]; exact (Kept.refl NoB w).alloc _)
  have HO2 := Lib.hid o2
  have HSZ := Lib.hid hsz
  have HW := Lib.hid hW
  have HU := Lib.hid (upTo_err W 255)
  obtain ⟨W2, hW2⟩ : ∃ W2, W2 = W.alloc (.cells #[.int .i64 255] 29 (0, 0)) := ⟨_, rfl⟩
  have hk2 : Kept NoB W W2 := by rw [hW2]; exact (Kept.refl NoB W).alloc _
  have hm : OneAt 29 W.heap.size (.int .i64 255) W2 := by rw [hW2]; exact OneAt.new W _ _
  have HW2 := Lib.hid hW2
  have HM := Lib.hid hm
  have HK2 := Lib.hid hk2
  have HN := Lib.hid (number_err W2 1 (.func (.func 147) #[] #[pb W.heap.size]) (.func (.func 99) #[] #[]) rfl rfl)
  clear hW hsz o2 hW2 hk2 hm
  go_enter Tryz.func63, Tryz.ntmps63
  go_wp2_with fail
  rw [← HW.out]
  go_wp2_with fail
  refine HU.out.mono ?_
  rintro e w1 ⟨rfl, rfl⟩
  rw [← HW2.out]
  go_wp2_with fail
  refine HN.out.mono ?_
  rintro e w1 ⟨s, bw, hs, hbw, rfl, a1, a2, a3, a4, a5, hk⟩
  have HB5 := Lib.hid a5
  have HBM := Lib.hid (HM.out.no hk)
  have HS : Hid (w.heap.size + 1 ≤ s ∧ w.heap.size + 1 ≤ bw) := Lib.hid (by have := HSZ.out; have := HK2.out.size; omega)
  replace hk := HK2.out.trans hk (fun _ _ h => h)
  clear hs hbw a5
  have HA := Lib.hid (And.intro a1 (And.intro a2 (And.intro a3 a4)))
  have hk1 := HKW.out.trans hk (fun _ _ h => h)
  have hr := hk.heap (fun h => h) HO2.out
  have HR := Lib.hid hr
  obtain ⟨r0, r1, r2, r3⟩ := cells4p hr
  have z := blkU_frozen hr
  have HK1 := Lib.hid hk1
  unfold PartAg
  clear a1 a2 a3 a4 hk hk1 hr
  go_wp2
  have hF := four10_at HR.out (.func (.func 200) #[] #[pb s, pb (s + 3)]) (.func (.func 201) #[] #[pb (s + 1), pb (s + 3)]) (.func (.func 202) #[] #[pb (s + 2), pb (s + 3)]) (.func (.func 203) #[] #[pb (s + 3)])
  have hK := HK1.out.four10 (b := w.heap.size) (.inr (Nat.le_refl _)) 0 (.func (.func 200) #[] #[pb s, pb (s + 3)]) (.func (.func 201) #[] #[pb (s + 1), pb (s + 3)]) (.func (.func 202) #[] #[pb (s + 2), pb (s + 3)]) (.func (.func 203) #[] #[pb (s + 3)])
  have hO : ∀ (t : TypeId) (b : Nat) (v : Value), OneAt t b v w1 → b ≠ w.heap.size → OneAt t b v (four10 w1 w.heap.size 0 (.func (.func 200) #[] #[pb s, pb (s + 3)]) (.func (.func 201) #[] #[pb (s + 1), pb (s + 3)]) (.func (.func 202) #[] #[pb (s + 2), pb (s + 3)]) (.func (.func 203) #[] #[pb (s + 3)])) := fun t b v h hb => h.kept ((Kept.refl (fun k => k = w.heap.size) w1).four10 (b := w.heap.size) (.inl rfl) 0 (.func (.func 200) #[] #[pb s, pb (s + 3)]) (.func (.func 201) #[] #[pb (s + 1), pb (s + 3)]) (.func (.func 202) #[] #[pb (s + 2), pb (s + 3)]) (.func (.func 203) #[] #[pb (s + 3)])) hb
  clear r0 r1 r2 r3 z
  obtain ⟨r0, r1, r2, r3⟩ := cells4p hF
  clear hF
  unfold four10 at r0 r1 r2 r3 hK hO
  simp only [Nat.zero_add] at r0 r1 r2 r3 hK hO
  generalize hW : World.setCell _ _ _ = W3 at r0 r1 r2 r3 hK hO ⊢

  have hs := HS.out
  have hw := HSZ.out
  exact bodyPost_ret (v := PartAg 200 201 202 203 s (s + 1) (s + 2) (s + 3)) (by simp [results, Tryz.results63, go_sem, PartAg, r0, r1, r2, r3]) rfl ⟨_, rfl, ⟨W.heap.size, by omega, hO _ _ _ HBM.out (by omega), s, bw, by omega, by omega, rfl, hO _ _ _ HA.out.1 (by omega), hO _ _ _ HA.out.2.1 (by omega), hO _ _ _ HA.out.2.2.1 (by omega), hO _ _ _ HA.out.2.2.2 (by omega), hO _ _ _ HB5.out (by omega)⟩, hK⟩
def Part10 (B : Nat) (w : World) (pv : Value) : Prop := NumPart 187 188 189 190 130 132 148 195 199 150 8 (.func (.func 89) #[] #[]) (.func (.func 100) #[] #[]) B w pv
set_option maxRecDepth 100000 in
set_option maxHeartbeats 1000000 in
theorem partAt_10 (w : World) (B : Nat) (hB : B ≤ w.heap.size) : Calls Tryz.prog 63 #[.int .u32 1024] w fun e w' => ∃ pv, e = .returned pv ∧ Part10 B w' pv ∧ Kept NoB w w' := by
  obtain ⟨W, hW⟩ : ∃ W, W = w.alloc (.cells #[.nilFunc, .nilFunc, .nilFunc, .nilFunc] 112 (0, 0)) := ⟨_, rfl⟩
  have hsz : W.heap.size = w.heap.size + 1 := by rw [hW]; simp
  have o2 : W.heap[w.heap.size]? = some (.cells #[.nilFunc, .nilFunc, .nilFunc, .nilFunc] 112 (0, 0)) := by rw [hW]; exact heap_alloc_new w _
  have HKW : Hid (Kept NoB w W) := Lib.hid (by rw [hW]; exact (Kept.refl NoB w).alloc _)
  have HO2 := Lib.hid o2
  have HSZ := Lib.hid hsz
  have HW := Lib.hid hW
  have HN := Lib.hid (number_u64 W 8 (.func (.func 89) #[] #[]) (.func (.func 100) #[] #[]) rfl rfl)
  clear hW hsz o2
  go_enter Tryz.func63, Tryz.ntmps63
  go_wp2_with fail
  rw [← HW.out]
  go_wp2_with fail
  refine HN.out.mono ?_
  rintro e w1 ⟨s, bw, hs, hbw, rfl, a1, a2, a3, a4, a5, hk⟩
  have HB5 := Lib.hid a5
  have HS : Hid (w.heap.size + 1 ≤ s ∧ w.heap.size + 1 ≤ bw) := Lib.hid (by have := HSZ.out; omega)
  clear hs hbw a5
  have HA := Lib.hid (And.intro a1 (And.intro a2 (And.intro a3 a4)))
  have hk1 := HKW.out.trans hk (fun _ _ h => h)
  have hr := hk.heap (fun h => h) HO2.out
  have HR := Lib.hid hr
  obtain ⟨r0, r1, r2, r3⟩ := cells4p hr
  have z := blkU_frozen hr
  have HK1 := Lib.hid hk1
  unfold PartAg
  clear a1 a2 a3 a4 hk hk1 hr
  go_wp2
  have hF := four10_at HR.out (.func (.func 187) #[] #[pb s, pb (s + 3)]) (.func (.func 188) #[] #[pb (s + 1), pb (s + 3)]) (.func (.func 189) #[] #[pb (s + 2), pb (s + 3)]) (.func (.func 190) #[] #[pb (s + 3)])
  have hK := HK1.out.four10 (b := w.heap.size) (.inr (Nat.le_refl _)) 0 (.func (.func 187) #[] #[pb s, pb (s + 3)]) (.func (.func 188) #[] #[pb (s + 1), pb (s + 3)]) (.func (.func 189) #[] #[pb (s + 2), pb (s + 3)]) (.func (.func 190) #[] #[pb (s + 3)])
  have hO : ∀ (t : TypeId) (b : Nat) (v : Value), OneAt t b v w1 → b ≠ w.heap.size → OneAt t b v (four10 w1 w.heap.size 0 (.func (.func 187) #[] #[pb s, pb (s + 3)]) (.func (.func 188) #[] #[pb (s + 1), pb (s + 3)]) (.func (.func 189) #[] #[pb (s + 2), pb (s + 3)]) (.func (.func 190) #[] #[pb (s + 3)])) := fun t b v h hb => h.kept ((Kept.refl (fun k => k = w.heap.size) w1).four10 (b := w.heap.size) (.inl rfl) 0 (.func (.func 187) #[] #[pb s, pb (s + 3)]) (.func (.func 188) #[] #[pb (s + 1), pb (s + 3)]) (.func (.func 189) #[] #[pb (s + 2), pb (s + 3)]) (.func (.func 190) #[] #[pb (s + 3)])) hb
  clear r0 r1 r2 r3 z
  obtain ⟨r0, r1, r2, r3⟩ := cells4p hF
  clear hF
  unfold four10 at r0 r1 r2 r3 hK hO
  simp only [Nat.zero_add] at r0 r1 r2 r3 hK hO
  generalize hW : World.setCell _ _ _ = W3 at r0 r1 r2 r3 hK hO ⊢

  have hs := HS.out
  exact bodyPost_ret (v := PartAg 187 188 189 190 s (s + 1) (s + 2) (s + 3)) (by simp [results, Tryz.results63, go_sem, PartAg, r0, r1, r2, r3]) rfl ⟨_, rfl, ⟨s, bw, by omega, by omega, rfl, hO _ _ _ HA.out.1 (by omega), hO _ _ _ HA.out.2.1 (by omega), hO _ _ _ HA.out.2.2.1 (by omega), hO _ _ _ HA.out.2.2.2 (by omega), hO _ _ _ HB5.out (by omega)⟩, hK⟩
def Part11 (B : Nat) (w : World) (pv : Value) : Prop := FldPart 148 149 150 151 164 165 166 168 (.func (.func 102) #[] #[]) (.func (.func 103) #[] #[]) (.func (.func 104) #[] #[]) (.func (.func 105) #[] #[]) B w pv
set_option maxRecDepth 100000 in
set_option maxHeartbeats 1000000 in
theorem partAt_11 (w : World) (B : Nat) (hB : B ≤ w.heap.size) : Calls Tryz.prog 63 #[.int .u32 2048] w fun e w' => ∃ pv, e = .returned pv ∧ Part11 B w' pv ∧ Kept NoB w w' := by
  obtain ⟨W, hW⟩ : ∃ W, W = w.alloc (.cells #[.nilFunc, .nilFunc, .nilFunc, .nilFunc] 112 (0, 0)) := ⟨_, rfl⟩
  have hsz : W.heap.size = w.heap.size + 1 := by rw [hW]; simp
  have o2 : W.heap[w.heap.size]? = some (.cells #[.nilFunc, .nilFunc, .nilFunc, .nilFunc] 112 (0, 0)) := by rw [hW]; exact heap_alloc_new w _
  have HKW : Hid (Kept NoB w W) := Lib.hid (by rw [hW]; exact (Kept.refl NoB w).alloc _)
  have HO2 := Lib.hid o2
  have HSZ := Lib.hid hsz
  have HW := Lib.hid hW
  have HN := Lib.hid (field_cmd W (.func (.func 102) #[] #[]) (.func (.func 103) #[] #[]) (.func (.func 104) #[] #[]) (.func (.func 105) #[] #[]) rfl rfl rfl rfl)
  clear hW hsz o2
  go_enter Tryz.func63, Tryz.ntmps63
  go_wp2_with fail
  rw [← HW.out]
  go_wp2_with fail
  refine HN.out.mono ?_
  rintro e w1 ⟨s, hs, rfl, a1, a2, a3, a4, hk⟩
  have HS : Hid (w.heap.size + 1 ≤ s) := Lib.hid (by have := HSZ.out; omega)
  clear hs
  have HA := Lib.hid (And.intro a1 (And.intro a2 (And.intro a3 a4)))
  have hk1 := HKW.out.trans hk (fun _ _ h => h)
  have hr := hk.heap (fun h => h) HO2.out
  have HR := Lib.hid hr
  obtain ⟨r0, r1, r2, r3⟩ := cells4p hr
  have z := blkU_frozen hr
  have HK1 := Lib.hid hk1
  unfold PartAg
  clear a1 a2 a3 a4 hk hk1 hr
  go_wp2
  have hF := four10_at HR.out (.func (.func 148) #[] #[pb s, pb (s + 3)]) (.func (.func 149) #[] #[pb (s + 1), pb (s + 3)]) (.func (.func 150) #[] #[pb (s + 2), pb (s + 3)]) (.func (.func 151) #[] #[pb (s + 3)])
  have hK := HK1.out.four10 (b := w.heap.size) (.inr (Nat.le_refl _)) 0 (.func (.func 148) #[] #[pb s, pb (s + 3)]) (.func (.func 149) #[] #[pb (s + 1), pb (s + 3)]) (.func (.func 150) #[] #[pb (s + 2), pb (s + 3)]) (.func (.func 151) #[] #[pb (s + 3)])
  have hO : ∀ (t : TypeId) (b : Nat) (v : Value), OneAt t b v w1 → b ≠ w.heap.size → OneAt t b v (four10 w1 w.heap.size 0 (.func (.func 148) #[] #[pb s, pb (s + 3)]) (.func (.func 149) #[] #[pb (s + 1), pb (s + 3)]) (.func (.func 150) #[] #[pb (s + 2), pb (s + 3)]) (.func (.func 151) #[] #[pb (s + 3)])) := fun t b v h hb => h.kept ((Kept.refl (fun k => k = w.heap.size) w1).four10 (b := w.heap.size) (.inl rfl) 0 (.func (.func 148) #[] #[pb s, pb (s + 3)]) (.func (.func 149) #[] #[pb (s + 1), pb (s + 3)]) (.func (.func 150) #[] #[pb (s + 2), pb (s + 3)]) (.func (.func 151) #[] #[pb (s + 3)])) hb
  clear r0 r1 r2 r3 z
  obtain ⟨r0, r1, r2, r3⟩ := cells4p hF
  clear hF
  unfold four10 at r0 r1 r2 r3 hK hO
  simp only [Nat.zero_add] at r0 r1 r2 r3 hK hO
  generalize hW : World.setCell _ _ _ = W3 at r0 r1 r2 r3 hK hO ⊢

  have hs := HS.out
  exact bodyPost_ret (v := PartAg 148 149 150 151 s (s + 1) (s + 2) (s + 3)) (by simp [results, Tryz.results63, go_sem, PartAg, r0, r1, r2, r3]) rfl ⟨_, rfl, ⟨s, by omega, rfl, hO _ _ _ HA.out.1 (by omega), hO _ _ _ HA.out.2.1 (by omega), hO _ _ _ HA.out.2.2.1 (by omega), hO _ _ _ HA.out.2.2.2 (by omega)⟩, hK⟩
def Part12 (B : Nat) (w : World) (pv : Value) : Prop := FldPart 154 155 156 157 115 170 171 173 (.func (.func 48) #[] #[]) (.func (.func 107) #[] #[]) (.func (.func 108) #[] #[]) (.func (.func 109) #[] #[]) B w pv
set_option maxRecDepth 100000 in
set_option maxHeartbeats 1000000 in
theorem partAt_12 (w : World) (B : Nat) (hB : B ≤ w.heap.size) : Calls Tryz.prog 63 #[.int .u32 4096] w fun e w' => ∃ pv, e = .returned pv ∧ Part12 B w' pv ∧ Kept NoB w w' := by
  obtain ⟨W, hW⟩ : ∃ W, W = w.alloc (.cells #[.nilFunc, .nilFunc, .nilFunc, .nilFunc] 112 (0, 0)) := ⟨_, rfl⟩
  have hsz : W.heap.size = w.heap.size + 1 := by rw [hW]; simp
  have o2 : W.heap[w.heap.size]? = some (.cells #[.nilFunc, .nilFunc, .nilFunc, .nilFunc] 112 (0, 0)) := by rw [hW]; exact heap_alloc_new w _
  have HKW : Hid (Kept NoB w W) := Lib.hid (by rw [hW]; exact (Kept.refl NoB w).alloc _)
  have HO2 := Lib.hid o2
  have HSZ := Lib.hid hsz
  have HW := Lib.hid hW
  have HN := Lib.hid (field_cnf W (.func (.func 48) #[] #[]) (.func (.func 107) #[] #[]) (.func (.func 108) #[] #[]) (.func (.func 109) #[] #[]) rfl rfl rfl rfl)
  clear hW hsz o2
  go_enter Tryz.func63, Tryz.ntmps63
  go_wp2_with fail
  rw [← HW.out]
  go_wp2_with fail
  refine HN.out.mono ?_
  rintro e w1 ⟨s, hs, rfl, a1, a2, a3, a4, hk⟩
  have HS : Hid (w.heap.size + 1 ≤ s) := Lib.hid (by have := HSZ.out; omega)
  clear hs
  have HA := Lib.hid (And.intro a1 (And.intro a2 (And.intro a3 a4)))
  have hk1 := HKW.out.trans hk (fun _ _ h => h)
  have hr := hk.heap (fun h => h) HO2.out
  have HR := Lib.hid hr
  obtain ⟨r0, r1, r2, r3⟩ := cells4p hr
  have z := blkU_frozen hr
  have HK1 := Lib.hid hk1
  unfold PartAg
  clear a1 a2 a3 a4 hk hk1 hr
  go_wp2
  have hF := four10_at HR.out (.func (.func 154) #[] #[pb s, pb (s + 3)]) (.func (.func 155) #[] #[pb (s + 1), pb (s + 3)]) (.func (.func 156) #[] #[pb (s + 2), pb (s + 3)]) (.func (.func 157) #[] #[pb (s + 3)])
  have hK := HK1.out.four10 (b := w.heap.size) (.inr (Nat.le_refl _)) 0 (.func (.func 154) #[] #[pb s, pb (s + 3)]) (.func (.func 155) #[] #[pb (s + 1), pb (s + 3)]) (.func (.func 156) #[] #[pb (s + 2), pb (s + 3)]) (.func (.func 157) #[] #[pb (s + 3)])
  have hO : ∀ (t : TypeId) (b : Nat) (v : Value), OneAt t b v w1 → b ≠ w.heap.size → OneAt t b v (four10 w1 w.heap.size 0 (.func (.func 154) #[] #[pb s, pb (s + 3)]) (.func (.func 155) #[] #[pb (s + 1), pb (s + 3)]) (.func (.func 156) #[] #[pb (s + 2), pb (s + 3)]) (.func (.func 157) #[] #[pb (s + 3)])) := fun t b v h hb => h.kept ((Kept.refl (fun k => k = w.heap.size) w1).four10 (b := w.heap.size) (.inl rfl) 0 (.func (.func 154) #[] #[pb s, pb (s + 3)]) (.func (.func 155) #[] #[pb (s + 1), pb (s + 3)]) (.func (.func 156) #[] #[pb (s + 2), pb (s + 3)]) (.func (.func 157) #[] #[pb (s + 3)])) hb
  clear r0 r1 r2 r3 z
  obtain ⟨r0, r1, r2, r3⟩ := cells4p hF
  clear hF
  unfold four10 at r0 r1 r2 r3 hK hO
  simp only [Nat.zero_add] at r0 r1 r2 r3 hK hO
  generalize hW : World.setCell _ _ _ = W3 at r0 r1 r2 r3 hK hO ⊢

  have hs := HS.out
  exact bodyPost_ret (v := PartAg 154 155 156 157 s (s + 1) (s + 2) (s + 3)) (by simp [results, Tryz.results63, go_sem, PartAg, r0, r1, r2, r3]) rfl ⟨_, rfl, ⟨s, by omega, rfl, hO _ _ _ HA.out.1 (by omega), hO _ _ _ HA.out.2.1 (by omega), hO _ _ _ HA.out.2.2.1 (by omega), hO _ _ _ HA.out.2.2.2 (by omega)⟩, hK⟩
def Part13 (B : Nat) (w : World) (pv : Value) : Prop := FldPart 160 161 162 163 175 176 177 179 (.func (.func 111) #[] #[]) (.func (.func 112) #[] #[]) (.func (.func 113) #[] #[]) (.func (.func 114) #[] #[]) B w pv
set_option maxRecDepth 100000 in
set_option maxHeartbeats 1000000 in
theorem partAt_13 (w : World) (B : Nat) (hB : B ≤ w.heap.size) : Calls Tryz.prog 63 #[.int .u32 8192] w fun e w' => ∃ pv, e = .returned pv ∧ Part13 B w' pv ∧ Kept NoB w w' := by
  obtain ⟨W, hW⟩ : ∃ W, W = w.alloc (.cells #[.nilFunc, .nilFunc, .nilFunc, .nilFunc] 112 (0, 0)) := ⟨_, rfl⟩
  have hsz : W.heap.size = w.heap.size + 1 := by rw [hW]; simp
  have o2 : W.heap[w.heap.size]? = some (.cells #[.nilFunc, .nilFunc, .nilFunc, .nilFunc] 112 (0, 0)) := by rw [hW]; exact heap_alloc_new w _
  have HKW : Hid (Kept NoB w W) := Lib.hid (by rw [hW]; exact (Kept.refl NoB w).alloc _)
  have HO2 := Lib.hid o2
  have HSZ := Lib.hid hsz
  have HW := Lib.hid hW
  have HN := Lib.hid (field_vts W (.func (.func 111) #[] #[]) (.func (.func 112) #[] #[]) (.func (.func 113) #[] #[]) (.func (.func 114) #[] #[]) rfl rfl rfl rfl)
  clear hW hsz o2
  go_enter Tryz.func63, Tryz.ntmps63
  go_wp2_with fail
  rw [← HW.out]
  go_wp2_with fail
  refine HN.out.mono ?_
  rintro e w1 ⟨s, hs, rfl, a1, a2, a3, a4, hk⟩
  have HS : Hid (w.heap.size + 1 ≤ s) := Lib.hid (by have := HSZ.out; omega)
  clear hs
  have HA := Lib.hid (And.intro a1 (And.intro a2 (And.intro a3 a4)))
  have hk1 := HKW.out.trans hk (fun _ _ h => h)
  have hr := hk.heap (fun h => h) HO2.out
  have HR := Lib.hid hr
  obtain ⟨r0, r1, r2, r3⟩ := cells4p hr
  have z := blkU_frozen hr
  have HK1 := Lib.hid hk1
  unfold PartAg
  clear a1 a2 a3 a4 hk hk1 hr
  go_wp2
  have hF := four10_at HR.out (.func (.func 160) #[] #[pb s, pb (s + 3)]) (.func (.func 161) #[] #[pb (s + 1), pb (s + 3)]) (.func (.func 162) #[] #[pb (s + 2), pb (s + 3)]) (.func (.func 163) #[] #[pb (s + 3)])
  have hK := HK1.out.four10 (b := w.heap.size) (.inr (Nat.le_refl _)) 0 (.func (.func 160) #[] #[pb s, pb (s + 3)]) (.func (.func 161) #[] #[pb (s + 1), pb (s + 3)]) (.func (.func 162) #[] #[pb (s + 2), pb (s + 3)]) (.func (.func 163) #[] #[pb (s + 3)])
  have hO : ∀ (t : TypeId) (b : Nat) (v : Value), OneAt t b v w1 → b ≠ w.heap.size → OneAt t b v (four10 w1 w.heap.size 0 (.func (.func 160) #[] #[pb s, pb (s + 3)]) (.func (.func 161) #[] #[pb (s + 1), pb (s + 3)]) (.func (.func 162) #[] #[pb (s + 2), pb (s + 3)]) (.func (.func 163) #[] #[pb (s + 3)])) := fun t b v h hb => h.kept ((Kept.refl (fun k => k = w.heap.size) w1).four10 (b := w.heap.size) (.inl rfl) 0 (.func (.func 160) #[] #[pb s, pb (s + 3)]) (.func (.func 161) #[] #[pb (s + 1), pb (s + 3)]) (.func (.func 162) #[] #[pb (s + 2), pb (s + 3)]) (.func (.func 163) #[] #[pb (s + 3)])) hb
  clear r0 r1 r2 r3 z
  obtain ⟨r0, r1, r2, r3⟩ := cells4p hF
  clear hF
  unfold four10 at r0 r1 r2 r3 hK hO
  simp only [Nat.zero_add] at r0 r1 r2 r3 hK hO
  generalize hW : World.setCell _ _ _ = W3 at r0 r1 r2 r3 hK hO ⊢

  have hs := HS.out
  exact bodyPost_ret (v := PartAg 160 161 162 163 s (s + 1) (s + 2) (s + 3)) (by simp [results, Tryz.results63, go_sem, PartAg, r0, r1, r2, r3]) rfl ⟨_, rfl, ⟨s, by omega, rfl, hO _ _ _ HA.out.1 (by omega), hO _ _ _ HA.out.2.1 (by omega), hO _ _ _ HA.out.2.2.1 (by omega), hO _ _ _ HA.out.2.2.2 (by omega)⟩, hK⟩
def Part16 (B : Nat) (w : World) (pv : Value) : Prop := DatPart 1024 B w pv
set_option maxRecDepth 100000 in
set_option maxHeartbeats 1000000 in
theorem partAt_16 (w : World) (B : Nat) (hB : B ≤ w.heap.size) : Calls Tryz.prog 63 #[.int .u32 65536] w fun e w' => ∃ pv, e = .returned pv ∧ Part16 B w' pv ∧ Kept NoB w w' := by
  obtain ⟨W, hW⟩ : ∃ W, W = w.alloc (.cells #[.nilFunc, .nilFunc, .nilFunc, .nilFunc] 112 (0, 0)) := ⟨_, rfl⟩
  have hsz : W.heap.size = w.heap.size + 1 := by rw [hW]; simp
  have o2 : W.heap[w.heap.size]? = some (.cells #[.nilFunc, .nilFunc, .nilFunc, .nilFunc] 112 (0, 0)) := by rw [hW]; exact heap_alloc_new w _
  have HKW : Hid (Kept NoB w W) := Lib.hid (by rw [hW]; exact (Kept.refl NoB w).alloc _)
  have HO2 := Lib.hid o2
  have HSZ := Lib.hid hsz
  have HW := Lib.hid hW
  have HN := Lib.hid (data_any W 1024)
  clear hW hsz o2
  go_enter Tryz.func63, Tryz.ntmps63
  go_wp2_with fail
  rw [← HW.out]
  go_wp2_with fail
  refine HN.out.mono ?_
  rintro e w1 ⟨pv, rfl, ⟨s, bw, hs, hbw, rfl, a1, a4, a5⟩, hk⟩
  have HB5 := Lib.hid a5
  have HS : Hid (w.heap.size + 1 ≤ s ∧ w.heap.size + 1 ≤ bw) := Lib.hid (by have := HSZ.out; omega)
  have a2 := a1
  have a3 := a1
  clear hs hbw a5
  have HA := Lib.hid (And.intro a1 (And.intro a2 (And.intro a3 a4)))
  have hk1 := HKW.out.trans hk (fun _ _ h => h)
  have hr := hk.heap (fun h => h) HO2.out
  have HR := Lib.hid hr
  obtain ⟨r0, r1, r2, r3⟩ := cells4p hr
  have z := blkU_frozen hr
  have HK1 := Lib.hid hk1
  unfold PartAg
  clear a1 a2 a3 a4 hk hk1 hr
  go_wp2
  have hF := four10_at HR.out (.func (.func 209) #[] #[pb s, pb (s + 3)]) (.func (.func 210) #[] #[pb (s + 1), pb (s + 3)]) (.func (.func 211) #[] #[pb (s + 2), pb (s + 3)]) (.func (.func 212) #[] #[pb (s + 3)])
  have hK := HK1.out.four10 (b := w.heap.size) (.inr (Nat.le_refl _)) 0 (.func (.func 209) #[] #[pb s, pb (s + 3)]) (.func (.func 210) #[] #[pb (s + 1), pb (s + 3)]) (.func (.func 211) #[] #[pb (s + 2), pb (s + 3)]) (.func (.func 212) #[] #[pb (s + 3)])
  have hO : ∀ (t : TypeId) (b : Nat) (v : Value), OneAt t b v w1 → b ≠ w.heap.size → OneAt t b v (four10 w1 w.heap.size 0 (.func (.func 209) #[] #[pb s, pb (s + 3)]) (.func (.func 210) #[] #[pb (s + 1), pb (s + 3)]) (.func (.func 211) #[] #[pb (s + 2), pb (s + 3)]) (.func (.func 212) #[] #[pb (s + 3)])) := fun t b v h hb => h.kept ((Kept.refl (fun k => k = w.heap.size) w1).four10 (b := w.heap.size) (.inl rfl) 0 (.func (.func 209) #[] #[pb s, pb (s + 3)]) (.func (.func 210) #[] #[pb (s + 1), pb (s + 3)]) (.func (.func 211) #[] #[pb (s + 2), pb (s + 3)]) (.func (.func 212) #[] #[pb (s + 3)])) hb
  clear r0 r1 r2 r3 z
  obtain ⟨r0, r1, r2, r3⟩ := cells4p hF
  clear hF
  unfold four10 at r0 r1 r2 r3 hK hO
  simp only [Nat.zero_add] at r0 r1 r2 r3 hK hO
  generalize hW : World.setCell _ _ _ = W3 at r0 r1 r2 r3 hK hO ⊢

  have hs := HS.out
  exact bodyPost_ret (v := PartAg 209 210 211 212 s (s + 1) (s + 2) (s + 3)) (by simp [results, Tryz.results63, go_sem, PartAg, r0, r1, r2, r3]) rfl ⟨_, rfl, ⟨s, bw, by omega, by omega, rfl, hO _ _ _ HA.out.1 (by omega), hO _ _ _ HA.out.2.2.2 (by omega), hO _ _ _ HB5.out (by omega)⟩, hK⟩
def Part17 (B : Nat) (w : World) (pv : Value) : Prop := DatPart 2048 B w pv
set_option maxRecDepth 100000 in
set_option maxHeartbeats 1000000 in
theorem partAt_17 (w : World) (B : Nat) (hB : B ≤ w.heap.size) : Calls Tryz.prog 63 #[.int .u32 131072] w fun e w' => ∃ pv, e = .returned pv ∧ Part17 B w' pv ∧ Kept NoB w w' := by
  obtain ⟨W, hW⟩ : ∃ W, W = w.alloc (.cells #[.nilFunc, .nilFunc, .nilFunc, .nilFunc] 112 (0, 0)) := ⟨_, rfl⟩
  have hsz : W.heap.size = w.heap.size + 1 := by rw [hW]; simp
  have o2 : W.heap[w.heap.size]? = some (.cells #[.nilFunc, .nilFunc, .nilFunc, .nilFunc] 112 (0, 0)) := by rw [hW]; exact heap_alloc_new w _
  have HKW : Hid (Kept NoB w W) := Lib.hid (by rw [hW]; exact (Kept.refl NoB w).alloc _)
  have HO2 := Lib.hid o2
  have HSZ := Lib.hid hsz
  have HW := Lib.hid hW
  have HN := Lib.hid (data_any W 2048)
  clear hW hsz o2
  go_enter Tryz.func63, Tryz.ntmps63
  go_wp2_with fail
  rw [← HW.out]
  go_wp2_with fail
  refine HN.out.mono ?_
  rintro e w1 ⟨pv, rfl, ⟨s, bw, hs, hbw, rfl, a1, a4, a5⟩, hk⟩
  have HB5 := Lib.hid a5
  have HS : Hid (w.heap.size + 1 ≤ s ∧ w.heap.size + 1 ≤ bw) := Lib.hid (by have := HSZ.out; omega)
  have a2 := a1
  have a3 := a1
  clear hs hbw a5
  have HA := Lib.hid (And.intro a1 (And.intro a2 (And.intro a3 a4)))
  have hk1 := HKW.out.trans hk (fun _ _ h => h)
  have hr := hk.heap (fun h => h) HO2.out
  have HR := Lib.hid hr
  obtain ⟨r0, r1, r2, r3⟩ := cells4p hr
  have z := blkU_frozen hr
  have HK1 := Lib.hid hk1
  unfold PartAg
  clear a1 a2 a3 a4 hk hk1 hr
  go_wp2
  have hF := four10_at HR.out (.func (.func 209) #[] #[pb s, pb (s + 3)]) (.func (.func 210) #[] #[pb (s + 1), pb (s + 3)]) (.func (.func 211) #[] #[pb (s + 2), pb (s + 3)]) (.func (.func 212) #[] #[pb (s + 3)])
  have hK := HK1.out.four10 (b := w.heap.size) (.inr (Nat.le_refl _)) 0 (.func (.func 209) #[] #[pb s, pb (s + 3)]) (.func (.func 210) #[] #[pb (s + 1), pb (s + 3)]) (.func (.func 211) #[] #[pb (s + 2), pb (s + 3)]) (.func (.func 212) #[] #[pb (s + 3)])
  have hO : ∀ (t : TypeId) (b : Nat) (v : Value), OneAt t b v w1 → b ≠ w.heap.size → OneAt t b v (four10 w1 w.heap.size 0 (.func (.func 209) #[] #[pb s, pb (s + 3)]) (.func (.func 210) #[] #[pb (s + 1), pb (s + 3)]) (.func (.func 211) #[] #[pb (s + 2), pb (s + 3)]) (.func (.func 212) #[] #[pb (s + 3)])) := fun t b v h hb => h.kept ((Kept.refl (fun k => k = w.heap.size) w1).four10 (b := w.heap.size) (.inl rfl) 0 (.func (.func 209) #[] #[pb s, pb (s + 3)]) (.func (.func 210) #[] #[pb (s + 1), pb (s + 3)]) (.func (.func 211) #[] #[pb (s + 2), pb (s + 3)]) (.func (.func 212) #[] #[pb (s + 3)])) hb
  clear r0 r1 r2 r3 z
  obtain ⟨r0, r1, r2, r3⟩ := cells4p hF
  clear hF
  unfold four10 at r0 r1 r2 r3 hK hO
  simp only [Nat.zero_add] at r0 r1 r2 r3 hK hO
  generalize hW : World.setCell _ _ _ = W3 at r0 r1 r2 r3 hK hO ⊢

  have hs := HS.out
  exact bodyPost_ret (v := PartAg 209 210 211 212 s (s + 1) (s + 2) (s + 3)) (by simp [results, Tryz.results63, go_sem, PartAg, r0, r1, r2, r3]) rfl ⟨_, rfl, ⟨s, bw, by omega, by omega, rfl, hO _ _ _ HA.out.1 (by omega), hO _ _ _ HA.out.2.2.2 (by omega), hO _ _ _ HB5.out (by omega)⟩, hK⟩
end Go.Proofs.YtclfecninhipnaaGreatDoor
namespace Go.Proofs.YtclfecninhipnaaGreatDoor
open Go.RowKit
set_option linter.unusedVariables false
set_option linter.unusedSimpArgs false

set_option maxRecDepth 100000 in
set_option maxHeartbeats 1000000 in
theorem right_0 (w : World) (g s : Nat) (x : Int) (x0 : 0 ≤ x) (x1 : x ≤ 18446744073709551615) (h1 : OneAt 148 s (.func (.func 82) #[] #[]) w) (h4 : OneAt 150 (s + 3) (.func (.func 83) #[] #[]) w) (hc : w.cell? ⟨g, 5, none⟩ = some (.int .u64 x)) : Calls Tryz.prog 187 #[pb g, pb s, pb (s + 3)] w (YesNoK (balB x) w) := by
  have HCK := Lib.hid (fun w' (hk : Kept NoB w w') => isBallot_any w' x x0 x1)
  have HTEN : Hid (∀ w', Kept NoB w w' → w'.cell? ⟨s, 0, none⟩ = some (.func (.func 82) #[] #[]) ∧ w'.cell? ⟨s + 3, 0, none⟩ = some (.func (.func 83) #[] #[]) ∧ w'.cell? ⟨g, 5, none⟩ = some (.int .u64 x)) := Lib.hid (fun w' hk => ⟨(h1.no hk).cell, (h4.no hk).cell, hk.cell (p := ⟨g, 5, none⟩) (fun h => h) hc⟩)
  have HTO := Lib.hid (fun w' => to_partAt_1 w' g)
  have hent1 : ∀ (args : Array Value) (w : World), Sem.run Tryz.prog (callFunc 82 args) w = .ok (.enter 82 args) w := ent_isBallot
  have hent2 : ∀ (args : Array Value) (w : World), Sem.run Tryz.prog (callFunc 83 args) w = .ok (.enter 83 args) w := ent_partAt_1
  clear h1 h4 hc x0 x1
  go_enter Tryz.func187, Tryz.ntmps187
  go_wp2_with fail
  have HKe := Lib.hid (Kept.refl NoB w).drew
  have HT := Lib.hid (HTEN.out _ HKe.out)
  go_region_held3 (fun w' => w'.cell? ⟨s, 0, none⟩ = some (.func (.func 82) #[] #[]) ∧ w'.cell? ⟨s + 3, 0, none⟩ = some (.func (.func 83) #[] #[]) ∧ w'.cell? ⟨g, 5, none⟩ = some (.int .u64 x)) (with_reducible exact HT.out)
    (first
      | (go_at_call 83; (with_reducible refine (HTO.out _).mono ?_); rintro e w1 ⟨rfl, rfl⟩)
      | (go_at_call 82; (with_reducible refine (HCK.out _ HKe.out).mono ?_); rintro e w1 ⟨rfl, rfl⟩))
  go_wp2
  go_ret
  exact ⟨rfl, HKe.out⟩
set_option maxRecDepth 100000 in
set_option maxHeartbeats 1000000 in
theorem drop_0 (w : World) (g ba : Nat) (cs : Array Value) (h4 : OneAt 150 ba (.func (.func 83) #[] #[]) w) (hc : w.heap[g]? = some (.cells cs 48 (0, 0))) (hl : cs.size = 25) : Calls Tryz.prog 190 #[pb g, pb ba] w fun e w' => e = .returned (.tuple #[]) ∧ w' = (w.setCell ⟨g, 5, none⟩ (.int .u64 0)) := by
  have HTO := Lib.hid (fun w' => to_partAt_1 w' g)
  have hent2 : ∀ (args : Array Value) (w : World), Sem.run Tryz.prog (callFunc 83 args) w = .ok (.enter 83 args) w := ent_partAt_1
  have c4 := h4.cell
  have cg0 : w.cell? ⟨g, 5, none⟩ = some (cs[5]'(by omega)) := by rw [cell_of_row _ _ _ _ _ _ hc]; exact Array.getElem?_eq_getElem (by omega)
  have zg0 := blkU_frozen hc 5
  clear h4 hc
  go_enter Tryz.func190, Tryz.ntmps190
  go_wp2_with fail
  refine (HTO.out _).mono ?_
  rintro e w1 ⟨rfl, rfl⟩
  go_wp2
  go_end0
  exact ⟨rfl, rfl⟩
set_option maxRecDepth 100000 in
set_option maxHeartbeats 1000000 in
theorem right_5 (w : World) (g s : Nat) (bm : Nat) (x : Int) (hm : OneAt 3 bm (.int .i64 512) w) (h1 : OneAt 104 s (.func (.func 140) #[] #[pb bm]) w) (h4 : OneAt 154 (s + 3) (.func (.func 92) #[] #[]) w) (hc : w.cell? ⟨g, 10, none⟩ = some (.int .i64 x)) : Calls Tryz.prog 192 #[pb g, pb s, pb (s + 3)] w (YesNoK (decide (0 ≤ x) && decide (x ≤ 512)) w) := by
  have HCK := Lib.hid (fun w' (hk : Kept NoB w w') => uptoInt_any w' x 512 bm (hm.no hk).cell)
  have HTEN : Hid (∀ w', Kept NoB w w' → w'.cell? ⟨s, 0, none⟩ = some (.func (.func 140) #[] #[pb bm]) ∧ w'.cell? ⟨s + 3, 0, none⟩ = some (.func (.func 92) #[] #[]) ∧ w'.cell? ⟨g, 10, none⟩ = some (.int .i64 x)) := Lib.hid (fun w' hk => ⟨(h1.no hk).cell, (h4.no hk).cell, hk.cell (p := ⟨g, 10, none⟩) (fun h => h) hc⟩)
  have HTO := Lib.hid (fun w' => to_partAt_6 w' g)
  have hent1 : ∀ (args : Array Value) (w : World), Sem.run Tryz.prog (callFunc 140 args) w = .ok (.enter 140 args) w := ent_upto_int
  have hent2 : ∀ (args : Array Value) (w : World), Sem.run Tryz.prog (callFunc 92 args) w = .ok (.enter 92 args) w := ent_partAt_6
  clear h1 h4 hc hm
  go_enter Tryz.func192, Tryz.ntmps192
  go_wp2_with fail
  have HKe := Lib.hid (Kept.refl NoB w).drew
  have HT := Lib.hid (HTEN.out _ HKe.out)
  go_region_held3 (fun w' => w'.cell? ⟨s, 0, none⟩ = some (.func (.func 140) #[] #[pb bm]) ∧ w'.cell? ⟨s + 3, 0, none⟩ = some (.func (.func 92) #[] #[]) ∧ w'.cell? ⟨g, 10, none⟩ = some (.int .i64 x)) (with_reducible exact HT.out)
    (first
      | (go_at_call 92; (with_reducible refine (HTO.out _).mono ?_); rintro e w1 ⟨rfl, rfl⟩)
      | (go_at_call 140; (with_reducible refine (HCK.out _ HKe.out).mono ?_); rintro e w1 ⟨rfl, rfl⟩))
  go_wp2
  go_ret
  exact ⟨rfl, HKe.out⟩
set_option maxRecDepth 100000 in
set_option maxHeartbeats 1000000 in
theorem drop_5 (w : World) (g ba : Nat) (cs : Array Value) (h4 : OneAt 154 ba (.func (.func 92) #[] #[]) w) (hc : w.heap[g]? = some (.cells cs 48 (0, 0))) (hl : cs.size = 25) : Calls Tryz.prog 195 #[pb g, pb ba] w fun e w' => e = .returned (.tuple #[]) ∧ w' = (w.setCell ⟨g, 10, none⟩ (.int .i64 0)) := by
  have HTO := Lib.hid (fun w' => to_partAt_6 w' g)
  have hent2 : ∀ (args : Array Value) (w : World), Sem.run Tryz.prog (callFunc 92 args) w = .ok (.enter 92 args) w := ent_partAt_6
  have c4 := h4.cell
  have cg0 : w.cell? ⟨g, 10, none⟩ = some (cs[10]'(by omega)) := by rw [cell_of_row _ _ _ _ _ _ hc]; exact Array.getElem?_eq_getElem (by omega)
  have zg0 := blkU_frozen hc 10
  clear h4 hc
  go_enter Tryz.func195, Tryz.ntmps195
  go_wp2_with fail
  refine (HTO.out _).mono ?_
  rintro e w1 ⟨rfl, rfl⟩
  go_wp2
  go_end0
  exact ⟨rfl, rfl⟩
set_option maxRecDepth 100000 in
set_option maxHeartbeats 1000000 in
theorem right_6 (w : World) (g s : Nat) (x : Int) (h1 : OneAt 148 s (.func (.func 89) #[] #[]) w) (h4 : OneAt 150 (s + 3) (.func (.func 93) #[] #[]) w) (hc : w.cell? ⟨g, 6, none⟩ = some (.int .u64 x)) : Calls Tryz.prog 187 #[pb g, pb s, pb (s + 3)] w (YesNoK (true) w) := by
  have HCK := Lib.hid (fun w' (hk : Kept NoB w w') => anyU64_any w' x)
  have HTEN : Hid (∀ w', Kept NoB w w' → w'.cell? ⟨s, 0, none⟩ = some (.func (.func 89) #[] #[]) ∧ w'.cell? ⟨s + 3, 0, none⟩ = some (.func (.func 93) #[] #[]) ∧ w'.cell? ⟨g, 6, none⟩ = some (.int .u64 x)) := Lib.hid (fun w' hk => ⟨(h1.no hk).cell, (h4.no hk).cell, hk.cell (p := ⟨g, 6, none⟩) (fun h => h) hc⟩)
  have HTO := Lib.hid (fun w' => to_partAt_7 w' g)
  have hent1 : ∀ (args : Array Value) (w : World), Sem.run Tryz.prog (callFunc 89 args) w = .ok (.enter 89 args) w := ent_any_u64
  have hent2 : ∀ (args : Array Value) (w : World), Sem.run Tryz.prog (callFunc 93 args) w = .ok (.enter 93 args) w := ent_partAt_7
  clear h1 h4 hc
  go_enter Tryz.func187, Tryz.ntmps187
  go_wp2_with fail
  have HKe := Lib.hid (Kept.refl NoB w).drew
  have HT := Lib.hid (HTEN.out _ HKe.out)
  go_region_held3 (fun w' => w'.cell? ⟨s, 0, none⟩ = some (.func (.func 89) #[] #[]) ∧ w'.cell? ⟨s + 3, 0, none⟩ = some (.func (.func 93) #[] #[]) ∧ w'.cell? ⟨g, 6, none⟩ = some (.int .u64 x)) (with_reducible exact HT.out)
    (first
      | (go_at_call 93; (with_reducible refine (HTO.out _).mono ?_); rintro e w1 ⟨rfl, rfl⟩)
      | (go_at_call 89; (with_reducible refine (HCK.out _ HKe.out).mono ?_); rintro e w1 ⟨rfl, rfl⟩))
  go_wp2
  go_ret
  exact ⟨rfl, HKe.out⟩
set_option maxRecDepth 100000 in
set_option maxHeartbeats 1000000 in
theorem drop_6 (w : World) (g ba : Nat) (cs : Array Value) (h4 : OneAt 150 ba (.func (.func 93) #[] #[]) w) (hc : w.heap[g]? = some (.cells cs 48 (0, 0))) (hl : cs.size = 25) : Calls Tryz.prog 190 #[pb g, pb ba] w fun e w' => e = .returned (.tuple #[]) ∧ w' = (w.setCell ⟨g, 6, none⟩ (.int .u64 0)) := by
  have HTO := Lib.hid (fun w' => to_partAt_7 w' g)
  have hent2 : ∀ (args : Array Value) (w : World), Sem.run Tryz.prog (callFunc 93 args) w = .ok (.enter 93 args) w := ent_partAt_7
  have c4 := h4.cell
  have cg0 : w.cell? ⟨g, 6, none⟩ = some (cs[6]'(by omega)) := by rw [cell_of_row _ _ _ _ _ _ hc]; exact Array.getElem?_eq_getElem (by omega)
  have zg0 := blkU_frozen hc 6
  clear h4 hc
  go_enter Tryz.func190, Tryz.ntmps190
  go_wp2_with fail
  refine (HTO.out _).mono ?_
  rintro e w1 ⟨rfl, rfl⟩
  go_wp2
  go_end0
  exact ⟨rfl, rfl⟩
set_option maxRecDepth 100000 in
set_option maxHeartbeats 1000000 in
theorem right_7 (w : World) (g s : Nat) (bm : Nat) (x : Int) (hm : OneAt 3 bm (.int .i64 512) w) (h1 : OneAt 104 s (.func (.func 140) #[] #[pb bm]) w) (h4 : OneAt 154 (s + 3) (.func (.func 92) #[] #[]) w) (hc : w.cell? ⟨g, 10, none⟩ = some (.int .i64 x)) : Calls Tryz.prog 192 #[pb g, pb s, pb (s + 3)] w (YesNoK (decide (0 ≤ x) && decide (x ≤ 512)) w) := by
  have HCK := Lib.hid (fun w' (hk : Kept NoB w w') => uptoInt_any w' x 512 bm (hm.no hk).cell)
  have HTEN : Hid (∀ w', Kept NoB w w' → w'.cell? ⟨s, 0, none⟩ = some (.func (.func 140) #[] #[pb bm]) ∧ w'.cell? ⟨s + 3, 0, none⟩ = some (.func (.func 92) #[] #[]) ∧ w'.cell? ⟨g, 10, none⟩ = some (.int .i64 x)) := Lib.hid (fun w' hk => ⟨(h1.no hk).cell, (h4.no hk).cell, hk.cell (p := ⟨g, 10, none⟩) (fun h => h) hc⟩)
  have HTO := Lib.hid (fun w' => to_partAt_6 w' g)
  have hent1 : ∀ (args : Array Value) (w : World), Sem.run Tryz.prog (callFunc 140 args) w = .ok (.enter 140 args) w := ent_upto_int
  have hent2 : ∀ (args : Array Value) (w : World), Sem.run Tryz.prog (callFunc 92 args) w = .ok (.enter 92 args) w := ent_partAt_6
  clear h1 h4 hc hm
  go_enter Tryz.func192, Tryz.ntmps192
  go_wp2_with fail
  have HKe := Lib.hid (Kept.refl NoB w).drew
  have HT := Lib.hid (HTEN.out _ HKe.out)
  go_region_held3 (fun w' => w'.cell? ⟨s, 0, none⟩ = some (.func (.func 140) #[] #[pb bm]) ∧ w'.cell? ⟨s + 3, 0, none⟩ = some (.func (.func 92) #[] #[]) ∧ w'.cell? ⟨g, 10, none⟩ = some (.int .i64 x)) (with_reducible exact HT.out)
    (first
      | (go_at_call 92; (with_reducible refine (HTO.out _).mono ?_); rintro e w1 ⟨rfl, rfl⟩)
      | (go_at_call 140; (with_reducible refine (HCK.out _ HKe.out).mono ?_); rintro e w1 ⟨rfl, rfl⟩))
  go_wp2
  go_ret
  exact ⟨rfl, HKe.out⟩
set_option maxRecDepth 100000 in
set_option maxHeartbeats 1000000 in
theorem right_8 (w : World) (g s : Nat) (x : Int) (h1 : OneAt 156 s (.func (.func 95) #[] #[]) w) (h4 : OneAt 157 (s + 3) (.func (.func 96) #[] #[]) w) (hc : w.cell? ⟨g, 11, none⟩ = some (.int .u32 x)) : Calls Tryz.prog 196 #[pb g, pb s, pb (s + 3)] w (YesNoK (true) w) := by
  have HCK := Lib.hid (fun w' (hk : Kept NoB w w') => anyU32_any w' x)
  have HTEN : Hid (∀ w', Kept NoB w w' → w'.cell? ⟨s, 0, none⟩ = some (.func (.func 95) #[] #[]) ∧ w'.cell? ⟨s + 3, 0, none⟩ = some (.func (.func 96) #[] #[]) ∧ w'.cell? ⟨g, 11, none⟩ = some (.int .u32 x)) := Lib.hid (fun w' hk => ⟨(h1.no hk).cell, (h4.no hk).cell, hk.cell (p := ⟨g, 11, none⟩) (fun h => h) hc⟩)
  have HTO := Lib.hid (fun w' => to_partAt_8 w' g)
  have hent1 : ∀ (args : Array Value) (w : World), Sem.run Tryz.prog (callFunc 95 args) w = .ok (.enter 95 args) w := ent_any_u32
  have hent2 : ∀ (args : Array Value) (w : World), Sem.run Tryz.prog (callFunc 96 args) w = .ok (.enter 96 args) w := ent_partAt_8
  clear h1 h4 hc
  go_enter Tryz.func196, Tryz.ntmps196
  go_wp2_with fail
  have HKe := Lib.hid (Kept.refl NoB w).drew
  have HT := Lib.hid (HTEN.out _ HKe.out)
  go_region_held3 (fun w' => w'.cell? ⟨s, 0, none⟩ = some (.func (.func 95) #[] #[]) ∧ w'.cell? ⟨s + 3, 0, none⟩ = some (.func (.func 96) #[] #[]) ∧ w'.cell? ⟨g, 11, none⟩ = some (.int .u32 x)) (with_reducible exact HT.out)
    (first
      | (go_at_call 96; (with_reducible refine (HTO.out _).mono ?_); rintro e w1 ⟨rfl, rfl⟩)
      | (go_at_call 95; (with_reducible refine (HCK.out _ HKe.out).mono ?_); rintro e w1 ⟨rfl, rfl⟩))
  go_wp2
  go_ret
  exact ⟨rfl, HKe.out⟩
set_option maxRecDepth 100000 in
set_option maxHeartbeats 1000000 in
theorem drop_8 (w : World) (g ba : Nat) (cs : Array Value) (h4 : OneAt 157 ba (.func (.func 96) #[] #[]) w) (hc : w.heap[g]? = some (.cells cs 48 (0, 0))) (hl : cs.size = 25) : Calls Tryz.prog 199 #[pb g, pb ba] w fun e w' => e = .returned (.tuple #[]) ∧ w' = (w.setCell ⟨g, 11, none⟩ (.int .u32 0)) := by
  have HTO := Lib.hid (fun w' => to_partAt_8 w' g)
  have hent2 : ∀ (args : Array Value) (w : World), Sem.run Tryz.prog (callFunc 96 args) w = .ok (.enter 96 args) w := ent_partAt_8
  have c4 := h4.cell
  have cg0 : w.cell? ⟨g, 11, none⟩ = some (cs[11]'(by omega)) := by rw [cell_of_row _ _ _ _ _ _ hc]; exact Array.getElem?_eq_getElem (by omega)
  have zg0 := blkU_frozen hc 11
  clear h4 hc
  go_enter Tryz.func199, Tryz.ntmps199
  go_wp2_with fail
  refine (HTO.out _).mono ?_
  rintro e w1 ⟨rfl, rfl⟩
  go_wp2
  go_end0
  exact ⟨rfl, rfl⟩
set_option maxRecDepth 100000 in
set_option maxHeartbeats 1000000 in
theorem right_9 (w : World) (g s : Nat) (bm : Nat) (x : Int) (hm : OneAt 29 bm (.int .i64 255) w) (h1 : OneAt 159 s (.func (.func 147) #[] #[pb bm]) w) (h4 : OneAt 162 (s + 3) (.func (.func 99) #[] #[]) w) (hc : w.cell? ⟨g, 12, none⟩ = some (.int .i64 x)) : Calls Tryz.prog 200 #[pb g, pb s, pb (s + 3)] w (YesNoK (decide (0 ≤ x) && decide (x ≤ 255)) w) := by
  have HCK := Lib.hid (fun w' (hk : Kept NoB w w') => uptoErr_any w' x 255 bm (hm.no hk).cell)
  have HTEN : Hid (∀ w', Kept NoB w w' → w'.cell? ⟨s, 0, none⟩ = some (.func (.func 147) #[] #[pb bm]) ∧ w'.cell? ⟨s + 3, 0, none⟩ = some (.func (.func 99) #[] #[]) ∧ w'.cell? ⟨g, 12, none⟩ = some (.int .i64 x)) := Lib.hid (fun w' hk => ⟨(h1.no hk).cell, (h4.no hk).cell, hk.cell (p := ⟨g, 12, none⟩) (fun h => h) hc⟩)
  have HTO := Lib.hid (fun w' => to_partAt_9 w' g)
  have hent1 : ∀ (args : Array Value) (w : World), Sem.run Tryz.prog (callFunc 147 args) w = .ok (.enter 147 args) w := ent_upto_err
  have hent2 : ∀ (args : Array Value) (w : World), Sem.run Tryz.prog (callFunc 99 args) w = .ok (.enter 99 args) w := ent_partAt_9
  clear h1 h4 hc hm
  go_enter Tryz.func200, Tryz.ntmps200
  go_wp2_with fail
  have HKe := Lib.hid (Kept.refl NoB w).drew
  have HT := Lib.hid (HTEN.out _ HKe.out)
  go_region_held3 (fun w' => w'.cell? ⟨s, 0, none⟩ = some (.func (.func 147) #[] #[pb bm]) ∧ w'.cell? ⟨s + 3, 0, none⟩ = some (.func (.func 99) #[] #[]) ∧ w'.cell? ⟨g, 12, none⟩ = some (.int .i64 x)) (with_reducible exact HT.out)
    (first
      | (go_at_call 99; (with_reducible refine (HTO.out _).mono ?_); rintro e w1 ⟨rfl, rfl⟩)
      | (go_at_call 147; (with_reducible refine (HCK.out _ HKe.out).mono ?_); rintro e w1 ⟨rfl, rfl⟩))
  go_wp2
  go_ret
  exact ⟨rfl, HKe.out⟩
set_option maxRecDepth 100000 in
set_option maxHeartbeats 1000000 in
theorem drop_9 (w : World) (g ba : Nat) (cs : Array Value) (h4 : OneAt 162 ba (.func (.func 99) #[] #[]) w) (hc : w.heap[g]? = some (.cells cs 48 (0, 0))) (hl : cs.size = 25) : Calls Tryz.prog 203 #[pb g, pb ba] w fun e w' => e = .returned (.tuple #[]) ∧ w' = (w.setCell ⟨g, 12, none⟩ (.int .i64 0)) := by
  have HTO := Lib.hid (fun w' => to_partAt_9 w' g)
  have hent2 : ∀ (args : Array Value) (w : World), Sem.run Tryz.prog (callFunc 99 args) w = .ok (.enter 99 args) w := ent_partAt_9
  have c4 := h4.cell
  have cg0 : w.cell? ⟨g, 12, none⟩ = some (cs[12]'(by omega)) := by rw [cell_of_row _ _ _ _ _ _ hc]; exact Array.getElem?_eq_getElem (by omega)
  have zg0 := blkU_frozen hc 12
  clear h4 hc
  go_enter Tryz.func203, Tryz.ntmps203
  go_wp2_with fail
  refine (HTO.out _).mono ?_
  rintro e w1 ⟨rfl, rfl⟩
  go_wp2
  go_end0
  exact ⟨rfl, rfl⟩
set_option maxRecDepth 100000 in
set_option maxHeartbeats 1000000 in
theorem right_10 (w : World) (g s : Nat) (x : Int) (h1 : OneAt 148 s (.func (.func 89) #[] #[]) w) (h4 : OneAt 150 (s + 3) (.func (.func 100) #[] #[]) w) (hc : w.cell? ⟨g, 9, none⟩ = some (.int .u64 x)) : Calls Tryz.prog 187 #[pb g, pb s, pb (s + 3)] w (YesNoK (true) w) := by
  have HCK := Lib.hid (fun w' (hk : Kept NoB w w') => anyU64_any w' x)
  have HTEN : Hid (∀ w', Kept NoB w w' → w'.cell? ⟨s, 0, none⟩ = some (.func (.func 89) #[] #[]) ∧ w'.cell? ⟨s + 3, 0, none⟩ = some (.func (.func 100) #[] #[]) ∧ w'.cell? ⟨g, 9, none⟩ = some (.int .u64 x)) := Lib.hid (fun w' hk => ⟨(h1.no hk).cell, (h4.no hk).cell, hk.cell (p := ⟨g, 9, none⟩) (fun h => h) hc⟩)
  have HTO := Lib.hid (fun w' => to_partAt_10 w' g)
  have hent1 : ∀ (args : Array Value) (w : World), Sem.run Tryz.prog (callFunc 89 args) w = .ok (.enter 89 args) w := ent_any_u64
  have hent2 : ∀ (args : Array Value) (w : World), Sem.run Tryz.prog (callFunc 100 args) w = .ok (.enter 100 args) w := ent_partAt_10
  clear h1 h4 hc
  go_enter Tryz.func187, Tryz.ntmps187
  go_wp2_with fail
  have HKe := Lib.hid (Kept.refl NoB w).drew
  have HT := Lib.hid (HTEN.out _ HKe.out)
  go_region_held3 (fun w' => w'.cell? ⟨s, 0, none⟩ = some (.func (.func 89) #[] #[]) ∧ w'.cell? ⟨s + 3, 0, none⟩ = some (.func (.func 100) #[] #[]) ∧ w'.cell? ⟨g, 9, none⟩ = some (.int .u64 x)) (with_reducible exact HT.out)
    (first
      | (go_at_call 100; (with_reducible refine (HTO.out _).mono ?_); rintro e w1 ⟨rfl, rfl⟩)
      | (go_at_call 89; (with_reducible refine (HCK.out _ HKe.out).mono ?_); rintro e w1 ⟨rfl, rfl⟩))
  go_wp2
  go_ret
  exact ⟨rfl, HKe.out⟩
set_option maxRecDepth 100000 in
set_option maxHeartbeats 1000000 in
theorem drop_10 (w : World) (g ba : Nat) (cs : Array Value) (h4 : OneAt 150 ba (.func (.func 100) #[] #[]) w) (hc : w.heap[g]? = some (.cells cs 48 (0, 0))) (hl : cs.size = 25) : Calls Tryz.prog 190 #[pb g, pb ba] w fun e w' => e = .returned (.tuple #[]) ∧ w' = (w.setCell ⟨g, 9, none⟩ (.int .u64 0)) := by
  have HTO := Lib.hid (fun w' => to_partAt_10 w' g)
  have hent2 : ∀ (args : Array Value) (w : World), Sem.run Tryz.prog (callFunc 100 args) w = .ok (.enter 100 args) w := ent_partAt_10
  have c4 := h4.cell
  have cg0 : w.cell? ⟨g, 9, none⟩ = some (cs[9]'(by omega)) := by rw [cell_of_row _ _ _ _ _ _ hc]; exact Array.getElem?_eq_getElem (by omega)
  have zg0 := blkU_frozen hc 9
  clear h4 hc
  go_enter Tryz.func190, Tryz.ntmps190
  go_wp2_with fail
  refine (HTO.out _).mono ?_
  rintro e w1 ⟨rfl, rfl⟩
  go_wp2
  go_end0
  exact ⟨rfl, rfl⟩
set_option maxRecDepth 100000 in
set_option maxHeartbeats 1000000 in
theorem right_11 (w : World) (g s : Nat) (x y z u : Int) (z0 : 0 ≤ z) (h1 : OneAt 164 s (.func (.func 102) #[] #[]) w) (h4 : OneAt 168 (s + 3) (.func (.func 105) #[] #[]) w) (hc : w.cell? ⟨g, 13, none⟩ = some (.int .i64 x) ∧ w.cell? ⟨g, 14, none⟩ = some (.int .i64 y) ∧ w.cell? ⟨g, 15, none⟩ = some (.int .u64 z) ∧ w.cell? ⟨g, 16, none⟩ = some (.int .i64 u)) : Calls Tryz.prog 148 #[pb g, pb s, pb (s + 3)] w (YesNoK (cmdB x y z u) w) := by
  have HCK := Lib.hid (fun w' (hk : Kept NoB w w') => isCommand_any x y z u w' z0)
  have HTEN : Hid (∀ w', Kept NoB w w' → w'.cell? ⟨s, 0, none⟩ = some (.func (.func 102) #[] #[]) ∧ w'.cell? ⟨s + 3, 0, none⟩ = some (.func (.func 105) #[] #[]) ∧ w'.cell? ⟨g, 13, none⟩ = some (.int .i64 x) ∧ w'.cell? ⟨g, 14, none⟩ = some (.int .i64 y) ∧ w'.cell? ⟨g, 15, none⟩ = some (.int .u64 z) ∧ w'.cell? ⟨g, 16, none⟩ = some (.int .i64 u)) := Lib.hid (fun w' hk => ⟨(h1.no hk).cell, (h4.no hk).cell, hk.cell (p := ⟨g, 13, none⟩) (fun h => h) hc.1, hk.cell (p := ⟨g, 14, none⟩) (fun h => h) hc.2.1, hk.cell (p := ⟨g, 15, none⟩) (fun h => h) hc.2.2.1, hk.cell (p := ⟨g, 16, none⟩) (fun h => h) hc.2.2.2⟩)
  have HTO := Lib.hid (fun w' => to_partAt_11 w' g)
  have hent1 : ∀ (args : Array Value) (w : World), Sem.run Tryz.prog (callFunc 102 args) w = .ok (.enter 102 args) w := ent_isCommand
  have hent2 : ∀ (args : Array Value) (w : World), Sem.run Tryz.prog (callFunc 105 args) w = .ok (.enter 105 args) w := ent_partAt_11
  clear h1 h4 hc z0
  go_enter Tryz.func148, Tryz.ntmps148
  go_wp2_with fail
  have HKe := Lib.hid (Kept.refl NoB w).drew
  have HT := Lib.hid (HTEN.out _ HKe.out)
  go_region_held3 (fun w' => w'.cell? ⟨s, 0, none⟩ = some (.func (.func 102) #[] #[]) ∧ w'.cell? ⟨s + 3, 0, none⟩ = some (.func (.func 105) #[] #[]) ∧ w'.cell? ⟨g, 13, none⟩ = some (.int .i64 x) ∧ w'.cell? ⟨g, 14, none⟩ = some (.int .i64 y) ∧ w'.cell? ⟨g, 15, none⟩ = some (.int .u64 z) ∧ w'.cell? ⟨g, 16, none⟩ = some (.int .i64 u)) (with_reducible exact HT.out)
    (first
      | (go_at_call 105; (with_reducible refine (HTO.out _).mono ?_); rintro e w1 ⟨rfl, rfl⟩)
      | (go_at_call 102; (with_reducible refine (HCK.out _ HKe.out).mono ?_); rintro e w1 ⟨rfl, hk1⟩; replace HKe := Lib.hid (HKe.out.trans hk1 (fun _ _ h => h)); replace HT := Lib.hid (HTEN.out _ HKe.out); clear hk1))
  go_wp2
  go_ret
  exact ⟨rfl, HKe.out⟩
set_option maxRecDepth 100000 in
set_option maxHeartbeats 1000000 in
theorem drop_11 (w : World) (g ba : Nat) (cs : Array Value) (h4 : OneAt 168 ba (.func (.func 105) #[] #[]) w) (hc : w.heap[g]? = some (.cells cs 48 (0, 0))) (hl : cs.size = 25) : Calls Tryz.prog 151 #[pb g, pb ba] w fun e w' => e = .returned (.tuple #[]) ∧ ∃ W0 n, Kept NoB w W0 ∧ w' = ((((W0.setCell ⟨g, 13, none⟩ (.int .i64 0)).setCell ⟨g, 14, none⟩ (.int .i64 0)).setCell ⟨g, 15, none⟩ (.int .u64 0)).setCell ⟨g, 16, none⟩ (.int .i64 0)).drewN n := by
  have HTO := Lib.hid (fun w' => to_partAt_11 w' g)
  have hent2 : ∀ (args : Array Value) (w : World), Sem.run Tryz.prog (callFunc 105 args) w = .ok (.enter 105 args) w := ent_partAt_11
  obtain ⟨W, hW⟩ : ∃ W, W = w.alloc (.cells #[.int .i64 0, .int .i64 0, .int .u64 0, .int .i64 0] 41 (0, 0)) := ⟨_, rfl⟩
  have hk0 : Kept NoB w W := by rw [hW]; exact (Kept.refl NoB w).alloc _
  have hz : W.heap[w.heap.size]? = some (.cells #[.int .i64 0, .int .i64 0, .int .u64 0, .int .i64 0] 41 (0, 0)) := by rw [hW]; exact heap_alloc_new w _
  have hgw := hk0.heap (fun h => h) hc
  have h4w := h4.no hk0
  have hne : ¬ w.heap.size = g := by have := heap_lt hc; omega
  have hne2 : ¬ g = w.heap.size := fun h => hne h.symm
  have hba : ¬ ba = g := fun h => by rw [h] at h4; unfold OneAt at h4; rw [hc] at h4; injection h4 with h4; injection h4 with h4 _ _; rw [h4] at hl; cases hl
  have hba2 : ¬ g = ba := fun h => hba h.symm
  have HTEN : Hid (∀ w', Kept NoB W w' → w'.cell? ⟨ba, 0, none⟩ = some (.func (.func 105) #[] #[]) ∧ w'.cell? ⟨w.heap.size, 0, none⟩ = some (.int .i64 0) ∧ w'.cell? ⟨w.heap.size, 1, none⟩ = some (.int .i64 0) ∧ w'.cell? ⟨w.heap.size, 2, none⟩ = some (.int .u64 0) ∧ w'.cell? ⟨w.heap.size, 3, none⟩ = some (.int .i64 0)) := Lib.hid (fun w' hk => ⟨(h4w.no hk).cell, hk.cell (p := ⟨w.heap.size, 0, none⟩) (fun h => h) (cell_of_row _ _ 0 _ _ _ hz), hk.cell (p := ⟨w.heap.size, 1, none⟩) (fun h => h) (cell_of_row _ _ 1 _ _ _ hz), hk.cell (p := ⟨w.heap.size, 2, none⟩) (fun h => h) (cell_of_row _ _ 2 _ _ _ hz), hk.cell (p := ⟨w.heap.size, 3, none⟩) (fun h => h) (cell_of_row _ _ 3 _ _ _ hz)⟩)
  have HTG : Hid (∀ w', Kept NoB W w' → w'.cell? ⟨g, 13, none⟩ = some (cs[13]'(by omega)) ∧ w'.cell? ⟨g, 14, none⟩ = some (cs[14]'(by omega)) ∧ w'.cell? ⟨g, 15, none⟩ = some (cs[15]'(by omega)) ∧ w'.cell? ⟨g, 16, none⟩ = some (cs[16]'(by omega))) := Lib.hid (fun w' hk => ⟨(by rw [cell_of_row _ _ _ _ _ _ (hk.heap (fun h => h) hgw)]; exact Array.getElem?_eq_getElem (by omega)), (by rw [cell_of_row _ _ _ _ _ _ (hk.heap (fun h => h) hgw)]; exact Array.getElem?_eq_getElem (by omega)), (by rw [cell_of_row _ _ _ _ _ _ (hk.heap (fun h => h) hgw)]; exact Array.getElem?_eq_getElem (by omega)), (by rw [cell_of_row _ _ _ _ _ _ (hk.heap (fun h => h) hgw)]; exact Array.getElem?_eq_getElem (by omega))⟩)
  have HZ : Hid (∀ w', Kept NoB W w' → _) := Lib.hid (fun w' hk => blkU_frozen (hk.heap (fun h => h) hgw))
  have HW := Lib.hid hW
  have HK0 := Lib.hid hk0
  clear h4 hc h4w hgw hz hW hk0
  go_enter Tryz.func151, Tryz.ntmps151
  go_wp2_with fail
  rw [← HW.out]
  obtain ⟨t0, x0, x1, x2, x3⟩ := HTEN.out W (Kept.refl _ _)
  obtain ⟨y0, y1, y2, y3⟩ := HTG.out W (Kept.refl _ _)
  have zg := HZ.out W (Kept.refl _ _)
  have HKe := Lib.hid (Kept.refl NoB W).drew
  have HT := Lib.hid (HTEN.out _ HKe.out)
  go_region_held3 (fun w' => w'.cell? ⟨ba, 0, none⟩ = some (.func (.func 105) #[] #[]) ∧ w'.cell? ⟨w.heap.size, 0, none⟩ = some (.int .i64 0) ∧ w'.cell? ⟨w.heap.size, 1, none⟩ = some (.int .i64 0) ∧ w'.cell? ⟨w.heap.size, 2, none⟩ = some (.int .u64 0) ∧ w'.cell? ⟨w.heap.size, 3, none⟩ = some (.int .i64 0)) (first | (with_reducible exact HT.out) | go_keep)
    ((go_at_call 105; (with_reducible refine (HTO.out _).mono ?_); rintro e w1 ⟨rfl, rfl⟩))
  all_goals
    go_end0
    exact ⟨rfl, W, _, HK0.out, rfl⟩

set_option maxRecDepth 100000 in
set_option maxHeartbeats 1000000 in
theorem right_12 (w : World) (g s : Nat) (c : Cf) (xv : Value) (H : Nat → Prop) (hx : NSl w H xv c.ns) (z0 : 0 ≤ c.ep) (z1 : c.ep ≤ topE) (z2 : c.ns.length ≤ 1000) (h1 : OneAt 115 s (.func (.func 48) #[] #[]) w) (h4 : OneAt 173 (s + 3) (.func (.func 109) #[] #[]) w) (hc : w.cell? ⟨g, 17, none⟩ = some (.int .i64 c.ch) ∧ w.cell? ⟨g, 18, none⟩ = some (.int .u64 c.ep) ∧ w.cell? ⟨g, 19, none⟩ = some xv ∧ w.cell? ⟨g, 20, none⟩ = some (.bool c.fr) ∧ w.cell? ⟨g, 21, none⟩ = some (.int .i64 c.jn)) : Calls Tryz.prog 154 #[pb g, pb s, pb (s + 3)] w (YesNoK (rgtB c) w) := by
  have HCK := Lib.hid (fun w' (hk : Kept NoB w w') => Right_any _ c H w' ⟨xv, rfl, hx.kept hk (fun _ _ _ h => h), z0, z1, z2⟩)
  obtain ⟨c0, c1, c2, c3, c4⟩ := c
  simp only at hc HCK ⊢
  obtain ⟨xa, xc, rfl, _⟩ := id hx
  simp only at hc HCK ⊢
  have HTEN : Hid (∀ w', Kept NoB w w' → w'.cell? ⟨s, 0, none⟩ = some (.func (.func 48) #[] #[]) ∧ w'.cell? ⟨s + 3, 0, none⟩ = some (.func (.func 109) #[] #[]) ∧ w'.cell? ⟨g, 17, none⟩ = some (.int .i64 c0) ∧ w'.cell? ⟨g, 18, none⟩ = some (.int .u64 c1) ∧ w'.cell? ⟨g, 19, none⟩ = some (.slice xa c2.length xc) ∧ w'.cell? ⟨g, 20, none⟩ = some (.bool c3) ∧ w'.cell? ⟨g, 21, none⟩ = some (.int .i64 c4)) := Lib.hid (fun w' hk => ⟨(h1.no hk).cell, (h4.no hk).cell, hk.cell (p := ⟨g, 17, none⟩) (fun h => h) hc.1, hk.cell (p := ⟨g, 18, none⟩) (fun h => h) hc.2.1, hk.cell (p := ⟨g, 19, none⟩) (fun h => h) hc.2.2.1, hk.cell (p := ⟨g, 20, none⟩) (fun h => h) hc.2.2.2.1, hk.cell (p := ⟨g, 21, none⟩) (fun h => h) hc.2.2.2.2⟩)
  have HTO := Lib.hid (fun w' => to_partAt_12 w' g)
  have hent1 : ∀ (args : Array Value) (w : World), Sem.run Tryz.prog (callFunc 48 args) w = .ok (.enter 48 args) w := ent_confRight
  have hent2 : ∀ (args : Array Value) (w : World), Sem.run Tryz.prog (callFunc 109 args) w = .ok (.enter 109 args) w := ent_partAt_12
  clear h1 h4 hc hx z0 z1 z2
  go_enter Tryz.func154, Tryz.ntmps154
  go_wp2_with fail
  have HKe := Lib.hid (Kept.refl NoB w).drew
  have HT := Lib.hid (HTEN.out _ HKe.out)
  go_region_held3 (fun w' => w'.cell? ⟨s, 0, none⟩ = some (.func (.func 48) #[] #[]) ∧ w'.cell? ⟨s + 3, 0, none⟩ = some (.func (.func 109) #[] #[]) ∧ w'.cell? ⟨g, 17, none⟩ = some (.int .i64 c0) ∧ w'.cell? ⟨g, 18, none⟩ = some (.int .u64 c1) ∧ w'.cell? ⟨g, 19, none⟩ = some (.slice xa c2.length xc) ∧ w'.cell? ⟨g, 20, none⟩ = some (.bool c3) ∧ w'.cell? ⟨g, 21, none⟩ = some (.int .i64 c4)) (with_reducible exact HT.out)
    (first
      | (go_at_call 109; (with_reducible refine (HTO.out _).mono ?_); rintro e w1 ⟨rfl, rfl⟩)
      | (go_at_call 48; (with_reducible refine (HCK.out _ HKe.out).mono ?_); rintro e w1 ⟨rfl, hk1⟩; replace HKe := Lib.hid (HKe.out.trans hk1 (fun _ _ h => h)); replace HT := Lib.hid (HTEN.out _ HKe.out); clear hk1))
  go_wp2
  go_ret
  exact ⟨rfl, HKe.out⟩
set_option maxRecDepth 100000 in
set_option maxHeartbeats 1000000 in
theorem drop_12 (w : World) (g ba : Nat) (cs : Array Value) (h4 : OneAt 173 ba (.func (.func 109) #[] #[]) w) (hc : w.heap[g]? = some (.cells cs 48 (0, 0))) (hl : cs.size = 25) : Calls Tryz.prog 157 #[pb g, pb ba] w fun e w' => e = .returned (.tuple #[]) ∧ ∃ W0 n, Kept NoB w W0 ∧ w' = (((((W0.setCell ⟨g, 17, none⟩ (.int .i64 0)).setCell ⟨g, 18, none⟩ (.int .u64 0)).setCell ⟨g, 19, none⟩ (.slice none 0 0)).setCell ⟨g, 20, none⟩ (.bool false)).setCell ⟨g, 21, none⟩ (.int .i64 0)).drewN n := by
  have HTO := Lib.hid (fun w' => to_partAt_12 w' g)
  have hent2 : ∀ (args : Array Value) (w : World), Sem.run Tryz.prog (callFunc 109 args) w = .ok (.enter 109 args) w := ent_partAt_12
  obtain ⟨W, hW⟩ : ∃ W, W = w.alloc (.cells #[.int .i64 0, .int .u64 0, .slice none 0 0, .bool false, .int .i64 0] 44 (0, 0)) := ⟨_, rfl⟩
  have hk0 : Kept NoB w W := by rw [hW]; exact (Kept.refl NoB w).alloc _
  have hz : W.heap[w.heap.size]? = some (.cells #[.int .i64 0, .int .u64 0, .slice none 0 0, .bool false, .int .i64 0] 44 (0, 0)) := by rw [hW]; exact heap_alloc_new w _
  have hgw := hk0.heap (fun h => h) hc
  have h4w := h4.no hk0
  have hne : ¬ w.heap.size = g := by have := heap_lt hc; omega
  have hne2 : ¬ g = w.heap.size := fun h => hne h.symm
  have hba : ¬ ba = g := fun h => by rw [h] at h4; unfold OneAt at h4; rw [hc] at h4; injection h4 with h4; injection h4 with h4 _ _; rw [h4] at hl; cases hl
  have hba2 : ¬ g = ba := fun h => hba h.symm
  have HTEN : Hid (∀ w', Kept NoB W w' → w'.cell? ⟨ba, 0, none⟩ = some (.func (.func 109) #[] #[]) ∧ w'.cell? ⟨w.heap.size, 0, none⟩ = some (.int .i64 0) ∧ w'.cell? ⟨w.heap.size, 1, none⟩ = some (.int .u64 0) ∧ w'.cell? ⟨w.heap.size, 2, none⟩ = some (.slice none 0 0) ∧ w'.cell? ⟨w.heap.size, 3, none⟩ = some (.bool false) ∧ w'.cell? ⟨w.heap.size, 4, none⟩ = some (.int .i64 0)) := Lib.hid (fun w' hk => ⟨(h4w.no hk).cell, hk.cell (p := ⟨w.heap.size, 0, none⟩) (fun h => h) (cell_of_row _ _ 0 _ _ _ hz), hk.cell (p := ⟨w.heap.size, 1, none⟩) (fun h => h) (cell_of_row _ _ 1 _ _ _ hz), hk.cell (p := ⟨w.heap.size, 2, none⟩) (fun h => h) (cell_of_row _ _ 2 _ _ _ hz), hk.cell (p := ⟨w.heap.size, 3, none⟩) (fun h => h) (cell_of_row _ _ 3 _ _ _ hz), hk.cell (p := ⟨w.heap.size, 4, none⟩) (fun h => h) (cell_of_row _ _ 4 _ _ _ hz)⟩)
  have HTG : Hid (∀ w', Kept NoB W w' → w'.cell? ⟨g, 17, none⟩ = some (cs[17]'(by omega)) ∧ w'.cell? ⟨g, 18, none⟩ = some (cs[18]'(by omega)) ∧ w'.cell? ⟨g, 19, none⟩ = some (cs[19]'(by omega)) ∧ w'.cell? ⟨g, 20, none⟩ = some (cs[20]'(by omega)) ∧ w'.cell? ⟨g, 21, none⟩ = some (cs[21]'(by omega))) := Lib.hid (fun w' hk => ⟨(by rw [cell_of_row _ _ _ _ _ _ (hk.heap (fun h => h) hgw)]; exact Array.getElem?_eq_getElem (by omega)), (by rw [cell_of_row _ _ _ _ _ _ (hk.heap (fun h => h) hgw)]; exact Array.getElem?_eq_getElem (by omega)), (by rw [cell_of_row _ _ _ _ _ _ (hk.heap (fun h => h) hgw)]; exact Array.getElem?_eq_getElem (by omega)), (by rw [cell_of_row _ _ _ _ _ _ (hk.heap (fun h => h) hgw)]; exact Array.getElem?_eq_getElem (by omega)), (by rw [cell_of_row _ _ _ _ _ _ (hk.heap (fun h => h) hgw)]; exact Array.getElem?_eq_getElem (by omega))⟩)
  have HZ : Hid (∀ w', Kept NoB W w' → _) := Lib.hid (fun w' hk => blkU_frozen (hk.heap (fun h => h) hgw))
  have HW := Lib.hid hW
  have HK0 := Lib.hid hk0
  clear h4 hc h4w hgw hz hW hk0
  go_enter Tryz.func157, Tryz.ntmps157
  go_wp2_with fail
  rw [← HW.out]
  obtain ⟨t0, x0, x1, x2, x3, x4⟩ := HTEN.out W (Kept.refl _ _)
  obtain ⟨y0, y1, y2, y3, y4⟩ := HTG.out W (Kept.refl _ _)
  have zg := HZ.out W (Kept.refl _ _)
  have HKe := Lib.hid (Kept.refl NoB W).drew
  have HT := Lib.hid (HTEN.out _ HKe.out)
  go_region_held3 (fun w' => w'.cell? ⟨ba, 0, none⟩ = some (.func (.func 109) #[] #[]) ∧ w'.cell? ⟨w.heap.size, 0, none⟩ = some (.int .i64 0) ∧ w'.cell? ⟨w.heap.size, 1, none⟩ = some (.int .u64 0) ∧ w'.cell? ⟨w.heap.size, 2, none⟩ = some (.slice none 0 0) ∧ w'.cell? ⟨w.heap.size, 3, none⟩ = some (.bool false) ∧ w'.cell? ⟨w.heap.size, 4, none⟩ = some (.int .i64 0)) (first | (with_reducible exact HT.out) | go_keep)
    ((go_at_call 109; (with_reducible refine (HTO.out _).mono ?_); rintro e w1 ⟨rfl, rfl⟩))
  all_goals
    go_end0
    exact ⟨rfl, W, _, HK0.out, rfl⟩

set_option maxRecDepth 100000 in
set_option maxHeartbeats 1000000 in
theorem right_13 (w : World) (g s : Nat) (xv : Value) (l : List Vt) (H : Nat → Prop) (hx : VRd w H xv l) (hv : ∀ v ∈ l, VtNm v) (h1 : OneAt 175 s (.func (.func 111) #[] #[]) w) (h4 : OneAt 179 (s + 3) (.func (.func 114) #[] #[]) w) (hc : w.cell? ⟨g, 22, none⟩ = some xv) : Calls Tryz.prog 160 #[pb g, pb s, pb (s + 3)] w (YesNoK (areVs l) w) := by
  have HCK := Lib.hid (fun w' (hk : Kept NoB w w') => areVotes_any w' xv l H (hx.no hk) hv)
  obtain ⟨xa, xc, rfl⟩ := hx.form
  have HTEN : Hid (∀ w', Kept NoB w w' → w'.cell? ⟨s, 0, none⟩ = some (.func (.func 111) #[] #[]) ∧ w'.cell? ⟨s + 3, 0, none⟩ = some (.func (.func 114) #[] #[]) ∧ w'.cell? ⟨g, 22, none⟩ = some (.slice xa l.length xc)) := Lib.hid (fun w' hk => ⟨(h1.no hk).cell, (h4.no hk).cell, hk.cell (p := ⟨g, 22, none⟩) (fun h => h) hc⟩)
  have HTO := Lib.hid (fun w' => to_partAt_13 w' g)
  have hent1 : ∀ (args : Array Value) (w : World), Sem.run Tryz.prog (callFunc 111 args) w = .ok (.enter 111 args) w := ent_areVotes
  have hent2 : ∀ (args : Array Value) (w : World), Sem.run Tryz.prog (callFunc 114 args) w = .ok (.enter 114 args) w := ent_partAt_13
  clear h1 h4 hc hx hv
  go_enter Tryz.func160, Tryz.ntmps160
  go_wp2_with fail
  have HKe := Lib.hid (Kept.refl NoB w).drew
  have HT := Lib.hid (HTEN.out _ HKe.out)
  go_region_held3 (fun w' => w'.cell? ⟨s, 0, none⟩ = some (.func (.func 111) #[] #[]) ∧ w'.cell? ⟨s + 3, 0, none⟩ = some (.func (.func 114) #[] #[]) ∧ w'.cell? ⟨g, 22, none⟩ = some (.slice xa l.length xc)) (with_reducible exact HT.out)
    (first
      | (go_at_call 114; (with_reducible refine (HTO.out _).mono ?_); rintro e w1 ⟨rfl, rfl⟩)
      | (go_at_call 111; (with_reducible refine (HCK.out _ HKe.out).mono ?_); rintro e w1 ⟨rfl, hk1⟩; replace HKe := Lib.hid (HKe.out.trans hk1 (fun _ _ h => h)); replace HT := Lib.hid (HTEN.out _ HKe.out); clear hk1))
  go_wp2
  go_ret
  exact ⟨rfl, HKe.out⟩
set_option maxRecDepth 100000 in
set_option maxHeartbeats 1000000 in
theorem drop_13 (w : World) (g ba : Nat) (cs : Array Value) (h4 : OneAt 179 ba (.func (.func 114) #[] #[]) w) (hc : w.heap[g]? = some (.cells cs 48 (0, 0))) (hl : cs.size = 25) : Calls Tryz.prog 163 #[pb g, pb ba] w fun e w' => e = .returned (.tuple #[]) ∧ w' = (w.setCell ⟨g, 22, none⟩ (.slice none 0 0)) := by
  have HTO := Lib.hid (fun w' => to_partAt_13 w' g)
  have hent2 : ∀ (args : Array Value) (w : World), Sem.run Tryz.prog (callFunc 114 args) w = .ok (.enter 114 args) w := ent_partAt_13
  have c4 := h4.cell
  have cg0 : w.cell? ⟨g, 22, none⟩ = some (cs[22]'(by omega)) := by rw [cell_of_row _ _ _ _ _ _ hc]; exact Array.getElem?_eq_getElem (by omega)
  have zg0 := blkU_frozen hc 22
  clear h4 hc
  go_enter Tryz.func163, Tryz.ntmps163
  go_wp2_with fail
  refine (HTO.out _).mono ?_
  rintro e w1 ⟨rfl, rfl⟩
  go_wp2
  go_end0
  exact ⟨rfl, rfl⟩
set_option maxRecDepth 100000 in
set_option maxHeartbeats 1000000 in
theorem right_16 (w : World) (g s : Nat) (bm : Nat) (xv : Value) (l : List Int) (H : Nat → Prop) (hx : BSl w H xv l) (hm : OneAt 3 bm (.int .i64 1024) w) (h1 : OneAt 224 s (.func (.func 174) #[] #[pb bm]) w) (h4 : OneAt 231 (s + 3) (.func (.func 179) #[] #[]) w) (hc : w.cell? ⟨g, 24, none⟩ = some xv) : Calls Tryz.prog 209 #[pb g, pb s, pb (s + 3)] w (YesNoK (decide ((l.length : Int) ≤ 1024)) w) := by
  have HCK := Lib.hid (fun w' (hk : Kept NoB w w') => data1_any w' xv l H 1024 bm (hx.kept hk (fun _ _ h => h)) (hm.no hk).cell)
  obtain ⟨xa, xc, rfl, _⟩ := id hx
  have HTEN : Hid (∀ w', Kept NoB w w' → w'.cell? ⟨s, 0, none⟩ = some (.func (.func 174) #[] #[pb bm]) ∧ w'.cell? ⟨s + 3, 0, none⟩ = some (.func (.func 179) #[] #[]) ∧ w'.cell? ⟨g, 24, none⟩ = some (.slice xa l.length xc)) := Lib.hid (fun w' hk => ⟨(h1.no hk).cell, (h4.no hk).cell, hk.cell (p := ⟨g, 24, none⟩) (fun h => h) hc⟩)
  have HTO := Lib.hid (fun w' => to_data_3 w' g)
  have hent1 : ∀ (args : Array Value) (w : World), Sem.run Tryz.prog (callFunc 174 args) w = .ok (.enter 174 args) w := ent_data_1
  have hent2 : ∀ (args : Array Value) (w : World), Sem.run Tryz.prog (callFunc 179 args) w = .ok (.enter 179 args) w := ent_data_3
  clear h1 h4 hc hx hm
  go_enter Tryz.func209, Tryz.ntmps209
  go_wp2_with fail
  have HKe := Lib.hid (Kept.refl NoB w).drew
  have HT := Lib.hid (HTEN.out _ HKe.out)
  go_region_held3 (fun w' => w'.cell? ⟨s, 0, none⟩ = some (.func (.func 174) #[] #[pb bm]) ∧ w'.cell? ⟨s + 3, 0, none⟩ = some (.func (.func 179) #[] #[]) ∧ w'.cell? ⟨g, 24, none⟩ = some (.slice xa l.length xc)) (with_reducible exact HT.out)
    (first
      | (go_at_call 179; (with_reducible refine (HTO.out _).mono ?_); rintro e w1 ⟨rfl, rfl⟩)
      | (go_at_call 174; (with_reducible refine (HCK.out _ HKe.out).mono ?_); rintro e w1 ⟨rfl, rfl⟩))
  go_wp2
  go_ret
  exact ⟨rfl, HKe.out⟩
set_option maxRecDepth 100000 in
set_option maxHeartbeats 1000000 in
theorem drop_16 (w : World) (g ba : Nat) (cs : Array Value) (h4 : OneAt 231 ba (.func (.func 179) #[] #[]) w) (hc : w.heap[g]? = some (.cells cs 48 (0, 0))) (hl : cs.size = 25) : Calls Tryz.prog 212 #[pb g, pb ba] w fun e w' => e = .returned (.tuple #[]) ∧ w' = (w.setCell ⟨g, 24, none⟩ (.slice none 0 0)) := by
  have HTO := Lib.hid (fun w' => to_data_3 w' g)
  have hent2 : ∀ (args : Array Value) (w : World), Sem.run Tryz.prog (callFunc 179 args) w = .ok (.enter 179 args) w := ent_data_3
  have c4 := h4.cell
  have cg0 : w.cell? ⟨g, 24, none⟩ = some (cs[24]'(by omega)) := by rw [cell_of_row _ _ _ _ _ _ hc]; exact Array.getElem?_eq_getElem (by omega)
  have zg0 := blkU_frozen hc 24
  clear h4 hc
  go_enter Tryz.func212, Tryz.ntmps212
  go_wp2_with fail
  refine (HTO.out _).mono ?_
  rintro e w1 ⟨rfl, rfl⟩
  go_wp2
  go_end0
  exact ⟨rfl, rfl⟩
set_option maxRecDepth 100000 in
set_option maxHeartbeats 1000000 in
theorem right_17 (w : World) (g s : Nat) (bm : Nat) (xv : Value) (l : List Int) (H : Nat → Prop) (hx : BSl w H xv l) (hm : OneAt 3 bm (.int .i64 2048) w) (h1 : OneAt 224 s (.func (.func 174) #[] #[pb bm]) w) (h4 : OneAt 231 (s + 3) (.func (.func 179) #[] #[]) w) (hc : w.cell? ⟨g, 24, none⟩ = some xv) : Calls Tryz.prog 209 #[pb g, pb s, pb (s + 3)] w (YesNoK (decide ((l.length : Int) ≤ 2048)) w) := by
  have HCK := Lib.hid (fun w' (hk : Kept NoB w w') => data1_any w' xv l H 2048 bm (hx.kept hk (fun _ _ h => h)) (hm.no hk).cell)
  obtain ⟨xa, xc, rfl, _⟩ := id hx
  have HTEN : Hid (∀ w', Kept NoB w w' → w'.cell? ⟨s, 0, none⟩ = some (.func (.func 174) #[] #[pb bm]) ∧ w'.cell? ⟨s + 3, 0, none⟩ = some (.func (.func 179) #[] #[]) ∧ w'.cell? ⟨g, 24, none⟩ = some (.slice xa l.length xc)) := Lib.hid (fun w' hk => ⟨(h1.no hk).cell, (h4.no hk).cell, hk.cell (p := ⟨g, 24, none⟩) (fun h => h) hc⟩)
  have HTO := Lib.hid (fun w' => to_data_3 w' g)
  have hent1 : ∀ (args : Array Value) (w : World), Sem.run Tryz.prog (callFunc 174 args) w = .ok (.enter 174 args) w := ent_data_1
  have hent2 : ∀ (args : Array Value) (w : World), Sem.run Tryz.prog (callFunc 179 args) w = .ok (.enter 179 args) w := ent_data_3
  clear h1 h4 hc hx hm
  go_enter Tryz.func209, Tryz.ntmps209
  go_wp2_with fail
  have HKe := Lib.hid (Kept.refl NoB w).drew
  have HT := Lib.hid (HTEN.out _ HKe.out)
  go_region_held3 (fun w' => w'.cell? ⟨s, 0, none⟩ = some (.func (.func 174) #[] #[pb bm]) ∧ w'.cell? ⟨s + 3, 0, none⟩ = some (.func (.func 179) #[] #[]) ∧ w'.cell? ⟨g, 24, none⟩ = some (.slice xa l.length xc)) (with_reducible exact HT.out)
    (first
      | (go_at_call 179; (with_reducible refine (HTO.out _).mono ?_); rintro e w1 ⟨rfl, rfl⟩)
      | (go_at_call 174; (with_reducible refine (HCK.out _ HKe.out).mono ?_); rintro e w1 ⟨rfl, rfl⟩))
  go_wp2
  go_ret
  exact ⟨rfl, HKe.out⟩
end Go.Proofs.YtclfecninhipnaaGreatDoor
namespace Go.Proofs.YtclfecninhipnaaGreatDoor
open Go.RowKit
set_option linter.unusedVariables false
set_option linter.unusedSimpArgs false

set_option maxRecDepth 100000 in
set_option maxHeartbeats 4000000 in
theorem part_ok_0 {B : Nat} {w : World} {pv : Value} (h : Part0 B w pv) : ∃ x : Q4, pv = q4v x ∧ PartOk 0 B w x := by
  obtain ⟨s, bw, hb1, hb2, rfl, a1, a2, a3, a4, a5⟩ := h
  refine ⟨⟨_, _, _, _⟩, rfl, PartAg_one _ _ _ _ _ _ _ _, fun k => k = s ∨ k = s + 3 ∨ k = s, 187, 190, #[pb s, pb (s + 3)], #[pb (s + 3)], ?_, ⟨rfl, rfl, ⟨_, _, rfl⟩, ⟨_, _, rfl⟩, fun args w => by kernel_rfl, fun args w => by kernel_rfl, ?_, ?_⟩⟩
  · rintro k (rfl | rfl | rfl)
    · exact ⟨hb1, _, _, _, a1, by decide⟩
    · exact ⟨by omega, _, _, _, a4, by decide⟩
    · exact ⟨hb1, _, _, _, a1, by decide⟩
  · intro S w' hk hs g y c H hg hm hnf
    exact right_0 w' g s y.ba hm.ba0 hm.ba1 (a1.kept hk (hs _ (.inl rfl))) (a4.kept hk (hs _ (.inr (.inl rfl)))) (cell_of_row _ _ 5 _ _ _ hg)
  · intro S w' hk hs g y hg
    refine (drop_0 w' g (s + 3) _ (a4.kept hk (hs _ (.inr (.inl rfl)))) hg rfl).mono ?_
    rintro e w'' ⟨rfl, rfl⟩
    refine ⟨rfl, ?_, ((Kept.refl (fun k => k = g) w').setCell (p := ⟨g, 5, none⟩) (.inl rfl) _)⟩
    have h0 := blkU_set hg 5 (.int .u64 0)
    exact h0
set_option maxRecDepth 100000 in
set_option maxHeartbeats 4000000 in
theorem part_ok_1 {B : Nat} {w : World} {pv : Value} (h : Part1 B w pv) : ∃ x : Q4, pv = q4v x ∧ PartOk 1 B w x := by
  obtain ⟨bm, hB, hbm, s, bw, hb1, hb2, rfl, a1, a2, a3, a4, a5⟩ := h
  refine ⟨⟨_, _, _, _⟩, rfl, PartAg_one _ _ _ _ _ _ _ _, fun k => k = s ∨ k = s + 3 ∨ k = bm, 192, 195, #[pb s, pb (s + 3)], #[pb (s + 3)], ?_, ⟨rfl, rfl, ⟨_, _, rfl⟩, ⟨_, _, rfl⟩, fun args w => by kernel_rfl, fun args w => by kernel_rfl, ?_, ?_⟩⟩
  · rintro k (rfl | rfl | rfl)
    · exact ⟨hb1, _, _, _, a1, by decide⟩
    · exact ⟨by omega, _, _, _, a4, by decide⟩
    · exact ⟨hB, _, _, _, hbm, by decide⟩
  · intro S w' hk hs g y c H hg hm hnf
    exact right_1 w' g s bm y.ch (hbm.kept hk (hs _ (.inr (.inr rfl)))) (a1.kept hk (hs _ (.inl rfl))) (a4.kept hk (hs _ (.inr (.inl rfl)))) (cell_of_row _ _ 3 _ _ _ hg)
  · intro S w' hk hs g y hg
    refine (drop_1 w' g (s + 3) _ (a4.kept hk (hs _ (.inr (.inl rfl)))) hg rfl).mono ?_
    rintro e w'' ⟨rfl, rfl⟩
    refine ⟨rfl, ?_, ((Kept.refl (fun k => k = g) w').setCell (p := ⟨g, 3, none⟩) (.inl rfl) _)⟩
    have h0 := blkU_set hg 3 (.int .i64 0)
    exact h0
set_option maxRecDepth 100000 in
set_option maxHeartbeats 4000000 in
theorem part_ok_2 {B : Nat} {w : World} {pv : Value} (h : Part2 B w pv) : ∃ x : Q4, pv = q4v x ∧ PartOk 2 B w x := by
  obtain ⟨s, bw, hb1, hb2, rfl, a1, a2, a3, a4, a5⟩ := h
  refine ⟨⟨_, _, _, _⟩, rfl, PartAg_one _ _ _ _ _ _ _ _, fun k => k = s ∨ k = s + 3 ∨ k = s, 187, 190, #[pb s, pb (s + 3)], #[pb (s + 3)], ?_, ⟨rfl, rfl, ⟨_, _, rfl⟩, ⟨_, _, rfl⟩, fun args w => by kernel_rfl, fun args w => by kernel_rfl, ?_, ?_⟩⟩
  · rintro k (rfl | rfl | rfl)
    · exact ⟨hb1, _, _, _, a1, by decide⟩
    · exact ⟨by omega, _, _, _, a4, by decide⟩
    · exact ⟨hb1, _, _, _, a1, by decide⟩
  · intro S w' hk hs g y c H hg hm hnf
    exact right_2 w' g s y.ep (a1.kept hk (hs _ (.inl rfl))) (a4.kept hk (hs _ (.inr (.inl rfl)))) (cell_of_row _ _ 4 _ _ _ hg)
  · intro S w' hk hs g y hg
    refine (drop_2 w' g (s + 3) _ (a4.kept hk (hs _ (.inr (.inl rfl)))) hg rfl).mono ?_
    rintro e w'' ⟨rfl, rfl⟩
    refine ⟨rfl, ?_, ((Kept.refl (fun k => k = g) w').setCell (p := ⟨g, 4, none⟩) (.inl rfl) _)⟩
    have h0 := blkU_set hg 4 (.int .u64 0)
    exact h0
set_option maxRecDepth 100000 in
set_option maxHeartbeats 4000000 in
theorem part_ok_3 {B : Nat} {w : World} {pv : Value} (h : Part3 B w pv) : ∃ x : Q4, pv = q4v x ∧ PartOk 3 B w x := by
  obtain ⟨s, bw, hb1, hb2, rfl, a1, a2, a3, a4, a5⟩ := h
  refine ⟨⟨_, _, _, _⟩, rfl, PartAg_one _ _ _ _ _ _ _ _, fun k => k = s ∨ k = s + 3 ∨ k = s, 187, 190, #[pb s, pb (s + 3)], #[pb (s + 3)], ?_, ⟨rfl, rfl, ⟨_, _, rfl⟩, ⟨_, _, rfl⟩, fun args w => by kernel_rfl, fun args w => by kernel_rfl, ?_, ?_⟩⟩
  · rintro k (rfl | rfl | rfl)
    · exact ⟨hb1, _, _, _, a1, by decide⟩
    · exact ⟨by omega, _, _, _, a4, by decide⟩
    · exact ⟨hb1, _, _, _, a1, by decide⟩
  · intro S w' hk hs g y c H hg hm hnf
    exact right_3 w' g s y.se (a1.kept hk (hs _ (.inl rfl))) (a4.kept hk (hs _ (.inr (.inl rfl)))) (cell_of_row _ _ 7 _ _ _ hg)
  · intro S w' hk hs g y hg
    refine (drop_3 w' g (s + 3) _ (a4.kept hk (hs _ (.inr (.inl rfl)))) hg rfl).mono ?_
    rintro e w'' ⟨rfl, rfl⟩
    refine ⟨rfl, ?_, ((Kept.refl (fun k => k = g) w').setCell (p := ⟨g, 7, none⟩) (.inl rfl) _)⟩
    have h0 := blkU_set hg 7 (.int .u64 0)
    exact h0
set_option maxRecDepth 100000 in
set_option maxHeartbeats 4000000 in
theorem part_ok_4 {B : Nat} {w : World} {pv : Value} (h : Part4 B w pv) : ∃ x : Q4, pv = q4v x ∧ PartOk 4 B w x := by
  obtain ⟨s, bw, hb1, hb2, rfl, a1, a2, a3, a4, a5⟩ := h
  refine ⟨⟨_, _, _, _⟩, rfl, PartAg_one _ _ _ _ _ _ _ _, fun k => k = s ∨ k = s + 3 ∨ k = s, 187, 190, #[pb s, pb (s + 3)], #[pb (s + 3)], ?_, ⟨rfl, rfl, ⟨_, _, rfl⟩, ⟨_, _, rfl⟩, fun args w => by kernel_rfl, fun args w => by kernel_rfl, ?_, ?_⟩⟩
  · rintro k (rfl | rfl | rfl)
    · exact ⟨hb1, _, _, _, a1, by decide⟩
    · exact ⟨by omega, _, _, _, a4, by decide⟩
    · exact ⟨hb1, _, _, _, a1, by decide⟩
  · intro S w' hk hs g y c H hg hm hnf
    exact right_4 w' g s y.dn (a1.kept hk (hs _ (.inl rfl))) (a4.kept hk (hs _ (.inr (.inl rfl)))) (cell_of_row _ _ 8 _ _ _ hg)
  · intro S w' hk hs g y hg
    refine (drop_4 w' g (s + 3) _ (a4.kept hk (hs _ (.inr (.inl rfl)))) hg rfl).mono ?_
    rintro e w'' ⟨rfl, rfl⟩
    refine ⟨rfl, ?_, ((Kept.refl (fun k => k = g) w').setCell (p := ⟨g, 8, none⟩) (.inl rfl) _)⟩
    have h0 := blkU_set hg 8 (.int .u64 0)
    exact h0
set_option maxRecDepth 100000 in
set_option maxHeartbeats 4000000 in
theorem part_ok_5 {B : Nat} {w : World} {pv : Value} (h : Part5 B w pv) : ∃ x : Q4, pv = q4v x ∧ PartOk 5 B w x := by
  obtain ⟨bm, hB, hbm, s, bw, hb1, hb2, rfl, a1, a2, a3, a4, a5⟩ := h
  refine ⟨⟨_, _, _, _⟩, rfl, PartAg_one _ _ _ _ _ _ _ _, fun k => k = s ∨ k = s + 3 ∨ k = bm, 192, 195, #[pb s, pb (s + 3)], #[pb (s + 3)], ?_, ⟨rfl, rfl, ⟨_, _, rfl⟩, ⟨_, _, rfl⟩, fun args w => by kernel_rfl, fun args w => by kernel_rfl, ?_, ?_⟩⟩
  · rintro k (rfl | rfl | rfl)
    · exact ⟨hb1, _, _, _, a1, by decide⟩
    · exact ⟨by omega, _, _, _, a4, by decide⟩
    · exact ⟨hB, _, _, _, hbm, by decide⟩
  · intro S w' hk hs g y c H hg hm hnf
    exact right_5 w' g s bm y.sl (hbm.kept hk (hs _ (.inr (.inr rfl)))) (a1.kept hk (hs _ (.inl rfl))) (a4.kept hk (hs _ (.inr (.inl rfl)))) (cell_of_row _ _ 10 _ _ _ hg)
  · intro S w' hk hs g y hg
    refine (drop_5 w' g (s + 3) _ (a4.kept hk (hs _ (.inr (.inl rfl)))) hg rfl).mono ?_
    rintro e w'' ⟨rfl, rfl⟩
    refine ⟨rfl, ?_, ((Kept.refl (fun k => k = g) w').setCell (p := ⟨g, 10, none⟩) (.inl rfl) _)⟩
    have h0 := blkU_set hg 10 (.int .i64 0)
    exact h0
set_option maxRecDepth 100000 in
set_option maxHeartbeats 4000000 in
theorem part_ok_6 {B : Nat} {w : World} {pv : Value} (h : Part6 B w pv) : ∃ x : Q4, pv = q4v x ∧ PartOk 6 B w x := by
  obtain ⟨s, bw, hb1, hb2, rfl, a1, a2, a3, a4, a5⟩ := h
  refine ⟨⟨_, _, _, _⟩, rfl, PartAg_one _ _ _ _ _ _ _ _, fun k => k = s ∨ k = s + 3 ∨ k = s, 187, 190, #[pb s, pb (s + 3)], #[pb (s + 3)], ?_, ⟨rfl, rfl, ⟨_, _, rfl⟩, ⟨_, _, rfl⟩, fun args w => by kernel_rfl, fun args w => by kernel_rfl, ?_, ?_⟩⟩
  · rintro k (rfl | rfl | rfl)
    · exact ⟨hb1, _, _, _, a1, by decide⟩
    · exact ⟨by omega, _, _, _, a4, by decide⟩
    · exact ⟨hb1, _, _, _, a1, by decide⟩
  · intro S w' hk hs g y c H hg hm hnf
    exact right_6 w' g s y.nu (a1.kept hk (hs _ (.inl rfl))) (a4.kept hk (hs _ (.inr (.inl rfl)))) (cell_of_row _ _ 6 _ _ _ hg)
  · intro S w' hk hs g y hg
    refine (drop_6 w' g (s + 3) _ (a4.kept hk (hs _ (.inr (.inl rfl)))) hg rfl).mono ?_
    rintro e w'' ⟨rfl, rfl⟩
    refine ⟨rfl, ?_, ((Kept.refl (fun k => k = g) w').setCell (p := ⟨g, 6, none⟩) (.inl rfl) _)⟩
    have h0 := blkU_set hg 6 (.int .u64 0)
    exact h0
set_option maxRecDepth 100000 in
set_option maxHeartbeats 4000000 in
theorem part_ok_7 {B : Nat} {w : World} {pv : Value} (h : Part7 B w pv) : ∃ x : Q4, pv = q4v x ∧ PartOk 7 B w x := by
  obtain ⟨bm, hB, hbm, s, bw, hb1, hb2, rfl, a1, a2, a3, a4, a5⟩ := h
  refine ⟨⟨_, _, _, _⟩, rfl, PartAg_one _ _ _ _ _ _ _ _, fun k => k = s ∨ k = s + 3 ∨ k = bm, 192, 195, #[pb s, pb (s + 3)], #[pb (s + 3)], ?_, ⟨rfl, rfl, ⟨_, _, rfl⟩, ⟨_, _, rfl⟩, fun args w => by kernel_rfl, fun args w => by kernel_rfl, ?_, ?_⟩⟩
  · rintro k (rfl | rfl | rfl)
    · exact ⟨hb1, _, _, _, a1, by decide⟩
    · exact ⟨by omega, _, _, _, a4, by decide⟩
    · exact ⟨hB, _, _, _, hbm, by decide⟩
  · intro S w' hk hs g y c H hg hm hnf
    exact right_7 w' g s bm y.sl (hbm.kept hk (hs _ (.inr (.inr rfl)))) (a1.kept hk (hs _ (.inl rfl))) (a4.kept hk (hs _ (.inr (.inl rfl)))) (cell_of_row _ _ 10 _ _ _ hg)
  · intro S w' hk hs g y hg
    refine (drop_5 w' g (s + 3) _ (a4.kept hk (hs _ (.inr (.inl rfl)))) hg rfl).mono ?_
    rintro e w'' ⟨rfl, rfl⟩
    refine ⟨rfl, ?_, ((Kept.refl (fun k => k = g) w').setCell (p := ⟨g, 10, none⟩) (.inl rfl) _)⟩
    have h0 := blkU_set hg 10 (.int .i64 0)
    exact h0
set_option maxRecDepth 100000 in
set_option maxHeartbeats 4000000 in
theorem part_ok_8 {B : Nat} {w : World} {pv : Value} (h : Part8 B w pv) : ∃ x : Q4, pv = q4v x ∧ PartOk 8 B w x := by
  obtain ⟨s, bw, hb1, hb2, rfl, a1, a2, a3, a4, a5⟩ := h
  refine ⟨⟨_, _, _, _⟩, rfl, PartAg_one _ _ _ _ _ _ _ _, fun k => k = s ∨ k = s + 3 ∨ k = s, 196, 199, #[pb s, pb (s + 3)], #[pb (s + 3)], ?_, ⟨rfl, rfl, ⟨_, _, rfl⟩, ⟨_, _, rfl⟩, fun args w => by kernel_rfl, fun args w => by kernel_rfl, ?_, ?_⟩⟩
  · rintro k (rfl | rfl | rfl)
    · exact ⟨hb1, _, _, _, a1, by decide⟩
    · exact ⟨by omega, _, _, _, a4, by decide⟩
    · exact ⟨hb1, _, _, _, a1, by decide⟩
  · intro S w' hk hs g y c H hg hm hnf
    exact right_8 w' g s y.ke (a1.kept hk (hs _ (.inl rfl))) (a4.kept hk (hs _ (.inr (.inl rfl)))) (cell_of_row _ _ 11 _ _ _ hg)
  · intro S w' hk hs g y hg
    refine (drop_8 w' g (s + 3) _ (a4.kept hk (hs _ (.inr (.inl rfl)))) hg rfl).mono ?_
    rintro e w'' ⟨rfl, rfl⟩
    refine ⟨rfl, ?_, ((Kept.refl (fun k => k = g) w').setCell (p := ⟨g, 11, none⟩) (.inl rfl) _)⟩
    have h0 := blkU_set hg 11 (.int .u32 0)
    exact h0
set_option maxRecDepth 100000 in
set_option maxHeartbeats 4000000 in
theorem part_ok_9 {B : Nat} {w : World} {pv : Value} (h : Part9 B w pv) : ∃ x : Q4, pv = q4v x ∧ PartOk 9 B w x := by
  obtain ⟨bm, hB, hbm, s, bw, hb1, hb2, rfl, a1, a2, a3, a4, a5⟩ := h
  refine ⟨⟨_, _, _, _⟩, rfl, PartAg_one _ _ _ _ _ _ _ _, fun k => k = s ∨ k = s + 3 ∨ k = bm, 200, 203, #[pb s, pb (s + 3)], #[pb (s + 3)], ?_, ⟨rfl, rfl, ⟨_, _, rfl⟩, ⟨_, _, rfl⟩, fun args w => by kernel_rfl, fun args w => by kernel_rfl, ?_, ?_⟩⟩
  · rintro k (rfl | rfl | rfl)
    · exact ⟨hb1, _, _, _, a1, by decide⟩
    · exact ⟨by omega, _, _, _, a4, by decide⟩
    · exact ⟨hB, _, _, _, hbm, by decide⟩
  · intro S w' hk hs g y c H hg hm hnf
    exact right_9 w' g s bm y.co (hbm.kept hk (hs _ (.inr (.inr rfl)))) (a1.kept hk (hs _ (.inl rfl))) (a4.kept hk (hs _ (.inr (.inl rfl)))) (cell_of_row _ _ 12 _ _ _ hg)
  · intro S w' hk hs g y hg
    refine (drop_9 w' g (s + 3) _ (a4.kept hk (hs _ (.inr (.inl rfl)))) hg rfl).mono ?_
    rintro e w'' ⟨rfl, rfl⟩
    refine ⟨rfl, ?_, ((Kept.refl (fun k => k = g) w').setCell (p := ⟨g, 12, none⟩) (.inl rfl) _)⟩
    have h0 := blkU_set hg 12 (.int .i64 0)
    exact h0
set_option maxRecDepth 100000 in
set_option maxHeartbeats 4000000 in
theorem part_ok_10 {B : Nat} {w : World} {pv : Value} (h : Part10 B w pv) : ∃ x : Q4, pv = q4v x ∧ PartOk 10 B w x := by
  obtain ⟨s, bw, hb1, hb2, rfl, a1, a2, a3, a4, a5⟩ := h
  refine ⟨⟨_, _, _, _⟩, rfl, PartAg_one _ _ _ _ _ _ _ _, fun k => k = s ∨ k = s + 3 ∨ k = s, 187, 190, #[pb s, pb (s + 3)], #[pb (s + 3)], ?_, ⟨rfl, rfl, ⟨_, _, rfl⟩, ⟨_, _, rfl⟩, fun args w => by kernel_rfl, fun args w => by kernel_rfl, ?_, ?_⟩⟩
  · rintro k (rfl | rfl | rfl)
    · exact ⟨hb1, _, _, _, a1, by decide⟩
    · exact ⟨by omega, _, _, _, a4, by decide⟩
    · exact ⟨hb1, _, _, _, a1, by decide⟩
  · intro S w' hk hs g y c H hg hm hnf
    exact right_10 w' g s y.ve (a1.kept hk (hs _ (.inl rfl))) (a4.kept hk (hs _ (.inr (.inl rfl)))) (cell_of_row _ _ 9 _ _ _ hg)
  · intro S w' hk hs g y hg
    refine (drop_10 w' g (s + 3) _ (a4.kept hk (hs _ (.inr (.inl rfl)))) hg rfl).mono ?_
    rintro e w'' ⟨rfl, rfl⟩
    refine ⟨rfl, ?_, ((Kept.refl (fun k => k = g) w').setCell (p := ⟨g, 9, none⟩) (.inl rfl) _)⟩
    have h0 := blkU_set hg 9 (.int .u64 0)
    exact h0
set_option maxRecDepth 100000 in
set_option maxHeartbeats 4000000 in
theorem part_ok_11 {B : Nat} {w : World} {pv : Value} (h : Part11 B w pv) : ∃ x : Q4, pv = q4v x ∧ PartOk 11 B w x := by
  obtain ⟨s, hb1, rfl, a1, a2, a3, a4⟩ := h
  refine ⟨⟨_, _, _, _⟩, rfl, PartAg_one _ _ _ _ _ _ _ _, fun k => k = s ∨ k = s + 3 ∨ k = s, 148, 151, #[pb s, pb (s + 3)], #[pb (s + 3)], ?_, ⟨rfl, rfl, ⟨_, _, rfl⟩, ⟨_, _, rfl⟩, fun args w => by kernel_rfl, fun args w => by kernel_rfl, ?_, ?_⟩⟩
  · rintro k (rfl | rfl | rfl)
    · exact ⟨hb1, _, _, _, a1, by decide⟩
    · exact ⟨by omega, _, _, _, a4, by decide⟩
    · exact ⟨hb1, _, _, _, a1, by decide⟩
  · intro S w' hk hs g y c H hg hm hnf
    exact right_11 w' g s y.ck y.cc y.ce y.cn hm.ce0 (a1.kept hk (hs _ (.inl rfl))) (a4.kept hk (hs _ (.inr (.inl rfl)))) ⟨cell_of_row _ _ 13 _ _ _ hg, cell_of_row _ _ 14 _ _ _ hg, cell_of_row _ _ 15 _ _ _ hg, cell_of_row _ _ 16 _ _ _ hg⟩
  · intro S w' hk hs g y hg
    refine (drop_11 w' g (s + 3) _ (a4.kept hk (hs _ (.inr (.inl rfl)))) hg rfl).mono ?_
    rintro e w'' ⟨rfl, W0, n, hk0, rfl⟩
    replace hg := hk0.heap (fun h => h) hg
    refine ⟨rfl, ?_, ((((((Kept.mono (T := fun k => k = g) hk0 (fun _ _ h => h.elim)).setCell (p := ⟨g, 13, none⟩) (.inl rfl) _).setCell (p := ⟨g, 14, none⟩) (.inl rfl) _).setCell (p := ⟨g, 15, none⟩) (.inl rfl) _).setCell (p := ⟨g, 16, none⟩) (.inl rfl) _).drewN n)⟩
    have h0 := blkU_set hg 13 (.int .i64 0)
    have h1 := blkU_set h0 14 (.int .i64 0)
    have h2 := blkU_set h1 15 (.int .u64 0)
    have h3 := blkU_set h2 16 (.int .i64 0)
    exact h3
set_option maxRecDepth 100000 in
set_option maxHeartbeats 4000000 in
theorem part_ok_12 {B : Nat} {w : World} {pv : Value} (h : Part12 B w pv) : ∃ x : Q4, pv = q4v x ∧ PartOk 12 B w x := by
  obtain ⟨s, hb1, rfl, a1, a2, a3, a4⟩ := h
  refine ⟨⟨_, _, _, _⟩, rfl, PartAg_one _ _ _ _ _ _ _ _, fun k => k = s ∨ k = s + 3 ∨ k = s, 154, 157, #[pb s, pb (s + 3)], #[pb (s + 3)], ?_, ⟨rfl, rfl, ⟨_, _, rfl⟩, ⟨_, _, rfl⟩, fun args w => by kernel_rfl, fun args w => by kernel_rfl, ?_, ?_⟩⟩
  · rintro k (rfl | rfl | rfl)
    · exact ⟨hb1, _, _, _, a1, by decide⟩
    · exact ⟨by omega, _, _, _, a4, by decide⟩
    · exact ⟨hb1, _, _, _, a1, by decide⟩
  · intro S w' hk hs g y c H hg hm hnf
    exact right_12 w' g s (lcf y c) y.gn H hm.ns hm.ge0 hm.ge1 hnf (a1.kept hk (hs _ (.inl rfl))) (a4.kept hk (hs _ (.inr (.inl rfl)))) ⟨cell_of_row _ _ 17 _ _ _ hg, cell_of_row _ _ 18 _ _ _ hg, cell_of_row _ _ 19 _ _ _ hg, cell_of_row _ _ 20 _ _ _ hg, cell_of_row _ _ 21 _ _ _ hg⟩
  · intro S w' hk hs g y hg
    refine (drop_12 w' g (s + 3) _ (a4.kept hk (hs _ (.inr (.inl rfl)))) hg rfl).mono ?_
    rintro e w'' ⟨rfl, W0, n, hk0, rfl⟩
    replace hg := hk0.heap (fun h => h) hg
    refine ⟨rfl, ?_, (((((((Kept.mono (T := fun k => k = g) hk0 (fun _ _ h => h.elim)).setCell (p := ⟨g, 17, none⟩) (.inl rfl) _).setCell (p := ⟨g, 18, none⟩) (.inl rfl) _).setCell (p := ⟨g, 19, none⟩) (.inl rfl) _).setCell (p := ⟨g, 20, none⟩) (.inl rfl) _).setCell (p := ⟨g, 21, none⟩) (.inl rfl) _).drewN n)⟩
    have h0 := blkU_set hg 17 (.int .i64 0)
    have h1 := blkU_set h0 18 (.int .u64 0)
    have h2 := blkU_set h1 19 (.slice none 0 0)
    have h3 := blkU_set h2 20 (.bool false)
    have h4 := blkU_set h3 21 (.int .i64 0)
    exact h4
set_option maxRecDepth 100000 in
set_option maxHeartbeats 4000000 in
theorem part_ok_13 {B : Nat} {w : World} {pv : Value} (h : Part13 B w pv) : ∃ x : Q4, pv = q4v x ∧ PartOk 13 B w x := by
  obtain ⟨s, hb1, rfl, a1, a2, a3, a4⟩ := h
  refine ⟨⟨_, _, _, _⟩, rfl, PartAg_one _ _ _ _ _ _ _ _, fun k => k = s ∨ k = s + 3 ∨ k = s, 160, 163, #[pb s, pb (s + 3)], #[pb (s + 3)], ?_, ⟨rfl, rfl, ⟨_, _, rfl⟩, ⟨_, _, rfl⟩, fun args w => by kernel_rfl, fun args w => by kernel_rfl, ?_, ?_⟩⟩
  · rintro k (rfl | rfl | rfl)
    · exact ⟨hb1, _, _, _, a1, by decide⟩
    · exact ⟨by omega, _, _, _, a4, by decide⟩
    · exact ⟨hb1, _, _, _, a1, by decide⟩
  · intro S w' hk hs g y c H hg hm hnf
    exact right_13 w' g s y.vo c.vs H hm.vs hm.vok (a1.kept hk (hs _ (.inl rfl))) (a4.kept hk (hs _ (.inr (.inl rfl)))) (cell_of_row _ _ 22 _ _ _ hg)
  · intro S w' hk hs g y hg
    refine (drop_13 w' g (s + 3) _ (a4.kept hk (hs _ (.inr (.inl rfl)))) hg rfl).mono ?_
    rintro e w'' ⟨rfl, rfl⟩
    refine ⟨rfl, ?_, ((Kept.refl (fun k => k = g) w').setCell (p := ⟨g, 22, none⟩) (.inl rfl) _)⟩
    have h0 := blkU_set hg 22 (.slice none 0 0)
    exact h0
set_option maxRecDepth 100000 in
set_option maxHeartbeats 4000000 in
theorem part_ok_14 {B : Nat} {w : World} {pv : Value} (h : Part14 B w pv) : ∃ x : Q4, pv = q4v x ∧ PartOk 14 B w x := by
  obtain ⟨s, hb1, rfl, a1, a2, a3, a4⟩ := h
  refine ⟨⟨_, _, _, _⟩, rfl, PartAg_one _ _ _ _ _ _ _ _, fun k => k = s ∨ k = s + 3 ∨ k = s, 165, 168, #[pb s, pb (s + 3)], #[pb (s + 3)], ?_, ⟨rfl, rfl, ⟨_, _, rfl⟩, ⟨_, _, rfl⟩, fun args w => by kernel_rfl, fun args w => by kernel_rfl, ?_, ?_⟩⟩
  · rintro k (rfl | rfl | rfl)
    · exact ⟨hb1, _, _, _, a1, by decide⟩
    · exact ⟨by omega, _, _, _, a4, by decide⟩
    · exact ⟨hb1, _, _, _, a1, by decide⟩
  · intro S w' hk hs g y c H hg hm hnf
    exact right_14 w' g s y.up c.us H hm.us (a1.kept hk (hs _ (.inl rfl))) (a4.kept hk (hs _ (.inr (.inl rfl)))) (cell_of_row _ _ 23 _ _ _ hg)
  · intro S w' hk hs g y hg
    refine (drop_14 w' g (s + 3) _ (a4.kept hk (hs _ (.inr (.inl rfl)))) hg rfl).mono ?_
    rintro e w'' ⟨rfl, rfl⟩
    refine ⟨rfl, ?_, ((Kept.refl (fun k => k = g) w').setCell (p := ⟨g, 23, none⟩) (.inl rfl) _)⟩
    have h0 := blkU_set hg 23 (.slice none 0 0)
    exact h0
set_option maxRecDepth 100000 in
set_option maxHeartbeats 4000000 in
theorem part_ok_15 {B : Nat} {w : World} {pv : Value} (h : Part15 B w pv) : ∃ x : Q4, pv = q4v x ∧ PartOk 15 B w x := by
  obtain ⟨s, hb1, rfl, a1, a2, a3, a4⟩ := h
  refine ⟨⟨_, _, _, _⟩, rfl, PartAg_one _ _ _ _ _ _ _ _, fun k => k = s ∨ k = s + 3 ∨ k = s, 165, 168, #[pb s, pb (s + 3)], #[pb (s + 3)], ?_, ⟨rfl, rfl, ⟨_, _, rfl⟩, ⟨_, _, rfl⟩, fun args w => by kernel_rfl, fun args w => by kernel_rfl, ?_, ?_⟩⟩
  · rintro k (rfl | rfl | rfl)
    · exact ⟨hb1, _, _, _, a1, by decide⟩
    · exact ⟨by omega, _, _, _, a4, by decide⟩
    · exact ⟨hb1, _, _, _, a1, by decide⟩
  · intro S w' hk hs g y c H hg hm hnf
    exact right_15 w' g s y.up c.us H hm.us (a1.kept hk (hs _ (.inl rfl))) (a4.kept hk (hs _ (.inr (.inl rfl)))) (cell_of_row _ _ 23 _ _ _ hg)
  · intro S w' hk hs g y hg
    refine (drop_15 w' g (s + 3) _ (a4.kept hk (hs _ (.inr (.inl rfl)))) hg rfl).mono ?_
    rintro e w'' ⟨rfl, rfl⟩
    refine ⟨rfl, ?_, ((Kept.refl (fun k => k = g) w').setCell (p := ⟨g, 23, none⟩) (.inl rfl) _)⟩
    have h0 := blkU_set hg 23 (.slice none 0 0)
    exact h0
set_option maxRecDepth 100000 in
set_option maxHeartbeats 4000000 in
theorem part_ok_16 {B : Nat} {w : World} {pv : Value} (h : Part16 B w pv) : ∃ x : Q4, pv = q4v x ∧ PartOk 16 B w x := by
  obtain ⟨s, bm, hb1, hB, rfl, a1, a4, hbm⟩ := h
  refine ⟨⟨_, _, _, _⟩, rfl, PartAg_one _ _ _ _ _ _ _ _, fun k => k = s ∨ k = s + 3 ∨ k = bm, 209, 212, #[pb s, pb (s + 3)], #[pb (s + 3)], ?_, ⟨rfl, rfl, ⟨_, _, rfl⟩, ⟨_, _, rfl⟩, fun args w => by kernel_rfl, fun args w => by kernel_rfl, ?_, ?_⟩⟩
  · rintro k (rfl | rfl | rfl)
    · exact ⟨hb1, _, _, _, a1, by decide⟩
    · exact ⟨by omega, _, _, _, a4, by decide⟩
    · exact ⟨hB, _, _, _, hbm, by decide⟩
  · intro S w' hk hs g y c H hg hm hnf
    exact right_16 w' g s bm y.da c.ds H hm.ds (hbm.kept hk (hs _ (.inr (.inr rfl)))) (a1.kept hk (hs _ (.inl rfl))) (a4.kept hk (hs _ (.inr (.inl rfl)))) (cell_of_row _ _ 24 _ _ _ hg)
  · intro S w' hk hs g y hg
    refine (drop_16 w' g (s + 3) _ (a4.kept hk (hs _ (.inr (.inl rfl)))) hg rfl).mono ?_
    rintro e w'' ⟨rfl, rfl⟩
    refine ⟨rfl, ?_, ((Kept.refl (fun k => k = g) w').setCell (p := ⟨g, 24, none⟩) (.inl rfl) _)⟩
    have h0 := blkU_set hg 24 (.slice none 0 0)
    exact h0
set_option maxRecDepth 100000 in
set_option maxHeartbeats 4000000 in
theorem part_ok_17 {B : Nat} {w : World} {pv : Value} (h : Part17 B w pv) : ∃ x : Q4, pv = q4v x ∧ PartOk 17 B w x := by
  obtain ⟨s, bm, hb1, hB, rfl, a1, a4, hbm⟩ := h
  refine ⟨⟨_, _, _, _⟩, rfl, PartAg_one _ _ _ _ _ _ _ _, fun k => k = s ∨ k = s + 3 ∨ k = bm, 209, 212, #[pb s, pb (s + 3)], #[pb (s + 3)], ?_, ⟨rfl, rfl, ⟨_, _, rfl⟩, ⟨_, _, rfl⟩, fun args w => by kernel_rfl, fun args w => by kernel_rfl, ?_, ?_⟩⟩
  · rintro k (rfl | rfl | rfl)
    · exact ⟨hb1, _, _, _, a1, by decide⟩
    · exact ⟨by omega, _, _, _, a4, by decide⟩
    · exact ⟨hB, _, _, _, hbm, by decide⟩
  · intro S w' hk hs g y c H hg hm hnf
    exact right_17 w' g s bm y.da c.ds H hm.ds (hbm.kept hk (hs _ (.inr (.inr rfl)))) (a1.kept hk (hs _ (.inl rfl))) (a4.kept hk (hs _ (.inr (.inl rfl)))) (cell_of_row _ _ 24 _ _ _ hg)
  · intro S w' hk hs g y hg
    refine (drop_16 w' g (s + 3) _ (a4.kept hk (hs _ (.inr (.inl rfl)))) hg rfl).mono ?_
    rintro e w'' ⟨rfl, rfl⟩
    refine ⟨rfl, ?_, ((Kept.refl (fun k => k = g) w').setCell (p := ⟨g, 24, none⟩) (.inl rfl) _)⟩
    have h0 := blkU_set hg 24 (.slice none 0 0)
    exact h0
/-- partAt, of any bit. -/
theorem partAt_ok (i : Nat) (hi : i < 18) (w : World) (B : Nat) (hB : B ≤ w.heap.size) : Calls Tryz.prog 63 #[.int .u32 (bitN i)] w fun e w' => ∃ x : Q4, e = .returned (q4v x) ∧ PartOk i B w' x ∧ Kept NoB w w' := by
  have hcase : i = 0 ∨ i = 1 ∨ i = 2 ∨ i = 3 ∨ i = 4 ∨ i = 5 ∨ i = 6 ∨ i = 7 ∨ i = 8 ∨ i = 9 ∨ i = 10 ∨ i = 11 ∨ i = 12 ∨ i = 13 ∨ i = 14 ∨ i = 15 ∨ i = 16 ∨ i = 17 := by omega
  rcases hcase with rfl | rfl | rfl | rfl | rfl | rfl | rfl | rfl | rfl | rfl | rfl | rfl | rfl | rfl | rfl | rfl | rfl | rfl
  · refine (partAt_0 w B hB).mono ?_
    rintro e w' ⟨pv, rfl, hp, hk⟩
    obtain ⟨x, rfl, hx⟩ := part_ok_0 hp
    exact ⟨x, rfl, hx, hk⟩
  · refine (partAt_1 w B hB).mono ?_
    rintro e w' ⟨pv, rfl, hp, hk⟩
    obtain ⟨x, rfl, hx⟩ := part_ok_1 hp
    exact ⟨x, rfl, hx, hk⟩
  · refine (partAt_2 w B hB).mono ?_
    rintro e w' ⟨pv, rfl, hp, hk⟩
    obtain ⟨x, rfl, hx⟩ := part_ok_2 hp
    exact ⟨x, rfl, hx, hk⟩
  · refine (partAt_3 w B hB).mono ?_
    rintro e w' ⟨pv, rfl, hp, hk⟩
    obtain ⟨x, rfl, hx⟩ := part_ok_3 hp
    exact ⟨x, rfl, hx, hk⟩
  · refine (partAt_4 w B hB).mono ?_
    rintro e w' ⟨pv, rfl, hp, hk⟩
    obtain ⟨x, rfl, hx⟩ := part_ok_4 hp
    exact ⟨x, rfl, hx, hk⟩
  · refine (partAt_5 w B hB).mono ?_
    rintro e w' ⟨pv, rfl, hp, hk⟩
    obtain ⟨x, rfl, hx⟩ := part_ok_5 hp
    exact ⟨x, rfl, hx, hk⟩
  · refine (partAt_6 w B hB).mono ?_
    rintro e w' ⟨pv, rfl, hp, hk⟩
    obtain ⟨x, rfl, hx⟩ := part_ok_6 hp
    exact ⟨x, rfl, hx, hk⟩
  · refine (partAt_7 w B hB).mono ?_
    rintro e w' ⟨pv, rfl, hp, hk⟩
    obtain ⟨x, rfl, hx⟩ := part_ok_7 hp
    exact ⟨x, rfl, hx, hk⟩
  · refine (partAt_8 w B hB).mono ?_
    rintro e w' ⟨pv, rfl, hp, hk⟩
    obtain ⟨x, rfl, hx⟩ := part_ok_8 hp
    exact ⟨x, rfl, hx, hk⟩
  · refine (partAt_9 w B hB).mono ?_
    rintro e w' ⟨pv, rfl, hp, hk⟩
    obtain ⟨x, rfl, hx⟩ := part_ok_9 hp
    exact ⟨x, rfl, hx, hk⟩
  · refine (partAt_10 w B hB).mono ?_
    rintro e w' ⟨pv, rfl, hp, hk⟩
    obtain ⟨x, rfl, hx⟩ := part_ok_10 hp
    exact ⟨x, rfl, hx, hk⟩
  · refine (partAt_11 w B hB).mono ?_
    rintro e w' ⟨pv, rfl, hp, hk⟩
    obtain ⟨x, rfl, hx⟩ := part_ok_11 hp
    exact ⟨x, rfl, hx, hk⟩
  · refine (partAt_12 w B hB).mono ?_
    rintro e w' ⟨pv, rfl, hp, hk⟩
    obtain ⟨x, rfl, hx⟩ := part_ok_12 hp
    exact ⟨x, rfl, hx, hk⟩
  · refine (partAt_13 w B hB).mono ?_
    rintro e w' ⟨pv, rfl, hp, hk⟩
    obtain ⟨x, rfl, hx⟩ := part_ok_13 hp
    exact ⟨x, rfl, hx, hk⟩
  · refine (partAt_14 w B hB).mono ?_
    rintro e w' ⟨pv, rfl, hp, hk⟩
    obtain ⟨x, rfl, hx⟩ := part_ok_14 hp
    exact ⟨x, rfl, hx, hk⟩
  · refine (partAt_15 w B hB).mono ?_
    rintro e w' ⟨pv, rfl, hp, hk⟩
    obtain ⟨x, rfl, hx⟩ := part_ok_15 hp
    exact ⟨x, rfl, hx, hk⟩
  · refine (partAt_16 w B hB).mono ?_
    rintro e w' ⟨pv, rfl, hp, hk⟩
    obtain ⟨x, rfl, hx⟩ := part_ok_16 hp
    exact ⟨x, rfl, hx, hk⟩
  · refine (partAt_17 w B hB).mono ?_
    rintro e w' ⟨pv, rfl, hp, hk⟩
    obtain ⟨x, rfl, hx⟩ := part_ok_17 hp
    exact ⟨x, rfl, hx, hk⟩
end Go.Proofs.YtclfecninhipnaaGreatDoor
namespace Go.Proofs.YtclfecninhipnaaGreatDoor
open Go.RowKit
set_option linter.unusedVariables false
set_option linter.unusedSimpArgs false

theorem bit_and : ∀ kd : Fin 21, ∀ i : Fin 18, bits .and .u32 (kpTab.getD kd.1 0) (bitN i.1) = if (kpTab.getD kd.1 0).toNat.testBit i.1 then bitN i.1 else 0 := by decide
theorem prtK_len (kd : Nat) : (prtK kd).length ≤ 18 := by
  have := List.length_filter_le (fun i => (kpTab.getD kd 0).toNat.testBit i) (List.range 18)
  rw [List.length_range] at this
  exact this
/-- The parts of a kind below i. -/
def prtB (kd i : Nat) : List Nat := (List.range i).filter (fun i => (kpTab.getD kd 0).toNat.testBit i)
theorem prtB_18 (kd : Nat) : prtB kd 18 = prtK kd := rfl
theorem prtB_succ (kd i : Nat) : prtB kd (i + 1) = prtB kd i ++ (if (kpTab.getD kd 0).toNat.testBit i then [i] else []) := by
  unfold prtB
  rw [List.range_succ, List.filter_append]
  congr 1
  cases h : (kpTab.getD kd 0).toNat.testBit i <;> simp only [List.filter, h] <;> rfl
theorem prtB_len (kd i : Nat) : (prtB kd i).length ≤ i := by
  have := List.length_filter_le (fun i => (kpTab.getD kd 0).toNat.testBit i) (List.range i)
  rw [List.length_range] at this
  exact this
/-- What partsOf tells. -/
def PartsEnd (w : World) (kd : Nat) (e : Ending) (w' : World) : Prop :=
  ∃ a c ps, e = .returned (.slice a (prtK kd).length c) ∧ POw w.heap.size w' (.slice a (prtK kd).length c) ps ∧ PartsOk (prtK kd) w.heap.size w' ps ∧ Kept NoB w w'
def PtsRel (w : World) (kd : Nat) (ov bv : Value) (wr : World) : Prop :=
  ∃ i ps, i ≤ 18 ∧ bv = .int .u32 (bitN i) ∧ POw w.heap.size wr ov ps ∧ PartsOk (prtB kd i) w.heap.size wr ps ∧ Kept NoB w wr
theorem bit_facts : ∀ i : Fin 18, (decide (bitN i.1 < 262144) = true ∧ bitN (i.1 + 1) = bitN i.1 * 2 ∧ 0 < bitN i.1 ∧ bitN i.1 ≤ 131072 ∧ bitN i.1 ≠ 0) := by decide
set_option maxRecDepth 100000 in
set_option maxHeartbeats 4000000 in
theorem partsOf_any (w : World) (kd : Nat) (hkd : kd < 21) (ht : Tab10 w) : Calls Tryz.prog 39 #[.int .i64 kd] w (PartsEnd w kd) := by
  obtain ⟨i0, hi0, hz0, hz1, hz2⟩ := info_parts info_part
  have HT := Lib.hid ht
  have HKD := Lib.hid hkd
  have hk0 : (0 : Int) ≤ (kd : Int) := by omega
  have hk1 : (kd : Int) < 21 := by omega
  clear ht hkd
  go_enter Tryz.func39, Tryz.ntmps39
  go_wp2
  go_loopw [3, 4] (PtsRel w kd) (fun _ b _ => 262144 - (RowKit.intOf b).toNat)
  case atStart => exact ⟨0, [], by omega, rfl, POw.nil _ _, ⟨rfl, fun j hj => absurd hj (by simp [prtB])⟩, Kept.refl _ _⟩
  case round =>
    obtain ⟨i, ps, hi, rfl, hown, hps, hK⟩ := hrel
    have hcell := (HT.out.kept hK (fun h => h)).cell kd HKD.out
    have HO := Lib.hid hown
    have HP := Lib.hid hps
    have HK := Lib.hid hK
    have hpl : ps.length ≤ 18 := by
      rw [hps.1]
      have := prtB_len kd i
      omega
    obtain ⟨oa, oc, rfl⟩ := hown.form
    clear hown hps hK
    by_cases h18 : i < 18
    · obtain ⟨f1, f2, f3, f4, f5⟩ := bit_facts ⟨i, h18⟩
      simp only at f1 f2 f3 f4 f5
      have fand := bit_and ⟨kd, HKD.out⟩ ⟨i, h18⟩
      simp only at fand
      have HP2 := Lib.hid (partAt_ok i h18)
      obtain ⟨m, hm⟩ : ∃ m, m = kpTab.getD kd 0 := ⟨_, rfl⟩
      obtain ⟨b, hb⟩ : ∃ b, b = bitN i := ⟨_, rfl⟩
      have HSU := Lib.hid (prtB_succ kd i)
      have hnat : (kpTab.getD kd 0).toNat = m.toNat := by rw [hm]
      rw [← hm] at hcell fand
      rw [hnat] at *
      have HBB := Lib.hid hb
      have HMM := Lib.hid hm
      have HSU := Lib.hid (prtB_succ kd i)
      rw [← hb] at f1 f2 f3 f4 f5 fand HP2
      obtain ⟨tb, htb⟩ : ∃ tb, tb = m.toNat.testBit i := ⟨_, rfl⟩
      rw [← htb] at fand
      have HTB := Lib.hid htb
      rw [← hb]
      clear hm hb htb hnat
      cases tb with
      | false =>
        simp only [Bool.false_eq_true, if_false] at fand
        have HEQ : Hid (prtB kd (i + 1) = prtB kd i) := Lib.hid (by have h1 := HSU.out; rw [← HMM.out, ← HTB.out] at h1; simpa using h1)
        go_wp2
        exact ⟨⟨i + 1, ps, by omega, by rw [f2], HO.out, by rw [HEQ.out]; exact HP.out, HK.out⟩, by simp [RowKit.intOf]; omega⟩
      | true =>
        simp only [if_true] at fand
        have HEQ : Hid (prtB kd (i + 1) = prtB kd i ++ [i]) := Lib.hid (by have h1 := HSU.out; rw [← HMM.out, ← HTB.out] at h1; simpa using h1)
        have hbz : (b != 0) = true := by simpa using f5
        go_wp2_with fail
        refine (HP2.out _ w.heap.size HK.out.size).mono ?_
        rintro e w2 ⟨⟨xa, xb, xc, xd⟩, rfl, hp2, hk2⟩
        simp only [q4v]
        have hka := hk2.alloc (.cells #[xa, xb, xc, xd] 112 (0, 0))
        have HO2 := Lib.hid (HO.out.kept hka (fun _ _ h => h))
        have HPP := Lib.hid (HP.out.kept hka (fun _ _ h => h))
        have HX2 : Hid (PartOk i w.heap.size _ ⟨xa, xb, xc, xd⟩) := Lib.hid (hp2.kept ((Kept.refl NoB w2).alloc (.cells #[xa, xb, xc, xd] 112 (0, 0))) (fun _ _ h => h))
        have HK2 := Lib.hid (HK.out.trans hka (fun _ _ h => h))
        have HB2 := Lib.hid (heap_alloc_new w2 (.cells #[xa, xb, xc, xd] 112 (0, 0)))
        have HONE : Hid (∀ u ∈ q4l ⟨xa, xb, xc, xd⟩, u.oneCell' = true) := Lib.hid hp2.1
        clear hka hp2 hk2
        go_wp2_with (at_builtin; refine wpList_append_p1 105 i0 Tryz.underlying105 hi0 hz0 hz1 hz2 _ rfl _ _ rfl w.heap.size (.slice oa ps.length oc) ps rfl HO2.out w2.heap.size ⟨xa, xb, xc, xd⟩ _ rfl HB2.out HONE.out (by omega) HK2.out.size (ps.length + 1) rfl ?_; intro a' c' w' hown' hgrow' hat')
        have hk4 : Kept NoB w w' := HK2.out.grown hgrow' (fun i hi => .inr (HO2.out.base i hi).1)
        have hk5 : Kept (fun i => some i = (Value.slice oa ps.length oc).ownBlock) (w2.alloc (.cells #[xa, xb, xc, xd] 112 (0, 0))) w' := (Kept.refl _ _).grown hgrow' (fun i hi => .inl hi.symm)
        refine ⟨⟨i + 1, ps ++ [⟨xa, xb, xc, xd⟩], by omega, by rw [f2], hown', ?_, hk4⟩, by simp [RowKit.intOf]; omega⟩
        rw [HEQ.out]
        exact PartsOk.snoc (HPP.out.grow HO2.out hk5) (HX2.out.grow HO2.out hk5)
    · obtain rfl : i = 18 := by omega
      have hbit : bitN 18 = 262144 := rfl
      rw [hbit] at *
      go_wp2
      go_ret
      refine ⟨oa, oc, ps, ?_, ?_, HP.out, HK.out⟩
      · have h1 := HP.out.1
        rw [prtB_18] at h1
        rw [← h1]
        rfl
      · have h1 := HP.out.1
        rw [prtB_18] at h1
        rw [← h1]
        exact HO.out
end Go.Proofs.YtclfecninhipnaaGreatDoor
