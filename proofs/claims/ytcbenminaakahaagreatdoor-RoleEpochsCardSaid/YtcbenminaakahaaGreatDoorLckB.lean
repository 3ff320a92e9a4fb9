/-
  Package letter: number, for the other types of numbers.
-/
import Derived.Test.YtcbenminaakahaaGreatDoorLckA
namespace Go.Proofs.YtcbenminaakahaaGreatDoor
open Go.RowKit
set_option linter.unusedVariables false
set_option linter.unusedSimpArgs false


set_option maxRecDepth 100000 in
set_option maxHeartbeats 1000000 in
theorem number_u32 (w : World) (wd : Int) (v1 v4 : Value) (h1 : v1.oneCell' = true) (h4 : v4.oneCell' = true) : Calls Tryz.prog 198 #[.int .i64 wd, v1, v4] w (NumberE 313 314 315 316 253 254 244 341 342 286 wd v1 v4 w) := by
  have hmf : ∀ (fn : Fn) (first cap : Array Value) (w : World), (Instr.makeFunc fn first cap).run Tryz.prog w = .ok (.func fn first cap) w := fun _ _ _ _ => rfl
  obtain ⟨W, hW⟩ : ∃ W, W = (w.alloc (.cells #[.int .i64 wd] 3 (0, 0))).alloc (.cells #[.nilFunc, .nilFunc, .nilFunc, .nilFunc] 106 (0, 0)) := ⟨_, rfl⟩
  have hsz : W.heap.size = w.heap.size + 2 := by rw [hW]; simp
  have o1 : OneAt 3 w.heap.size (.int .i64 wd) W := by rw [hW]; exact (OneAt.new w _ _).alloc _
  have o2 : W.heap[w.heap.size + 1]? = some (.cells #[.nilFunc, .nilFunc, .nilFunc, .nilFunc] 106 (0, 0)) := by
    have := heap_alloc_new (w.alloc (.cells #[.int .i64 wd] 3 (0, 0))) (.cells #[.nilFunc, .nilFunc, .nilFunc, .nilFunc] 106 (0, 0))
    rw [show (w.alloc (.cells #[.int .i64 wd] 3 (0, 0))).heap.size = w.heap.size + 1 by simp] at this
    rw [hW]; exact this
  have HKW : Hid (Kept NoB w W) := Lib.hid (by rw [hW]; exact ((Kept.refl NoB w).alloc _).alloc _)
  have HO1 := Lib.hid o1
  have HO2 := Lib.hid o2
  have HSZ := Lib.hid hsz
  have HW := Lib.hid hW
  have HF := Lib.hid (field_u32 W v1 (.func (.func 253) #[] #[pb w.heap.size]) (.func (.func 254) #[] #[pb w.heap.size]) v4 h1 rfl rfl h4)
  clear hW hsz o1 o2
  go_enter Tryz.func198, Tryz.ntmps198
  go_wp2_with fail
  rw [← HW.out]
  go_wp2_with fail
  refine HF.out.mono ?_
  rintro e w1 ⟨s, hs, rfl, a1, a2, a3, a4, hk⟩
  have HA := Lib.hid (And.intro a1 (And.intro a2 (And.intro a3 a4)))
  have HB := Lib.hid (HO1.out.no hk)
  have hr := hk.heap (fun h => h) HO2.out
  have HR := Lib.hid hr
  obtain ⟨r0, r1, r2, r3⟩ := cells4p hr
  have z := blkU_frozen hr
  have HK1 := Lib.hid (HKW.out.trans hk (fun _ _ h => h))
  have HS : Hid (w.heap.size + 2 ≤ s) := Lib.hid (by have := HSZ.out; omega)
  unfold PartAg
  clear a1 a2 a3 a4 hk hr hs
  go_wp2
  have hF := four10_at HR.out (.func (.func 313) #[] #[pb s, pb (s + 3)]) (.func (.func 314) #[] #[pb (s + 1), pb (s + 3)]) (.func (.func 315) #[] #[pb (s + 2), pb (s + 3)]) (.func (.func 316) #[] #[pb (s + 3)])
  have hK := HK1.out.four10 (b := w.heap.size + 1) (.inr (by omega)) 0 (.func (.func 313) #[] #[pb s, pb (s + 3)]) (.func (.func 314) #[] #[pb (s + 1), pb (s + 3)]) (.func (.func 315) #[] #[pb (s + 2), pb (s + 3)]) (.func (.func 316) #[] #[pb (s + 3)])
  have hO : ∀ (t : TypeId) (b : Nat) (v : Value), OneAt t b v w1 → b ≠ w.heap.size + 1 → OneAt t b v (four10 w1 (w.heap.size + 1) 0 (.func (.func 313) #[] #[pb s, pb (s + 3)]) (.func (.func 314) #[] #[pb (s + 1), pb (s + 3)]) (.func (.func 315) #[] #[pb (s + 2), pb (s + 3)]) (.func (.func 316) #[] #[pb (s + 3)])) := fun t b v h hb => h.kept ((Kept.refl (fun k => k = w.heap.size + 1) w1).four10 (b := w.heap.size + 1) (.inl rfl) 0 (.func (.func 313) #[] #[pb s, pb (s + 3)]) (.func (.func 314) #[] #[pb (s + 1), pb (s + 3)]) (.func (.func 315) #[] #[pb (s + 2), pb (s + 3)]) (.func (.func 316) #[] #[pb (s + 3)])) hb
  clear r0 r1 r2 r3 z
  obtain ⟨r0, r1, r2, r3⟩ := cells4p hF
  clear hF
  unfold four10 at r0 r1 r2 r3 hK hO
  simp only [Nat.zero_add] at r0 r1 r2 r3 hK hO
  generalize hW : World.setCell _ _ _ = W3 at r0 r1 r2 r3 hK hO ⊢
  have hs := HS.out
  exact bodyPost_ret (v := PartAg 313 314 315 316 s (s + 1) (s + 2) (s + 3)) (by simp [results, Tryz.results198, go_sem, PartAg, r0, r1, r2, r3]) rfl ⟨s, w.heap.size, by omega, Nat.le_refl _, rfl, hO _ _ _ HA.out.1 (by omega), hO _ _ _ HA.out.2.1 (by omega), hO _ _ _ HA.out.2.2.1 (by omega), hO _ _ _ HA.out.2.2.2 (by omega), hO _ _ _ HB.out (by omega), hK⟩
set_option maxRecDepth 100000 in
set_option maxHeartbeats 1000000 in
theorem number_err (w : World) (wd : Int) (v1 v4 : Value) (h1 : v1.oneCell' = true) (h4 : v4.oneCell' = true) : Calls Tryz.prog 201 #[.int .i64 wd, v1, v4] w (NumberE 317 318 319 320 256 257 288 344 345 291 wd v1 v4 w) := by
  have hmf : ∀ (fn : Fn) (first cap : Array Value) (w : World), (Instr.makeFunc fn first cap).run Tryz.prog w = .ok (.func fn first cap) w := fun _ _ _ _ => rfl
  obtain ⟨W, hW⟩ : ∃ W, W = (w.alloc (.cells #[.int .i64 wd] 3 (0, 0))).alloc (.cells #[.nilFunc, .nilFunc, .nilFunc, .nilFunc] 106 (0, 0)) := ⟨_, rfl⟩
  have hsz : W.heap.size = w.heap.size + 2 := by rw [hW]; simp
  have o1 : OneAt 3 w.heap.size (.int .i64 wd) W := by rw [hW]; exact (OneAt.new w _ _).alloc _
  have o2 : W.heap[w.heap.size + 1]? = some (.cells #[.nilFunc, .nilFunc, .nilFunc, .nilFunc] 106 (0, 0)) := by
    have := heap_alloc_new (w.alloc (.cells #[.int .i64 wd] 3 (0, 0))) (.cells #[.nilFunc, .nilFunc, .nilFunc, .nilFunc] 106 (0, 0))
    rw [show (w.alloc (.cells #[.int .i64 wd] 3 (0, 0))).heap.size = w.heap.size + 1 by simp] at this
    rw [hW]; exact this
  have HKW : Hid (Kept NoB w W) := Lib.hid (by rw [hW]; exact ((Kept.refl NoB w).alloc _).alloc _)
  have HO1 := Lib.hid o1
  have HO2 := Lib.hid o2
  have HSZ := Lib.hid hsz
  have HW := Lib.hid hW
  have HF := Lib.hid (field_err W v1 (.func (.func 256) #[] #[pb w.heap.size]) (.func (.func 257) #[] #[pb w.heap.size]) v4 h1 rfl rfl h4)
  clear hW hsz o1 o2
  go_enter Tryz.func201, Tryz.ntmps201
  go_wp2_with fail
  rw [← HW.out]
  go_wp2_with fail
  refine HF.out.mono ?_
  rintro e w1 ⟨s, hs, rfl, a1, a2, a3, a4, hk⟩
  have HA := Lib.hid (And.intro a1 (And.intro a2 (And.intro a3 a4)))
  have HB := Lib.hid (HO1.out.no hk)
  have hr := hk.heap (fun h => h) HO2.out
  have HR := Lib.hid hr
  obtain ⟨r0, r1, r2, r3⟩ := cells4p hr
  have z := blkU_frozen hr
  have HK1 := Lib.hid (HKW.out.trans hk (fun _ _ h => h))
  have HS : Hid (w.heap.size + 2 ≤ s) := Lib.hid (by have := HSZ.out; omega)
  unfold PartAg
  clear a1 a2 a3 a4 hk hr hs
  go_wp2
  have hF := four10_at HR.out (.func (.func 317) #[] #[pb s, pb (s + 3)]) (.func (.func 318) #[] #[pb (s + 1), pb (s + 3)]) (.func (.func 319) #[] #[pb (s + 2), pb (s + 3)]) (.func (.func 320) #[] #[pb (s + 3)])
  have hK := HK1.out.four10 (b := w.heap.size + 1) (.inr (by omega)) 0 (.func (.func 317) #[] #[pb s, pb (s + 3)]) (.func (.func 318) #[] #[pb (s + 1), pb (s + 3)]) (.func (.func 319) #[] #[pb (s + 2), pb (s + 3)]) (.func (.func 320) #[] #[pb (s + 3)])
  have hO : ∀ (t : TypeId) (b : Nat) (v : Value), OneAt t b v w1 → b ≠ w.heap.size + 1 → OneAt t b v (four10 w1 (w.heap.size + 1) 0 (.func (.func 317) #[] #[pb s, pb (s + 3)]) (.func (.func 318) #[] #[pb (s + 1), pb (s + 3)]) (.func (.func 319) #[] #[pb (s + 2), pb (s + 3)]) (.func (.func 320) #[] #[pb (s + 3)])) := fun t b v h hb => h.kept ((Kept.refl (fun k => k = w.heap.size + 1) w1).four10 (b := w.heap.size + 1) (.inl rfl) 0 (.func (.func 317) #[] #[pb s, pb (s + 3)]) (.func (.func 318) #[] #[pb (s + 1), pb (s + 3)]) (.func (.func 319) #[] #[pb (s + 2), pb (s + 3)]) (.func (.func 320) #[] #[pb (s + 3)])) hb
  clear r0 r1 r2 r3 z
  obtain ⟨r0, r1, r2, r3⟩ := cells4p hF
  clear hF
  unfold four10 at r0 r1 r2 r3 hK hO
  simp only [Nat.zero_add] at r0 r1 r2 r3 hK hO
  generalize hW : World.setCell _ _ _ = W3 at r0 r1 r2 r3 hK hO ⊢
  have hs := HS.out
  exact bodyPost_ret (v := PartAg 317 318 319 320 s (s + 1) (s + 2) (s + 3)) (by simp [results, Tryz.results201, go_sem, PartAg, r0, r1, r2, r3]) rfl ⟨s, w.heap.size, by omega, Nat.le_refl _, rfl, hO _ _ _ HA.out.1 (by omega), hO _ _ _ HA.out.2.1 (by omega), hO _ _ _ HA.out.2.2.1 (by omega), hO _ _ _ HA.out.2.2.2 (by omega), hO _ _ _ HB.out (by omega), hK⟩
end Go.Proofs.YtcbenminaakahaaGreatDoor
