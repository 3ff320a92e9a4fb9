/-
  Package letter: number: what a part that is a number consists of.
-/
import Derived.Test.YtabmipjpgofgpaaGreatDoorLtrC
namespace Go.Proofs.YtabmipjpgofgpaaGreatDoor
open Go.RowKit
set_option linter.unusedVariables false
set_option linter.unusedSimpArgs false

/-- Four cells stored one by one. -/
def four10 (w : World) (b o : Nat) (x0 x1 x2 x3 : Value) : World := (((w.setCell ⟨b, o, none⟩ x0).setCell ⟨b, o + 1, none⟩ x1).setCell ⟨b, o + 2, none⟩ x2).setCell ⟨b, o + 3, none⟩ x3
theorem four10_at {w : World} {b : Nat} {a0 a1 a2 a3 : Value} {t : TypeId} (h : w.heap[b]? = some (.cells #[a0, a1, a2, a3] t (0, 0))) (x0 x1 x2 x3 : Value) : (four10 w b 0 x0 x1 x2 x3).heap[b]? = some (.cells #[x0, x1, x2, x3] t (0, 0)) := by
  unfold four10
  have h0 : (w.setCell ⟨b, 0, none⟩ x0).heap[b]? = some (.cells #[x0, a1, a2, a3] t (0, 0)) := blkU_set h 0 x0
  have h1 : ((w.setCell ⟨b, 0, none⟩ x0).setCell ⟨b, 0 + 1, none⟩ x1).heap[b]? = some (.cells #[x0, x1, a2, a3] t (0, 0)) := blkU_set h0 1 x1
  have h2 : (((w.setCell ⟨b, 0, none⟩ x0).setCell ⟨b, 0 + 1, none⟩ x1).setCell ⟨b, 0 + 2, none⟩ x2).heap[b]? = some (.cells #[x0, x1, x2, a3] t (0, 0)) := blkU_set h1 2 x2
  have h3 : ((((w.setCell ⟨b, 0, none⟩ x0).setCell ⟨b, 0 + 1, none⟩ x1).setCell ⟨b, 0 + 2, none⟩ x2).setCell ⟨b, 0 + 3, none⟩ x3).heap[b]? = some (.cells #[x0, x1, x2, x3] t (0, 0)) := blkU_set h2 3 x3
  exact h3
theorem Kept.four10 {S : Nat → Prop} {a w : World} (h : Kept S a w) {b : Nat} (hb : S b ∨ a.heap.size ≤ b) (o : Nat) (x0 x1 x2 x3 : Value) : Kept S a (Go.Proofs.YtabmipjpgofgpaaGreatDoor.four10 w b o x0 x1 x2 x3) :=
  (((h.setCell (p := ⟨b, o, none⟩) hb _).setCell (p := ⟨b, o + 1, none⟩) hb _).setCell (p := ⟨b, o + 2, none⟩) hb _).setCell (p := ⟨b, o + 3, none⟩) hb _
theorem cells4p {w : World} {b : Nat} {x y z u : Value} {t : TypeId} (h : w.heap[b]? = some (.cells #[x, y, z, u] t (0, 0))) :
    w.cell? ⟨b, 0, none⟩ = some x ∧ w.cell? ⟨b, 1, none⟩ = some y ∧ w.cell? ⟨b, 2, none⟩ = some z ∧ w.cell? ⟨b, 3, none⟩ = some u :=
  ⟨cell_of_row _ _ 0 _ _ _ h, cell_of_row _ _ 1 _ _ _ h, cell_of_row _ _ 2 _ _ _ h, cell_of_row _ _ 3 _ _ _ h⟩
/-- What number tells. -/
def NumberE (f1 f2 f3 f4 g1 g2 : FuncId) (t1 t2 t3 t4 : TypeId) (wd : Int) (v1 v4 : Value) (w : World) (e : Ending) (w' : World) : Prop :=
  ∃ s bw, w.heap.size ≤ s ∧ w.heap.size ≤ bw ∧ e = .returned (PartAg f1 f2 f3 f4 s (s + 1) (s + 2) (s + 3)) ∧ OneAt t1 s v1 w' ∧ OneAt t2 (s + 1) (.func (.func g1) #[] #[pb bw]) w' ∧ OneAt t3 (s + 2) (.func (.func g2) #[] #[pb bw]) w' ∧ OneAt t4 (s + 3) v4 w' ∧ OneAt 3 bw (.int .i64 wd) w' ∧ Kept NoB w w'
set_option maxRecDepth 100000 in
set_option maxHeartbeats 1000000 in
theorem number_u64 (w : World) (wd : Int) (v1 v4 : Value) (h1 : v1.oneCell' = true) (h4 : v4.oneCell' = true) : Calls Tryz.prog 223 #[.int .i64 wd, v1, v4] w (NumberE 341 342 343 344 285 286 186 355 356 297 wd v1 v4 w) := by
  have hmf : ∀ (fn : Fn) (first cap : Array Value) (w : World), (Instr.makeFunc fn first cap).run Tryz.prog w = .ok (.func fn first cap) w := fun _ _ _ _ => rfl
  obtain ⟨W, hW⟩ : ∃ W, W = (w.alloc (.cells #[.int .i64 wd] 3 (0, 0))).alloc (.cells #[.nilFunc, .nilFunc, .nilFunc, .nilFunc] 228 (0, 0)) := ⟨_, rfl⟩
  have hsz : W.heap.size = w.heap.size + 2 := by rw [hW]; simp
  have o1 : OneAt 3 w.heap.size (.int .i64 wd) W := by rw [hW]; exact (OneAt.new w _ _).alloc _
  have o2 : W.heap[w.heap.size + 1]? = some (.cells #[.nilFunc, .nilFunc, .nilFunc, .nilFunc] 228 (0, 0)) := by
    have := heap_alloc_new (w.alloc (.cells #[.int .i64 wd] 3 (0, 0))) (.cells #[.nilFunc, .nilFunc, .nilFunc, .nilFunc] 228 (0, 0))
    rw [show (w.alloc (.cells #[.int .i64 wd] 3 (0, 0))).heap.size = w.heap.size + 1 by simp] at this
    rw [hW]; exact this
  have HKW : Hid (Kept NoB w W) := Lib.hid (by rw [hW]; exact ((Kept.refl NoB w).alloc _).alloc _)
  have HO1 := Lib.hid o1
  have HO2 := Lib.hid o2
  have HSZ := Lib.hid hsz
  have HW := Lib.hid hW
  have HF := Lib.hid (field_u64 W v1 (.func (.func 285) #[] #[pb w.heap.size]) (.func (.func 286) #[] #[pb w.heap.size]) v4 h1 rfl rfl h4)
  clear hW hsz o1 o2
  go_enter Tryz.func223, Tryz.ntmps223
  go_wp2_with fail
  rw [← HW.out]
  go_wp2_with fail
  refine HF.out.mono ?_
  rintro e w1 ⟨s, hs, rfl, a1, a2, a3, a4, hk⟩
  have HA := Lib.hid (And.intro a1 (And.intro a2 (And.intro a3 a4)))
  have HB := Lib.hid (HO1.out.no hk)
  have hr := hk.heap (fun h => h) HO2.out
  have HR := Lib.hid hr
  obtain ⟨r0, r1, r2, r3⟩ := cells4p hr
  have z := blkU_frozen hr
  have HK1 := Lib.hid (HKW.out.trans hk (fun _ _ h => h))
  have HS : Hid (w.heap.size + 2 ≤ s) := Lib.hid (by have := HSZ.out; omega)
  unfold PartAg
  clear a1 a2 a3 a4 hk hr hs
  go_wp2
  have hF := four10_at HR.out (.func (.func 341) #[] #[pb s, pb (s + 3)]) (.func (.func 342) #[] #[pb (s + 1), pb (s + 3)]) (.func (.func 343) #[] #[pb (s + 2), pb (s + 3)]) (.func (.func 344) #[] #[pb (s + 3)])
  have hK := HK1.out.four10 (b := w.heap.size + 1) (.inr (by omega)) 0 (.func (.func 341) #[] #[pb s, pb (s + 3)]) (.func (.func 342) #[] #[pb (s + 1), pb (s + 3)]) (.func (.func 343) #[] #[pb (s + 2), pb (s + 3)]) (.func (.func 344) #[] #[pb (s + 3)])
  have hO : ∀ (t : TypeId) (b : Nat) (v : Value), OneAt t b v w1 → b ≠ w.heap.size + 1 → OneAt t b v (four10 w1 (w.heap.size + 1) 0 (.func (.func 341) #[] #[pb s, pb (s + 3)]) (.func (.func 342) #[] #[pb (s + 1), pb (s + 3)]) (.func (.func 343) #[] #[pb (s + 2), pb (s + 3)]) (.func (.func 344) #[] #[pb (s + 3)])) := fun t b v h hb => h.kept ((Kept.refl (fun k => k = w.heap.size + 1) w1).four10 (b := w.heap.size + 1) (.inl rfl) 0 (.func (.func 341) #[] #[pb s, pb (s + 3)]) (.func (.func 342) #[] #[pb (s + 1), pb (s + 3)]) (.func (.func 343) #[] #[pb (s + 2), pb (s + 3)]) (.func (.func 344) #[] #[pb (s + 3)])) hb
  clear r0 r1 r2 r3 z
  obtain ⟨r0, r1, r2, r3⟩ := cells4p hF
  clear hF
  unfold four10 at r0 r1 r2 r3 hK hO
  simp only [Nat.zero_add] at r0 r1 r2 r3 hK hO
  generalize hW : World.setCell _ _ _ = W3 at r0 r1 r2 r3 hK hO ⊢
  have hs := HS.out
  exact bodyPost_ret (v := PartAg 341 342 343 344 s (s + 1) (s + 2) (s + 3)) (by simp [results, Tryz.results223, go_sem, PartAg, r0, r1, r2, r3]) rfl ⟨s, w.heap.size, by omega, Nat.le_refl _, rfl, hO _ _ _ HA.out.1 (by omega), hO _ _ _ HA.out.2.1 (by omega), hO _ _ _ HA.out.2.2.1 (by omega), hO _ _ _ HA.out.2.2.2 (by omega), hO _ _ _ HB.out (by omega), hK⟩
set_option maxRecDepth 100000 in
set_option maxHeartbeats 1000000 in
theorem number_int (w : World) (wd : Int) (v1 v4 : Value) (h1 : v1.oneCell' = true) (h4 : v4.oneCell' = true) : Calls Tryz.prog 226 #[.int .i64 wd, v1, v4] w (NumberE 346 347 348 349 290 291 197 360 361 301 wd v1 v4 w) := by
  have hmf : ∀ (fn : Fn) (first cap : Array Value) (w : World), (Instr.makeFunc fn first cap).run Tryz.prog w = .ok (.func fn first cap) w := fun _ _ _ _ => rfl
  obtain ⟨W, hW⟩ : ∃ W, W = (w.alloc (.cells #[.int .i64 wd] 3 (0, 0))).alloc (.cells #[.nilFunc, .nilFunc, .nilFunc, .nilFunc] 228 (0, 0)) := ⟨_, rfl⟩
  have hsz : W.heap.size = w.heap.size + 2 := by rw [hW]; simp
  have o1 : OneAt 3 w.heap.size (.int .i64 wd) W := by rw [hW]; exact (OneAt.new w _ _).alloc _
  have o2 : W.heap[w.heap.size + 1]? = some (.cells #[.nilFunc, .nilFunc, .nilFunc, .nilFunc] 228 (0, 0)) := by
    have := heap_alloc_new (w.alloc (.cells #[.int .i64 wd] 3 (0, 0))) (.cells #[.nilFunc, .nilFunc, .nilFunc, .nilFunc] 228 (0, 0))
    rw [show (w.alloc (.cells #[.int .i64 wd] 3 (0, 0))).heap.size = w.heap.size + 1 by simp] at this
    rw [hW]; exact this
  have HKW : Hid (Kept NoB w W) := Lib.hid (by rw [hW]; exact ((Kept.refl NoB w).alloc _).alloc _)
  have HO1 := Lib.hid o1
  have HO2 := Lib.hid o2
  have HSZ := Lib.hid hsz
  have HW := Lib.hid hW
  have HF := Lib.hid (field_int W v1 (.func (.func 290) #[] #[pb w.heap.size]) (.func (.func 291) #[] #[pb w.heap.size]) v4 h1 rfl rfl h4)
  clear hW hsz o1 o2
  go_enter Tryz.func226, Tryz.ntmps226
  go_wp2_with fail
  rw [← HW.out]
  go_wp2_with fail
  refine HF.out.mono ?_
  rintro e w1 ⟨s, hs, rfl, a1, a2, a3, a4, hk⟩
  have HA := Lib.hid (And.intro a1 (And.intro a2 (And.intro a3 a4)))
  have HB := Lib.hid (HO1.out.no hk)
  have hr := hk.heap (fun h => h) HO2.out
  have HR := Lib.hid hr
  obtain ⟨r0, r1, r2, r3⟩ := cells4p hr
  have z := blkU_frozen hr
  have HK1 := Lib.hid (HKW.out.trans hk (fun _ _ h => h))
  have HS : Hid (w.heap.size + 2 ≤ s) := Lib.hid (by have := HSZ.out; omega)
  unfold PartAg
  clear a1 a2 a3 a4 hk hr hs
  go_wp2
  have hF := four10_at HR.out (.func (.func 346) #[] #[pb s, pb (s + 3)]) (.func (.func 347) #[] #[pb (s + 1), pb (s + 3)]) (.func (.func 348) #[] #[pb (s + 2), pb (s + 3)]) (.func (.func 349) #[] #[pb (s + 3)])
  have hK := HK1.out.four10 (b := w.heap.size + 1) (.inr (by omega)) 0 (.func (.func 346) #[] #[pb s, pb (s + 3)]) (.func (.func 347) #[] #[pb (s + 1), pb (s + 3)]) (.func (.func 348) #[] #[pb (s + 2), pb (s + 3)]) (.func (.func 349) #[] #[pb (s + 3)])
  have hO : ∀ (t : TypeId) (b : Nat) (v : Value), OneAt t b v w1 → b ≠ w.heap.size + 1 → OneAt t b v (four10 w1 (w.heap.size + 1) 0 (.func (.func 346) #[] #[pb s, pb (s + 3)]) (.func (.func 347) #[] #[pb (s + 1), pb (s + 3)]) (.func (.func 348) #[] #[pb (s + 2), pb (s + 3)]) (.func (.func 349) #[] #[pb (s + 3)])) := fun t b v h hb => h.kept ((Kept.refl (fun k => k = w.heap.size + 1) w1).four10 (b := w.heap.size + 1) (.inl rfl) 0 (.func (.func 346) #[] #[pb s, pb (s + 3)]) (.func (.func 347) #[] #[pb (s + 1), pb (s + 3)]) (.func (.func 348) #[] #[pb (s + 2), pb (s + 3)]) (.func (.func 349) #[] #[pb (s + 3)])) hb
  clear r0 r1 r2 r3 z
  obtain ⟨r0, r1, r2, r3⟩ := cells4p hF
  clear hF
  unfold four10 at r0 r1 r2 r3 hK hO
  simp only [Nat.zero_add] at r0 r1 r2 r3 hK hO
  generalize hW : World.setCell _ _ _ = W3 at r0 r1 r2 r3 hK hO ⊢
  have hs := HS.out
  exact bodyPost_ret (v := PartAg 346 347 348 349 s (s + 1) (s + 2) (s + 3)) (by simp [results, Tryz.results226, go_sem, PartAg, r0, r1, r2, r3]) rfl ⟨s, w.heap.size, by omega, Nat.le_refl _, rfl, hO _ _ _ HA.out.1 (by omega), hO _ _ _ HA.out.2.1 (by omega), hO _ _ _ HA.out.2.2.1 (by omega), hO _ _ _ HA.out.2.2.2 (by omega), hO _ _ _ HB.out (by omega), hK⟩
end Go.Proofs.YtabmipjpgofgpaaGreatDoor
