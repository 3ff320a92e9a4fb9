/-
  Package letter: partAt, for the parts that an update's letters have.
-/
import Derived.Test.YtabmipjpgofgpaaGreatDoorLtrD
namespace Go.Proofs.YtabmipjpgofgpaaGreatDoor
open Go.RowKit
set_option linter.unusedVariables false
set_option linter.unusedSimpArgs false

/-- A part that is a number, in blocks from B on. -/
def NumPart (f1 f2 f3 f4 g1 g2 : FuncId) (t1 t2 t3 t4 : TypeId) (wd : Int) (v1 v4 : Value) (B : Nat) (w : World) (pv : Value) : Prop :=
  ∃ s bw, B ≤ s ∧ B ≤ bw ∧ pv = PartAg f1 f2 f3 f4 s (s + 1) (s + 2) (s + 3) ∧ OneAt t1 s v1 w ∧ OneAt t2 (s + 1) (.func (.func g1) #[] #[pb bw]) w ∧ OneAt t3 (s + 2) (.func (.func g2) #[] #[pb bw]) w ∧ OneAt t4 (s + 3) v4 w ∧ OneAt 3 bw (.int .i64 wd) w
theorem NumPart.kept {S : Nat → Prop} {f1 f2 f3 f4 g1 g2 : FuncId} {t1 t2 t3 t4 : TypeId} {wd : Int} {v1 v4 pv : Value} {B : Nat} {w w' : World} (h : NumPart f1 f2 f3 f4 g1 g2 t1 t2 t3 t4 wd v1 v4 B w pv) (hk : Kept S w w') (hs : ∀ k, B ≤ k → ¬ S k) : NumPart f1 f2 f3 f4 g1 g2 t1 t2 t3 t4 wd v1 v4 B w' pv := by
  obtain ⟨s, bw, b1, b2, e, a1, a2, a3, a4, a5⟩ := h
  exact ⟨s, bw, b1, b2, e, a1.kept hk (hs _ (by omega)), a2.kept hk (hs _ (by omega)), a3.kept hk (hs _ (by omega)), a4.kept hk (hs _ (by omega)), a5.kept hk (hs _ (by omega))⟩
/-- A part that is a field, in blocks from B on. -/
def FldPart (f1 f2 f3 f4 : FuncId) (t1 t2 t3 t4 : TypeId) (v1 v2 v3 v4 : Value) (B : Nat) (w : World) (pv : Value) : Prop :=
  ∃ s, B ≤ s ∧ pv = PartAg f1 f2 f3 f4 s (s + 1) (s + 2) (s + 3) ∧ OneAt t1 s v1 w ∧ OneAt t2 (s + 1) v2 w ∧ OneAt t3 (s + 2) v3 w ∧ OneAt t4 (s + 3) v4 w
theorem FldPart.kept {S : Nat → Prop} {f1 f2 f3 f4 : FuncId} {t1 t2 t3 t4 : TypeId} {v1 v2 v3 v4 pv : Value} {B : Nat} {w w' : World} (h : FldPart f1 f2 f3 f4 t1 t2 t3 t4 v1 v2 v3 v4 B w pv) (hk : Kept S w w') (hs : ∀ k, B ≤ k → ¬ S k) : FldPart f1 f2 f3 f4 t1 t2 t3 t4 v1 v2 v3 v4 B w' pv := by
  obtain ⟨s, b1, e, a1, a2, a3, a4⟩ := h
  exact ⟨s, b1, e, a1.kept hk (hs _ (by omega)), a2.kept hk (hs _ (by omega)), a3.kept hk (hs _ (by omega)), a4.kept hk (hs _ (by omega))⟩
def Part1 (B : Nat) (w : World) (pv : Value) : Prop := ∃ bm, B ≤ bm ∧ OneAt 3 bm (.int .i64 3) w ∧ NumPart 346 347 348 349 290 291 197 360 361 301 1 (.func (.func 293) #[] #[pb bm]) (.func (.func 228) #[] #[]) B w pv
theorem Part1.kept {S : Nat → Prop} {B : Nat} {w w' : World} {pv : Value} (h : Part1 B w pv) (hk : Kept S w w') (hs : ∀ k, B ≤ k → ¬ S k) : Part1 B w' pv := by
  obtain ⟨bm, hb, h1, h2⟩ := h
  exact ⟨bm, hb, h1.kept hk (hs _ hb), h2.kept hk hs⟩
set_option maxRecDepth 100000 in
set_option maxHeartbeats 1000000 in
theorem partAt_1 (w : World) (B : Nat) (hB : B ≤ w.heap.size) : Calls Tryz.prog 197 #[.int .u32 2] w fun e w' => ∃ pv, e = .returned pv ∧ Part1 B w' pv ∧ Kept NoB w w' := by
  obtain ⟨W, hW⟩ : ∃ W, W = w.alloc (.cells #[.nilFunc, .nilFunc, .nilFunc, .nilFunc] 228 (0, 0)) := ⟨_, rfl⟩
  have hsz : W.heap.size = w.heap.size + 1 := by rw [hW]; simp
  have o2 : W.heap[w.heap.size]? = some (.cells #[.nilFunc, .nilFunc, .nilFunc, .nilFunc] 228 (0, 0)) := by rw [hW]; exact heap_alloc_new w _
  have HKW : Hid (Kept NoB w W) := Lib.hid (by rw [hW]; exact (Kept.refl NoB w).alloc _)
  have HO2 := Lib.hid o2
  have HSZ := Lib.hid hsz
  have HW := Lib.hid hW
  have HU := Lib.hid (upTo_any W 3)
  obtain ⟨W2, hW2⟩ : ∃ W2, W2 = W.alloc (.cells #[.int .i64 3] 3 (0, 0)) := ⟨_, rfl⟩
  have hk2 : Kept NoB W W2 := by rw [hW2]; exact (Kept.refl NoB W).alloc _
  have hm : OneAt 3 W.heap.size (.int .i64 3) W2 := by rw [hW2]; exact OneAt.new W _ _
  have HW2 := Lib.hid hW2
  have HM := Lib.hid hm
  have HK2 := Lib.hid hk2
  have HN := Lib.hid (number_int W2 1 (.func (.func 293) #[] #[pb W.heap.size]) (.func (.func 228) #[] #[]) rfl rfl)
  clear hW hsz o2 hW2 hk2 hm
  go_enter Tryz.func197, Tryz.ntmps197
  go_wp2_with fail
  rw [← HW.out]
  go_wp2_with fail
  refine HU.out.mono ?_
  rintro e w1 ⟨rfl, rfl⟩
  rw [← HW2.out]
  go_wp2_with fail
  refine HN.out.mono ?_
  rintro e w1 ⟨s, bw, hs, hbw, rfl, a1, a2, a3, a4, a5, hk⟩
  have HB5 := Lib.hid a5
  have HBM := Lib.hid (HM.out.no hk)
  have HS : Hid (w.heap.size + 1 ≤ s ∧ w.heap.size + 1 ≤ bw) := Lib.hid (by have := HSZ.out; have := HK2.out.size; omega)
  replace hk := HK2.out.trans hk (fun _ _ h => h)
  clear hs hbw a5
  have HA := Lib.hid (And.intro a1 (And.intro a2 (And.intro a3 a4)))
  have hk1 := HKW.out.trans hk (fun _ _ h => h)
  have hr := hk.heap (fun h => h) HO2.out
  have HR := Lib.hid hr
  obtain ⟨r0, r1, r2, r3⟩ := cells4p hr
  have z := blkU_frozen hr
  have HK1 := Lib.hid hk1
  unfold PartAg
  clear a1 a2 a3 a4 hk hk1 hr
  go_wp2
  have hF := four10_at HR.out (.func (.func 346) #[] #[pb s, pb (s + 3)]) (.func (.func 347) #[] #[pb (s + 1), pb (s + 3)]) (.func (.func 348) #[] #[pb (s + 2), pb (s + 3)]) (.func (.func 349) #[] #[pb (s + 3)])
  have hK := HK1.out.four10 (b := w.heap.size) (.inr (Nat.le_refl _)) 0 (.func (.func 346) #[] #[pb s, pb (s + 3)]) (.func (.func 347) #[] #[pb (s + 1), pb (s + 3)]) (.func (.func 348) #[] #[pb (s + 2), pb (s + 3)]) (.func (.func 349) #[] #[pb (s + 3)])
  have hO : ∀ (t : TypeId) (b : Nat) (v : Value), OneAt t b v w1 → b ≠ w.heap.size → OneAt t b v (four10 w1 w.heap.size 0 (.func (.func 346) #[] #[pb s, pb (s + 3)]) (.func (.func 347) #[] #[pb (s + 1), pb (s + 3)]) (.func (.func 348) #[] #[pb (s + 2), pb (s + 3)]) (.func (.func 349) #[] #[pb (s + 3)])) := fun t b v h hb => h.kept ((Kept.refl (fun k => k = w.heap.size) w1).four10 (b := w.heap.size) (.inl rfl) 0 (.func (.func 346) #[] #[pb s, pb (s + 3)]) (.func (.func 347) #[] #[pb (s + 1), pb (s + 3)]) (.func (.func 348) #[] #[pb (s + 2), pb (s + 3)]) (.func (.func 349) #[] #[pb (s + 3)])) hb
  clear r0 r1 r2 r3 z
  obtain ⟨r0, r1, r2, r3⟩ := cells4p hF
  clear hF
  unfold four10 at r0 r1 r2 r3 hK hO
  simp only [Nat.zero_add] at r0 r1 r2 r3 hK hO
  generalize hW : World.setCell _ _ _ = W3 at r0 r1 r2 r3 hK hO ⊢

  have hs := HS.out
  have hw := HSZ.out
  exact bodyPost_ret (v := PartAg 346 347 348 349 s (s + 1) (s + 2) (s + 3)) (by simp [results, Tryz.results197, go_sem, PartAg, r0, r1, r2, r3]) rfl ⟨_, rfl, ⟨W.heap.size, by omega, hO _ _ _ HBM.out (by omega), s, bw, by omega, by omega, rfl, hO _ _ _ HA.out.1 (by omega), hO _ _ _ HA.out.2.1 (by omega), hO _ _ _ HA.out.2.2.1 (by omega), hO _ _ _ HA.out.2.2.2 (by omega), hO _ _ _ HB5.out (by omega)⟩, hK⟩
def Part2 (B : Nat) (w : World) (pv : Value) : Prop := NumPart 341 342 343 344 285 286 186 355 356 297 8 (.func (.func 229) #[] #[]) (.func (.func 230) #[] #[]) B w pv
theorem Part2.kept {S : Nat → Prop} {B : Nat} {w w' : World} {pv : Value} (h : Part2 B w pv) (hk : Kept S w w') (hs : ∀ k, B ≤ k → ¬ S k) : Part2 B w' pv := NumPart.kept h hk hs
set_option maxRecDepth 100000 in
set_option maxHeartbeats 1000000 in
theorem partAt_2 (w : World) (B : Nat) (hB : B ≤ w.heap.size) : Calls Tryz.prog 197 #[.int .u32 4] w fun e w' => ∃ pv, e = .returned pv ∧ Part2 B w' pv ∧ Kept NoB w w' := by
  obtain ⟨W, hW⟩ : ∃ W, W = w.alloc (.cells #[.nilFunc, .nilFunc, .nilFunc, .nilFunc] 228 (0, 0)) := ⟨_, rfl⟩
  have hsz : W.heap.size = w.heap.size + 1 := by rw [hW]; simp
  have o2 : W.heap[w.heap.size]? = some (.cells #[.nilFunc, .nilFunc, .nilFunc, .nilFunc] 228 (0, 0)) := by rw [hW]; exact heap_alloc_new w _
  have HKW : Hid (Kept NoB w W) := Lib.hid (by rw [hW]; exact (Kept.refl NoB w).alloc _)
  have HO2 := Lib.hid o2
  have HSZ := Lib.hid hsz
  have HW := Lib.hid hW
  have HN := Lib.hid (number_u64 W 8 (.func (.func 229) #[] #[]) (.func (.func 230) #[] #[]) rfl rfl)
  clear hW hsz o2
  go_enter Tryz.func197, Tryz.ntmps197
  go_wp2_with fail
  rw [← HW.out]
  go_wp2_with fail
  refine HN.out.mono ?_
  rintro e w1 ⟨s, bw, hs, hbw, rfl, a1, a2, a3, a4, a5, hk⟩
  have HB5 := Lib.hid a5
  have HS : Hid (w.heap.size + 1 ≤ s ∧ w.heap.size + 1 ≤ bw) := Lib.hid (by have := HSZ.out; omega)
  clear hs hbw a5
  have HA := Lib.hid (And.intro a1 (And.intro a2 (And.intro a3 a4)))
  have hk1 := HKW.out.trans hk (fun _ _ h => h)
  have hr := hk.heap (fun h => h) HO2.out
  have HR := Lib.hid hr
  obtain ⟨r0, r1, r2, r3⟩ := cells4p hr
  have z := blkU_frozen hr
  have HK1 := Lib.hid hk1
  unfold PartAg
  clear a1 a2 a3 a4 hk hk1 hr
  go_wp2
  have hF := four10_at HR.out (.func (.func 341) #[] #[pb s, pb (s + 3)]) (.func (.func 342) #[] #[pb (s + 1), pb (s + 3)]) (.func (.func 343) #[] #[pb (s + 2), pb (s + 3)]) (.func (.func 344) #[] #[pb (s + 3)])
  have hK := HK1.out.four10 (b := w.heap.size) (.inr (Nat.le_refl _)) 0 (.func (.func 341) #[] #[pb s, pb (s + 3)]) (.func (.func 342) #[] #[pb (s + 1), pb (s + 3)]) (.func (.func 343) #[] #[pb (s + 2), pb (s + 3)]) (.func (.func 344) #[] #[pb (s + 3)])
  have hO : ∀ (t : TypeId) (b : Nat) (v : Value), OneAt t b v w1 → b ≠ w.heap.size → OneAt t b v (four10 w1 w.heap.size 0 (.func (.func 341) #[] #[pb s, pb (s + 3)]) (.func (.func 342) #[] #[pb (s + 1), pb (s + 3)]) (.func (.func 343) #[] #[pb (s + 2), pb (s + 3)]) (.func (.func 344) #[] #[pb (s + 3)])) := fun t b v h hb => h.kept ((Kept.refl (fun k => k = w.heap.size) w1).four10 (b := w.heap.size) (.inl rfl) 0 (.func (.func 341) #[] #[pb s, pb (s + 3)]) (.func (.func 342) #[] #[pb (s + 1), pb (s + 3)]) (.func (.func 343) #[] #[pb (s + 2), pb (s + 3)]) (.func (.func 344) #[] #[pb (s + 3)])) hb
  clear r0 r1 r2 r3 z
  obtain ⟨r0, r1, r2, r3⟩ := cells4p hF
  clear hF
  unfold four10 at r0 r1 r2 r3 hK hO
  simp only [Nat.zero_add] at r0 r1 r2 r3 hK hO
  generalize hW : World.setCell _ _ _ = W3 at r0 r1 r2 r3 hK hO ⊢

  have hs := HS.out
  exact bodyPost_ret (v := PartAg 341 342 343 344 s (s + 1) (s + 2) (s + 3)) (by simp [results, Tryz.results197, go_sem, PartAg, r0, r1, r2, r3]) rfl ⟨_, rfl, ⟨s, bw, by omega, by omega, rfl, hO _ _ _ HA.out.1 (by omega), hO _ _ _ HA.out.2.1 (by omega), hO _ _ _ HA.out.2.2.1 (by omega), hO _ _ _ HA.out.2.2.2 (by omega), hO _ _ _ HB5.out (by omega)⟩, hK⟩
def Part3 (B : Nat) (w : World) (pv : Value) : Prop := NumPart 341 342 343 344 285 286 186 355 356 297 8 (.func (.func 231) #[] #[]) (.func (.func 232) #[] #[]) B w pv
theorem Part3.kept {S : Nat → Prop} {B : Nat} {w w' : World} {pv : Value} (h : Part3 B w pv) (hk : Kept S w w') (hs : ∀ k, B ≤ k → ¬ S k) : Part3 B w' pv := NumPart.kept h hk hs
set_option maxRecDepth 100000 in
set_option maxHeartbeats 1000000 in
theorem partAt_3 (w : World) (B : Nat) (hB : B ≤ w.heap.size) : Calls Tryz.prog 197 #[.int .u32 8] w fun e w' => ∃ pv, e = .returned pv ∧ Part3 B w' pv ∧ Kept NoB w w' := by
  obtain ⟨W, hW⟩ : ∃ W, W = w.alloc (.cells #[.nilFunc, .nilFunc, .nilFunc, .nilFunc] 228 (0, 0)) := ⟨_, rfl⟩
  have hsz : W.heap.size = w.heap.size + 1 := by rw [hW]; simp
  have o2 : W.heap[w.heap.size]? = some (.cells #[.nilFunc, .nilFunc, .nilFunc, .nilFunc] 228 (0, 0)) := by rw [hW]; exact heap_alloc_new w _
  have HKW : Hid (Kept NoB w W) := Lib.hid (by rw [hW]; exact (Kept.refl NoB w).alloc _)
  have HO2 := Lib.hid o2
  have HSZ := Lib.hid hsz
  have HW := Lib.hid hW
  have HN := Lib.hid (number_u64 W 8 (.func (.func 231) #[] #[]) (.func (.func 232) #[] #[]) rfl rfl)
  clear hW hsz o2
  go_enter Tryz.func197, Tryz.ntmps197
  go_wp2_with fail
  rw [← HW.out]
  go_wp2_with fail
  refine HN.out.mono ?_
  rintro e w1 ⟨s, bw, hs, hbw, rfl, a1, a2, a3, a4, a5, hk⟩
  have HB5 := Lib.hid a5
  have HS : Hid (w.heap.size + 1 ≤ s ∧ w.heap.size + 1 ≤ bw) := Lib.hid (by have := HSZ.out; omega)
  clear hs hbw a5
  have HA := Lib.hid (And.intro a1 (And.intro a2 (And.intro a3 a4)))
  have hk1 := HKW.out.trans hk (fun _ _ h => h)
  have hr := hk.heap (fun h => h) HO2.out
  have HR := Lib.hid hr
  obtain ⟨r0, r1, r2, r3⟩ := cells4p hr
  have z := blkU_frozen hr
  have HK1 := Lib.hid hk1
  unfold PartAg
  clear a1 a2 a3 a4 hk hk1 hr
  go_wp2
  have hF := four10_at HR.out (.func (.func 341) #[] #[pb s, pb (s + 3)]) (.func (.func 342) #[] #[pb (s + 1), pb (s + 3)]) (.func (.func 343) #[] #[pb (s + 2), pb (s + 3)]) (.func (.func 344) #[] #[pb (s + 3)])
  have hK := HK1.out.four10 (b := w.heap.size) (.inr (Nat.le_refl _)) 0 (.func (.func 341) #[] #[pb s, pb (s + 3)]) (.func (.func 342) #[] #[pb (s + 1), pb (s + 3)]) (.func (.func 343) #[] #[pb (s + 2), pb (s + 3)]) (.func (.func 344) #[] #[pb (s + 3)])
  have hO : ∀ (t : TypeId) (b : Nat) (v : Value), OneAt t b v w1 → b ≠ w.heap.size → OneAt t b v (four10 w1 w.heap.size 0 (.func (.func 341) #[] #[pb s, pb (s + 3)]) (.func (.func 342) #[] #[pb (s + 1), pb (s + 3)]) (.func (.func 343) #[] #[pb (s + 2), pb (s + 3)]) (.func (.func 344) #[] #[pb (s + 3)])) := fun t b v h hb => h.kept ((Kept.refl (fun k => k = w.heap.size) w1).four10 (b := w.heap.size) (.inl rfl) 0 (.func (.func 341) #[] #[pb s, pb (s + 3)]) (.func (.func 342) #[] #[pb (s + 1), pb (s + 3)]) (.func (.func 343) #[] #[pb (s + 2), pb (s + 3)]) (.func (.func 344) #[] #[pb (s + 3)])) hb
  clear r0 r1 r2 r3 z
  obtain ⟨r0, r1, r2, r3⟩ := cells4p hF
  clear hF
  unfold four10 at r0 r1 r2 r3 hK hO
  simp only [Nat.zero_add] at r0 r1 r2 r3 hK hO
  generalize hW : World.setCell _ _ _ = W3 at r0 r1 r2 r3 hK hO ⊢

  have hs := HS.out
  exact bodyPost_ret (v := PartAg 341 342 343 344 s (s + 1) (s + 2) (s + 3)) (by simp [results, Tryz.results197, go_sem, PartAg, r0, r1, r2, r3]) rfl ⟨_, rfl, ⟨s, bw, by omega, by omega, rfl, hO _ _ _ HA.out.1 (by omega), hO _ _ _ HA.out.2.1 (by omega), hO _ _ _ HA.out.2.2.1 (by omega), hO _ _ _ HA.out.2.2.2 (by omega), hO _ _ _ HB5.out (by omega)⟩, hK⟩
def Part4 (B : Nat) (w : World) (pv : Value) : Prop := NumPart 341 342 343 344 285 286 186 355 356 297 8 (.func (.func 231) #[] #[]) (.func (.func 233) #[] #[]) B w pv
theorem Part4.kept {S : Nat → Prop} {B : Nat} {w w' : World} {pv : Value} (h : Part4 B w pv) (hk : Kept S w w') (hs : ∀ k, B ≤ k → ¬ S k) : Part4 B w' pv := NumPart.kept h hk hs
set_option maxRecDepth 100000 in
set_option maxHeartbeats 1000000 in
theorem partAt_4 (w : World) (B : Nat) (hB : B ≤ w.heap.size) : Calls Tryz.prog 197 #[.int .u32 16] w fun e w' => ∃ pv, e = .returned pv ∧ Part4 B w' pv ∧ Kept NoB w w' := by
  obtain ⟨W, hW⟩ : ∃ W, W = w.alloc (.cells #[.nilFunc, .nilFunc, .nilFunc, .nilFunc] 228 (0, 0)) := ⟨_, rfl⟩
  have hsz : W.heap.size = w.heap.size + 1 := by rw [hW]; simp
  have o2 : W.heap[w.heap.size]? = some (.cells #[.nilFunc, .nilFunc, .nilFunc, .nilFunc] 228 (0, 0)) := by rw [hW]; exact heap_alloc_new w _
  have HKW : Hid (Kept NoB w W) := Lib.hid (by rw [hW]; exact (Kept.refl NoB w).alloc _)
  have HO2 := Lib.hid o2
  have HSZ := Lib.hid hsz
  have HW := Lib.hid hW
  have HN := Lib.hid (number_u64 W 8 (.func (.func 231) #[] #[]) (.func (.func 233) #[] #[]) rfl rfl)
  clear hW hsz o2
  go_enter Tryz.func197, Tryz.ntmps197
  go_wp2_with fail
  rw [← HW.out]
  go_wp2_with fail
  refine HN.out.mono ?_
  rintro e w1 ⟨s, bw, hs, hbw, rfl, a1, a2, a3, a4, a5, hk⟩
  have HB5 := Lib.hid a5
  have HS : Hid (w.heap.size + 1 ≤ s ∧ w.heap.size + 1 ≤ bw) := Lib.hid (by have := HSZ.out; omega)
  clear hs hbw a5
  have HA := Lib.hid (And.intro a1 (And.intro a2 (And.intro a3 a4)))
  have hk1 := HKW.out.trans hk (fun _ _ h => h)
  have hr := hk.heap (fun h => h) HO2.out
  have HR := Lib.hid hr
  obtain ⟨r0, r1, r2, r3⟩ := cells4p hr
  have z := blkU_frozen hr
  have HK1 := Lib.hid hk1
  unfold PartAg
  clear a1 a2 a3 a4 hk hk1 hr
  go_wp2
  have hF := four10_at HR.out (.func (.func 341) #[] #[pb s, pb (s + 3)]) (.func (.func 342) #[] #[pb (s + 1), pb (s + 3)]) (.func (.func 343) #[] #[pb (s + 2), pb (s + 3)]) (.func (.func 344) #[] #[pb (s + 3)])
  have hK := HK1.out.four10 (b := w.heap.size) (.inr (Nat.le_refl _)) 0 (.func (.func 341) #[] #[pb s, pb (s + 3)]) (.func (.func 342) #[] #[pb (s + 1), pb (s + 3)]) (.func (.func 343) #[] #[pb (s + 2), pb (s + 3)]) (.func (.func 344) #[] #[pb (s + 3)])
  have hO : ∀ (t : TypeId) (b : Nat) (v : Value), OneAt t b v w1 → b ≠ w.heap.size → OneAt t b v (four10 w1 w.heap.size 0 (.func (.func 341) #[] #[pb s, pb (s + 3)]) (.func (.func 342) #[] #[pb (s + 1), pb (s + 3)]) (.func (.func 343) #[] #[pb (s + 2), pb (s + 3)]) (.func (.func 344) #[] #[pb (s + 3)])) := fun t b v h hb => h.kept ((Kept.refl (fun k => k = w.heap.size) w1).four10 (b := w.heap.size) (.inl rfl) 0 (.func (.func 341) #[] #[pb s, pb (s + 3)]) (.func (.func 342) #[] #[pb (s + 1), pb (s + 3)]) (.func (.func 343) #[] #[pb (s + 2), pb (s + 3)]) (.func (.func 344) #[] #[pb (s + 3)])) hb
  clear r0 r1 r2 r3 z
  obtain ⟨r0, r1, r2, r3⟩ := cells4p hF
  clear hF
  unfold four10 at r0 r1 r2 r3 hK hO
  simp only [Nat.zero_add] at r0 r1 r2 r3 hK hO
  generalize hW : World.setCell _ _ _ = W3 at r0 r1 r2 r3 hK hO ⊢

  have hs := HS.out
  exact bodyPost_ret (v := PartAg 341 342 343 344 s (s + 1) (s + 2) (s + 3)) (by simp [results, Tryz.results197, go_sem, PartAg, r0, r1, r2, r3]) rfl ⟨_, rfl, ⟨s, bw, by omega, by omega, rfl, hO _ _ _ HA.out.1 (by omega), hO _ _ _ HA.out.2.1 (by omega), hO _ _ _ HA.out.2.2.1 (by omega), hO _ _ _ HA.out.2.2.2 (by omega), hO _ _ _ HB5.out (by omega)⟩, hK⟩
def Part14 (B : Nat) (w : World) (pv : Value) : Prop := FldPart 318 319 320 321 328 329 330 332 (.func (.func 258) #[] #[]) (.func (.func 259) #[] #[]) (.func (.func 260) #[] #[]) (.func (.func 261) #[] #[]) B w pv
theorem Part14.kept {S : Nat → Prop} {B : Nat} {w w' : World} {pv : Value} (h : Part14 B w pv) (hk : Kept S w w') (hs : ∀ k, B ≤ k → ¬ S k) : Part14 B w' pv := FldPart.kept h hk hs
set_option maxRecDepth 100000 in
set_option maxHeartbeats 1000000 in
theorem partAt_14 (w : World) (B : Nat) (hB : B ≤ w.heap.size) : Calls Tryz.prog 197 #[.int .u32 16384] w fun e w' => ∃ pv, e = .returned pv ∧ Part14 B w' pv ∧ Kept NoB w w' := by
  obtain ⟨W, hW⟩ : ∃ W, W = w.alloc (.cells #[.nilFunc, .nilFunc, .nilFunc, .nilFunc] 228 (0, 0)) := ⟨_, rfl⟩
  have hsz : W.heap.size = w.heap.size + 1 := by rw [hW]; simp
  have o2 : W.heap[w.heap.size]? = some (.cells #[.nilFunc, .nilFunc, .nilFunc, .nilFunc] 228 (0, 0)) := by rw [hW]; exact heap_alloc_new w _
  have HKW : Hid (Kept NoB w W) := Lib.hid (by rw [hW]; exact (Kept.refl NoB w).alloc _)
  have HO2 := Lib.hid o2
  have HSZ := Lib.hid hsz
  have HW := Lib.hid hW
  have HN := Lib.hid (field_ups W (.func (.func 258) #[] #[]) (.func (.func 259) #[] #[]) (.func (.func 260) #[] #[]) (.func (.func 261) #[] #[]) rfl rfl rfl rfl)
  clear hW hsz o2
  go_enter Tryz.func197, Tryz.ntmps197
  go_wp2_with fail
  rw [← HW.out]
  go_wp2_with fail
  refine HN.out.mono ?_
  rintro e w1 ⟨s, hs, rfl, a1, a2, a3, a4, hk⟩
  have HS : Hid (w.heap.size + 1 ≤ s) := Lib.hid (by have := HSZ.out; omega)
  clear hs
  have HA := Lib.hid (And.intro a1 (And.intro a2 (And.intro a3 a4)))
  have hk1 := HKW.out.trans hk (fun _ _ h => h)
  have hr := hk.heap (fun h => h) HO2.out
  have HR := Lib.hid hr
  obtain ⟨r0, r1, r2, r3⟩ := cells4p hr
  have z := blkU_frozen hr
  have HK1 := Lib.hid hk1
  unfold PartAg
  clear a1 a2 a3 a4 hk hk1 hr
  go_wp2
  have hF := four10_at HR.out (.func (.func 318) #[] #[pb s, pb (s + 3)]) (.func (.func 319) #[] #[pb (s + 1), pb (s + 3)]) (.func (.func 320) #[] #[pb (s + 2), pb (s + 3)]) (.func (.func 321) #[] #[pb (s + 3)])
  have hK := HK1.out.four10 (b := w.heap.size) (.inr (Nat.le_refl _)) 0 (.func (.func 318) #[] #[pb s, pb (s + 3)]) (.func (.func 319) #[] #[pb (s + 1), pb (s + 3)]) (.func (.func 320) #[] #[pb (s + 2), pb (s + 3)]) (.func (.func 321) #[] #[pb (s + 3)])
  have hO : ∀ (t : TypeId) (b : Nat) (v : Value), OneAt t b v w1 → b ≠ w.heap.size → OneAt t b v (four10 w1 w.heap.size 0 (.func (.func 318) #[] #[pb s, pb (s + 3)]) (.func (.func 319) #[] #[pb (s + 1), pb (s + 3)]) (.func (.func 320) #[] #[pb (s + 2), pb (s + 3)]) (.func (.func 321) #[] #[pb (s + 3)])) := fun t b v h hb => h.kept ((Kept.refl (fun k => k = w.heap.size) w1).four10 (b := w.heap.size) (.inl rfl) 0 (.func (.func 318) #[] #[pb s, pb (s + 3)]) (.func (.func 319) #[] #[pb (s + 1), pb (s + 3)]) (.func (.func 320) #[] #[pb (s + 2), pb (s + 3)]) (.func (.func 321) #[] #[pb (s + 3)])) hb
  clear r0 r1 r2 r3 z
  obtain ⟨r0, r1, r2, r3⟩ := cells4p hF
  clear hF
  unfold four10 at r0 r1 r2 r3 hK hO
  simp only [Nat.zero_add] at r0 r1 r2 r3 hK hO
  generalize hW : World.setCell _ _ _ = W3 at r0 r1 r2 r3 hK hO ⊢

  have hs := HS.out
  exact bodyPost_ret (v := PartAg 318 319 320 321 s (s + 1) (s + 2) (s + 3)) (by simp [results, Tryz.results197, go_sem, PartAg, r0, r1, r2, r3]) rfl ⟨_, rfl, ⟨s, by omega, rfl, hO _ _ _ HA.out.1 (by omega), hO _ _ _ HA.out.2.1 (by omega), hO _ _ _ HA.out.2.2.1 (by omega), hO _ _ _ HA.out.2.2.2 (by omega)⟩, hK⟩
def Part15 (B : Nat) (w : World) (pv : Value) : Prop := FldPart 318 319 320 321 328 329 330 332 (.func (.func 262) #[] #[]) (.func (.func 259) #[] #[]) (.func (.func 260) #[] #[]) (.func (.func 263) #[] #[]) B w pv
theorem Part15.kept {S : Nat → Prop} {B : Nat} {w w' : World} {pv : Value} (h : Part15 B w pv) (hk : Kept S w w') (hs : ∀ k, B ≤ k → ¬ S k) : Part15 B w' pv := FldPart.kept h hk hs
set_option maxRecDepth 100000 in
set_option maxHeartbeats 1000000 in
theorem partAt_15 (w : World) (B : Nat) (hB : B ≤ w.heap.size) : Calls Tryz.prog 197 #[.int .u32 32768] w fun e w' => ∃ pv, e = .returned pv ∧ Part15 B w' pv ∧ Kept NoB w w' := by
  obtain ⟨W, hW⟩ : ∃ W, W = w.alloc (.cells #[.nilFunc, .nilFunc, .nilFunc, .nilFunc] 228 (0, 0)) := ⟨_, rfl⟩
  have hsz : W.heap.size = w.heap.size + 1 := by rw [hW]; simp
  have o2 : W.heap[w.heap.size]? = some (.cells #[.nilFunc, .nilFunc, .nilFunc, .nilFunc] 228 (0, 0)) := by rw [hW]; exact heap_alloc_new w _
  have HKW : Hid (Kept NoB w W) := Lib.hid (by rw [hW]; exact (Kept.refl NoB w).alloc _)
  have HO2 := Lib.hid o2
  have HSZ := Lib.hid hsz
  have HW := Lib.hid hW
  have HN := Lib.hid (field_ups W (.func (.func 262) #[] #[]) (.func (.func 259) #[] #[]) (.func (.func 260) #[] #[]) (.func (.func 263) #[] #[]) rfl rfl rfl rfl)
  clear hW hsz o2
  go_enter Tryz.func197, Tryz.ntmps197
  go_wp2_with fail
  rw [← HW.out]
  go_wp2_with fail
  refine HN.out.mono ?_
  rintro e w1 ⟨s, hs, rfl, a1, a2, a3, a4, hk⟩
  have HS : Hid (w.heap.size + 1 ≤ s) := Lib.hid (by have := HSZ.out; omega)
  clear hs
  have HA := Lib.hid (And.intro a1 (And.intro a2 (And.intro a3 a4)))
  have hk1 := HKW.out.trans hk (fun _ _ h => h)
  have hr := hk.heap (fun h => h) HO2.out
  have HR := Lib.hid hr
  obtain ⟨r0, r1, r2, r3⟩ := cells4p hr
  have z := blkU_frozen hr
  have HK1 := Lib.hid hk1
  unfold PartAg
  clear a1 a2 a3 a4 hk hk1 hr
  go_wp2
  have hF := four10_at HR.out (.func (.func 318) #[] #[pb s, pb (s + 3)]) (.func (.func 319) #[] #[pb (s + 1), pb (s + 3)]) (.func (.func 320) #[] #[pb (s + 2), pb (s + 3)]) (.func (.func 321) #[] #[pb (s + 3)])
  have hK := HK1.out.four10 (b := w.heap.size) (.inr (Nat.le_refl _)) 0 (.func (.func 318) #[] #[pb s, pb (s + 3)]) (.func (.func 319) #[] #[pb (s + 1), pb (s + 3)]) (.func (.func 320) #[] #[pb (s + 2), pb (s + 3)]) (.func (.func 321) #[] #[pb (s + 3)])
  have hO : ∀ (t : TypeId) (b : Nat) (v : Value), OneAt t b v w1 → b ≠ w.heap.size → OneAt t b v (four10 w1 w.heap.size 0 (.func (.func 318) #[] #[pb s, pb (s + 3)]) (.func (.func 319) #[] #[pb (s + 1), pb (s + 3)]) (.func (.func 320) #[] #[pb (s + 2), pb (s + 3)]) (.func (.func 321) #[] #[pb (s + 3)])) := fun t b v h hb => h.kept ((Kept.refl (fun k => k = w.heap.size) w1).four10 (b := w.heap.size) (.inl rfl) 0 (.func (.func 318) #[] #[pb s, pb (s + 3)]) (.func (.func 319) #[] #[pb (s + 1), pb (s + 3)]) (.func (.func 320) #[] #[pb (s + 2), pb (s + 3)]) (.func (.func 321) #[] #[pb (s + 3)])) hb
  clear r0 r1 r2 r3 z
  obtain ⟨r0, r1, r2, r3⟩ := cells4p hF
  clear hF
  unfold four10 at r0 r1 r2 r3 hK hO
  simp only [Nat.zero_add] at r0 r1 r2 r3 hK hO
  generalize hW : World.setCell _ _ _ = W3 at r0 r1 r2 r3 hK hO ⊢

  have hs := HS.out
  exact bodyPost_ret (v := PartAg 318 319 320 321 s (s + 1) (s + 2) (s + 3)) (by simp [results, Tryz.results197, go_sem, PartAg, r0, r1, r2, r3]) rfl ⟨_, rfl, ⟨s, by omega, rfl, hO _ _ _ HA.out.1 (by omega), hO _ _ _ HA.out.2.1 (by omega), hO _ _ _ HA.out.2.2.1 (by omega), hO _ _ _ HA.out.2.2.2 (by omega)⟩, hK⟩
end Go.Proofs.YtabmipjpgofgpaaGreatDoor
