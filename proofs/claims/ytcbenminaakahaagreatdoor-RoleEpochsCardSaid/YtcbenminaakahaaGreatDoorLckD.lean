/-
  Package letter: data; partAt, for the other twelve parts.
-/
import Derived.Test.YtcbenminaakahaaGreatDoorLckC
namespace Go.Proofs.YtcbenminaakahaaGreatDoor
open Go.RowKit
set_option linter.unusedVariables false
set_option linter.unusedSimpArgs false

/-- A part that is data, in blocks from B on. -/
def DatPart (most : Int) (B : Nat) (w : World) (pv : Value) : Prop :=
  ∃ s bm, B ≤ s ∧ B ≤ bm ∧ pv = PartAg 325 326 327 328 s (s + 1) (s + 2) (s + 3) ∧ OneAt 332 s (.func (.func 285) #[] #[pb bm]) w ∧ OneAt 361 (s + 3) (.func (.func 288) #[] #[]) w ∧ OneAt 3 bm (.int .i64 most) w
set_option maxRecDepth 100000 in
set_option maxHeartbeats 1000000 in
theorem data_any (w : World) (most : Int) : Calls Tryz.prog 226 #[.int .i64 most] w fun e w' => ∃ pv, e = .returned pv ∧ DatPart most w.heap.size w' pv ∧ Kept NoB w w' := by
  have hmf : ∀ (fn : Fn) (first cap : Array Value) (w : World), (Instr.makeFunc fn first cap).run Tryz.prog w = .ok (.func fn first cap) w := fun _ _ _ _ => rfl
  obtain ⟨W, hW⟩ : ∃ W, W = (w.alloc (.cells #[.int .i64 most] 3 (0, 0))).alloc (.cells #[.nilFunc, .nilFunc, .nilFunc, .nilFunc] 106 (0, 0)) := ⟨_, rfl⟩
  have hsz : W.heap.size = w.heap.size + 2 := by rw [hW]; simp
  have o1 : OneAt 3 w.heap.size (.int .i64 most) W := by rw [hW]; exact (OneAt.new w _ _).alloc _
  have o2 : W.heap[w.heap.size + 1]? = some (.cells #[.nilFunc, .nilFunc, .nilFunc, .nilFunc] 106 (0, 0)) := by
    have := heap_alloc_new (w.alloc (.cells #[.int .i64 most] 3 (0, 0))) (.cells #[.nilFunc, .nilFunc, .nilFunc, .nilFunc] 106 (0, 0))
    rw [show (w.alloc (.cells #[.int .i64 most] 3 (0, 0))).heap.size = w.heap.size + 1 by simp] at this
    rw [hW]; exact this
  have HKW : Hid (Kept NoB w W) := Lib.hid (by rw [hW]; exact ((Kept.refl NoB w).alloc _).alloc _)
  have HO1 := Lib.hid o1
  have HO2 := Lib.hid o2
  have HSZ := Lib.hid hsz
  have HW := Lib.hid hW
  have HF := Lib.hid (field_dat W (.func (.func 285) #[] #[pb w.heap.size]) (.func (.func 144) #[] #[]) (.func (.func 286) #[] #[pb w.heap.size]) (.func (.func 288) #[] #[]) rfl rfl rfl rfl)
  clear hW hsz o1 o2
  go_enter Tryz.func226, Tryz.ntmps226
  go_wp2_with fail
  rw [← HW.out]
  go_wp2_with fail
  refine HF.out.mono ?_
  rintro e w1 ⟨s, hs, rfl, a1, a2, a3, a4, hk⟩
  have HA := Lib.hid (And.intro a1 (And.intro a2 (And.intro a3 a4)))
  have HB := Lib.hid (HO1.out.no hk)
  have hr := hk.heap (fun h => h) HO2.out
  have HR := Lib.hid hr
  obtain ⟨r0, r1, r2, r3⟩ := cells4p hr
  have z := blkU_frozen hr
  have HK1 := Lib.hid (HKW.out.trans hk (fun _ _ h => h))
  have HS : Hid (w.heap.size + 2 ≤ s) := Lib.hid (by have := HSZ.out; omega)
  unfold PartAg
  clear a1 a2 a3 a4 hk hr hs
  go_wp2
  have hF := four10_at HR.out (.func (.func 325) #[] #[pb s, pb (s + 3)]) (.func (.func 326) #[] #[pb (s + 1), pb (s + 3)]) (.func (.func 327) #[] #[pb (s + 2), pb (s + 3)]) (.func (.func 328) #[] #[pb (s + 3)])
  have hK := HK1.out.four10 (b := w.heap.size + 1) (.inr (by omega)) 0 (.func (.func 325) #[] #[pb s, pb (s + 3)]) (.func (.func 326) #[] #[pb (s + 1), pb (s + 3)]) (.func (.func 327) #[] #[pb (s + 2), pb (s + 3)]) (.func (.func 328) #[] #[pb (s + 3)])
  have hO : ∀ (t : TypeId) (b : Nat) (v : Value), OneAt t b v w1 → b ≠ w.heap.size + 1 → OneAt t b v (four10 w1 (w.heap.size + 1) 0 (.func (.func 325) #[] #[pb s, pb (s + 3)]) (.func (.func 326) #[] #[pb (s + 1), pb (s + 3)]) (.func (.func 327) #[] #[pb (s + 2), pb (s + 3)]) (.func (.func 328) #[] #[pb (s + 3)])) := fun t b v h hb => h.kept ((Kept.refl (fun k => k = w.heap.size + 1) w1).four10 (b := w.heap.size + 1) (.inl rfl) 0 (.func (.func 325) #[] #[pb s, pb (s + 3)]) (.func (.func 326) #[] #[pb (s + 1), pb (s + 3)]) (.func (.func 327) #[] #[pb (s + 2), pb (s + 3)]) (.func (.func 328) #[] #[pb (s + 3)])) hb
  clear r0 r1 r2 r3 z
  obtain ⟨r0, r1, r2, r3⟩ := cells4p hF
  clear hF
  unfold four10 at r0 r1 r2 r3 hK hO
  simp only [Nat.zero_add] at r0 r1 r2 r3 hK hO
  generalize hW : World.setCell _ _ _ = W3 at r0 r1 r2 r3 hK hO ⊢
  have hs := HS.out
  exact bodyPost_ret (v := PartAg 325 326 327 328 s (s + 1) (s + 2) (s + 3)) (by simp [results, Tryz.results226, go_sem, PartAg, r0, r1, r2, r3]) rfl ⟨_, rfl, ⟨s, w.heap.size, by omega, Nat.le_refl _, rfl, hO _ _ _ HA.out.1 (by omega), hO _ _ _ HA.out.2.2.2 (by omega), hO _ _ _ HB.out (by omega)⟩, hK⟩
def Part0 (B : Nat) (w : World) (pv : Value) : Prop := NumPart 304 305 306 307 245 246 182 335 336 279 8 (.func (.func 186) #[] #[]) (.func (.func 187) #[] #[]) B w pv
set_option maxRecDepth 100000 in
set_option maxHeartbeats 1000000 in
theorem partAt_0 (w : World) (B : Nat) (hB : B ≤ w.heap.size) : Calls Tryz.prog 125 #[.int .u32 1] w fun e w' => ∃ pv, e = .returned pv ∧ Part0 B w' pv ∧ Kept NoB w w' := by
  obtain ⟨W, hW⟩ : ∃ W, W = w.alloc (.cells #[.nilFunc, .nilFunc, .nilFunc, .nilFunc] 106 (0, 0)) := ⟨_, rfl⟩
  have hsz : W.heap.size = w.heap.size + 1 := by rw [hW]; simp
  have o2 : W.heap[w.heap.size]? = some (.cells #[.nilFunc, .nilFunc, .nilFunc, .nilFunc] 106 (0, 0)) := by rw [hW]; exact heap_alloc_new w _
  have HKW : Hid (Kept NoB w W) := Lib.hid (by rw [hW]; exact (Kept.refl NoB w).alloc _)
  have HO2 := Lib.hid o2
  have HSZ := Lib.hid hsz
  have HW := Lib.hid hW
  have HN := Lib.hid (number_u64 W 8 (.func (.func 186) #[] #[]) (.func (.func 187) #[] #[]) rfl rfl)
  clear hW hsz o2
  go_enter Tryz.func125, Tryz.ntmps125
  go_wp2_with fail
  rw [← HW.out]
  go_wp2_with fail
  refine HN.out.mono ?_
  rintro e w1 ⟨s, bw, hs, hbw, rfl, a1, a2, a3, a4, a5, hk⟩
  have HB5 := Lib.hid a5
  have HS : Hid (w.heap.size + 1 ≤ s ∧ w.heap.size + 1 ≤ bw) := Lib.hid (by have := HSZ.out; omega)
  clear hs hbw a5
  have HA := Lib.hid (And.intro a1 (And.intro a2 (And.intro a3 a4)))
  have hk1 := HKW.out.trans hk (fun _ _ h => h)
  have hr := hk.heap (fun h => h) HO2.out
  have HR := Lib.hid hr
  obtain ⟨r0, r1, r2, r3⟩ := cells4p hr
  have z := blkU_frozen hr
  have HK1 := Lib.hid hk1
  unfold PartAg
  clear a1 a2 a3 a4 hk hk1 hr
  go_wp2
  have hF := four10_at HR.out (.func (.func 304) #[] #[pb s, pb (s + 3)]) (.func (.func 305) #[] #[pb (s + 1), pb (s + 3)]) (.func (.func 306) #[] #[pb (s + 2), pb (s + 3)]) (.func (.func 307) #[] #[pb (s + 3)])
  have hK := HK1.out.four10 (b := w.heap.size) (.inr (Nat.le_refl _)) 0 (.func (.func 304) #[] #[pb s, pb (s + 3)]) (.func (.func 305) #[] #[pb (s + 1), pb (s + 3)]) (.func (.func 306) #[] #[pb (s + 2), pb (s + 3)]) (.func (.func 307) #[] #[pb (s + 3)])
  have hO : ∀ (t : TypeId) (b : Nat) (v : Value), OneAt t b v w1 → b ≠ w.heap.size → OneAt t b v (four10 w1 w.heap.size 0 (.func (.func 304) #[] #[pb s, pb (s + 3)]) (.func (.func 305) #[] #[pb (s + 1), pb (s + 3)]) (.func (.func 306) #[] #[pb (s + 2), pb (s + 3)]) (.func (.func 307) #[] #[pb (s + 3)])) := fun t b v h hb => h.kept ((Kept.refl (fun k => k = w.heap.size) w1).four10 (b := w.heap.size) (.inl rfl) 0 (.func (.func 304) #[] #[pb s, pb (s + 3)]) (.func (.func 305) #[] #[pb (s + 1), pb (s + 3)]) (.func (.func 306) #[] #[pb (s + 2), pb (s + 3)]) (.func (.func 307) #[] #[pb (s + 3)])) hb
  clear r0 r1 r2 r3 z
  obtain ⟨r0, r1, r2, r3⟩ := cells4p hF
  clear hF
  unfold four10 at r0 r1 r2 r3 hK hO
  simp only [Nat.zero_add] at r0 r1 r2 r3 hK hO
  generalize hW : World.setCell _ _ _ = W3 at r0 r1 r2 r3 hK hO ⊢

  have hs := HS.out
  exact bodyPost_ret (v := PartAg 304 305 306 307 s (s + 1) (s + 2) (s + 3)) (by simp [results, Tryz.results125, go_sem, PartAg, r0, r1, r2, r3]) rfl ⟨_, rfl, ⟨s, bw, by omega, by omega, rfl, hO _ _ _ HA.out.1 (by omega), hO _ _ _ HA.out.2.1 (by omega), hO _ _ _ HA.out.2.2.1 (by omega), hO _ _ _ HA.out.2.2.2 (by omega), hO _ _ _ HB5.out (by omega)⟩, hK⟩
def Part5 (B : Nat) (w : World) (pv : Value) : Prop := ∃ bm, B ≤ bm ∧ OneAt 3 bm (.int .i64 512) w ∧ NumPart 309 310 311 312 249 250 40 338 339 283 2 (.func (.func 252) #[] #[pb bm]) (.func (.func 196) #[] #[]) B w pv
set_option maxRecDepth 100000 in
set_option maxHeartbeats 1000000 in
theorem partAt_5 (w : World) (B : Nat) (hB : B ≤ w.heap.size) : Calls Tryz.prog 125 #[.int .u32 32] w fun e w' => ∃ pv, e = .returned pv ∧ Part5 B w' pv ∧ Kept NoB w w' := by
  obtain ⟨W, hW⟩ : ∃ W, W = w.alloc (.cells #[.nilFunc, .nilFunc, .nilFunc, .nilFunc] 106 (0, 0)) := ⟨_, rfl⟩
  have hsz : W.heap.size = w.heap.size + 1 := by rw [hW]; simp
  have o2 : W.heap[w.heap.size]? = some (.cells #[.nilFunc, .nilFunc, .nilFunc, .nilFunc] 106 (0, 0)) := by rw [hW]; exact heap_alloc_new w _
  have HKW : Hid (Kept NoB w W) := Lib.hid (by rw [hW]; exact (Kept.refl NoB w).alloc _)
  have HO2 := Lib.hid o2
  have HSZ := Lib.hid hsz
  have HW := Lib.hid hW
  have HU := Lib.hid (upTo_any W 512)
  obtain ⟨W2, hW2⟩ : ∃ W2, W2 = W.alloc (.cells #[.int .i64 512] 3 (0, 0)) := ⟨_, rfl⟩
  have hk2 : Kept NoB W W2 := by rw [hW2]; exact (Kept.refl NoB W).alloc _
  have hm : OneAt 3 W.heap.size (.int .i64 512) W2 := by rw [hW2]; exact OneAt.new W _ _
  have HW2 := Lib.hid hW2
  have HM := Lib.hid hm
  have HK2 := Lib.hid hk2
  have HN := Lib.hid (number_int W2 2 (.func (.func 252) #[] #[pb W.heap.size]) (.func (.func 196) #[] #[]) rfl rfl)
  clear hW hsz o2 hW2 hk2 hm
  go_enter Tryz.func125, Tryz.ntmps125
  go_wp2_with fail
  rw [← HW.out]
  go_wp2_with fail
  refine HU.out.mono ?_
  rintro e w1 ⟨rfl, rfl⟩
  rw [← HW2.out]
  go_wp2_with fail
  refine HN.out.mono ?_
  rintro e w1 ⟨s, bw, hs, hbw, rfl, a1, a2, a3, a4, a5, hk⟩
  have HB5 := Lib.hid a5
  have HBM := Lib.hid (HM.out.no hk)
  have HS : Hid (w.heap.size + 1 ≤ s ∧ w.heap.size + 1 ≤ bw) := Lib.hid (by have := HSZ.out; have := HK2.out.size; omega)
  replace hk := HK2.out.trans hk (fun _ _ h => h)
  clear hs hbw a5
  have HA := Lib.hid (And.intro a1 (And.intro a2 (And.intro a3 a4)))
  have hk1 := HKW.out.trans hk (fun _ _ h => h)
  have hr := hk.heap (fun h => h) HO2.out
  have HR := Lib.hid hr
  obtain ⟨r0, r1, r2, r3⟩ := cells4p hr
  have z := blkU_frozen hr
  have HK1 := Lib.hid hk1
  unfold PartAg
  clear a1 a2 a3 a4 hk hk1 hr
  go_wp2
  have hF := four10_at HR.out (.func (.func 309) #[] #[pb s, pb (s + 3)]) (.func (.func 310) #[] #[pb (s + 1), pb (s + 3)]) (.func (.func 311) #[] #[pb (s + 2), pb (s + 3)]) (.func (.func 312) #[] #[pb (s + 3)])
  have hK := HK1.out.four10 (b := w.heap.size) (.inr (Nat.le_refl _)) 0 (.func (.func 309) #[] #[pb s, pb (s + 3)]) (.func (.func 310) #[] #[pb (s + 1), pb (s + 3)]) (.func (.func 311) #[] #[pb (s + 2), pb (s + 3)]) (.func (.func 312) #[] #[pb (s + 3)])
  have hO : ∀ (t : TypeId) (b : Nat) (v : Value), OneAt t b v w1 → b ≠ w.heap.size → OneAt t b v (four10 w1 w.heap.size 0 (.func (.func 309) #[] #[pb s, pb (s + 3)]) (.func (.func 310) #[] #[pb (s + 1), pb (s + 3)]) (.func (.func 311) #[] #[pb (s + 2), pb (s + 3)]) (.func (.func 312) #[] #[pb (s + 3)])) := fun t b v h hb => h.kept ((Kept.refl (fun k => k = w.heap.size) w1).four10 (b := w.heap.size) (.inl rfl) 0 (.func (.func 309) #[] #[pb s, pb (s + 3)]) (.func (.func 310) #[] #[pb (s + 1), pb (s + 3)]) (.func (.func 311) #[] #[pb (s + 2), pb (s + 3)]) (.func (.func 312) #[] #[pb (s + 3)])) hb
  clear r0 r1 r2 r3 z
  obtain ⟨r0, r1, r2, r3⟩ := cells4p hF
  clear hF
  unfold four10 at r0 r1 r2 r3 hK hO
  simp only [Nat.zero_add] at r0 r1 r2 r3 hK hO
  generalize hW : World.setCell _ _ _ = W3 at r0 r1 r2 r3 hK hO ⊢

  have hs := HS.out
  have hw := HSZ.out
  exact bodyPost_ret (v := PartAg 309 310 311 312 s (s + 1) (s + 2) (s + 3)) (by simp [results, Tryz.results125, go_sem, PartAg, r0, r1, r2, r3]) rfl ⟨_, rfl, ⟨W.heap.size, by omega, hO _ _ _ HBM.out (by omega), s, bw, by omega, by omega, rfl, hO _ _ _ HA.out.1 (by omega), hO _ _ _ HA.out.2.1 (by omega), hO _ _ _ HA.out.2.2.1 (by omega), hO _ _ _ HA.out.2.2.2 (by omega), hO _ _ _ HB5.out (by omega)⟩, hK⟩
def Part6 (B : Nat) (w : World) (pv : Value) : Prop := NumPart 304 305 306 307 245 246 182 335 336 279 8 (.func (.func 193) #[] #[]) (.func (.func 197) #[] #[]) B w pv
set_option maxRecDepth 100000 in
set_option maxHeartbeats 1000000 in
theorem partAt_6 (w : World) (B : Nat) (hB : B ≤ w.heap.size) : Calls Tryz.prog 125 #[.int .u32 64] w fun e w' => ∃ pv, e = .returned pv ∧ Part6 B w' pv ∧ Kept NoB w w' := by
  obtain ⟨W, hW⟩ : ∃ W, W = w.alloc (.cells #[.nilFunc, .nilFunc, .nilFunc, .nilFunc] 106 (0, 0)) := ⟨_, rfl⟩
  have hsz : W.heap.size = w.heap.size + 1 := by rw [hW]; simp
  have o2 : W.heap[w.heap.size]? = some (.cells #[.nilFunc, .nilFunc, .nilFunc, .nilFunc] 106 (0, 0)) := by rw [hW]; exact heap_alloc_new w _
  have HKW : Hid (Kept NoB w W) := Lib.hid (by rw [hW]; exact (Kept.refl NoB w).alloc _)
  have HO2 := Lib.hid o2
  have HSZ := Lib.hid hsz
  have HW := Lib.hid hW
  have HN := Lib.hid (number_u64 W 8 (.func (.func 193) #[] #[]) (.func (.func 197) #[] #[]) rfl rfl)
  clear hW hsz o2
  go_enter Tryz.func125, Tryz.ntmps125
  go_wp2_with fail
  rw [← HW.out]
  go_wp2_with fail
  refine HN.out.mono ?_
  rintro e w1 ⟨s, bw, hs, hbw, rfl, a1, a2, a3, a4, a5, hk⟩
  have HB5 := Lib.hid a5
  have HS : Hid (w.heap.size + 1 ≤ s ∧ w.heap.size + 1 ≤ bw) := Lib.hid (by have := HSZ.out; omega)
  clear hs hbw a5
  have HA := Lib.hid (And.intro a1 (And.intro a2 (And.intro a3 a4)))
  have hk1 := HKW.out.trans hk (fun _ _ h => h)
  have hr := hk.heap (fun h => h) HO2.out
  have HR := Lib.hid hr
  obtain ⟨r0, r1, r2, r3⟩ := cells4p hr
  have z := blkU_frozen hr
  have HK1 := Lib.hid hk1
  unfold PartAg
  clear a1 a2 a3 a4 hk hk1 hr
  go_wp2
  have hF := four10_at HR.out (.func (.func 304) #[] #[pb s, pb (s + 3)]) (.func (.func 305) #[] #[pb (s + 1), pb (s + 3)]) (.func (.func 306) #[] #[pb (s + 2), pb (s + 3)]) (.func (.func 307) #[] #[pb (s + 3)])
  have hK := HK1.out.four10 (b := w.heap.size) (.inr (Nat.le_refl _)) 0 (.func (.func 304) #[] #[pb s, pb (s + 3)]) (.func (.func 305) #[] #[pb (s + 1), pb (s + 3)]) (.func (.func 306) #[] #[pb (s + 2), pb (s + 3)]) (.func (.func 307) #[] #[pb (s + 3)])
  have hO : ∀ (t : TypeId) (b : Nat) (v : Value), OneAt t b v w1 → b ≠ w.heap.size → OneAt t b v (four10 w1 w.heap.size 0 (.func (.func 304) #[] #[pb s, pb (s + 3)]) (.func (.func 305) #[] #[pb (s + 1), pb (s + 3)]) (.func (.func 306) #[] #[pb (s + 2), pb (s + 3)]) (.func (.func 307) #[] #[pb (s + 3)])) := fun t b v h hb => h.kept ((Kept.refl (fun k => k = w.heap.size) w1).four10 (b := w.heap.size) (.inl rfl) 0 (.func (.func 304) #[] #[pb s, pb (s + 3)]) (.func (.func 305) #[] #[pb (s + 1), pb (s + 3)]) (.func (.func 306) #[] #[pb (s + 2), pb (s + 3)]) (.func (.func 307) #[] #[pb (s + 3)])) hb
  clear r0 r1 r2 r3 z
  obtain ⟨r0, r1, r2, r3⟩ := cells4p hF
  clear hF
  unfold four10 at r0 r1 r2 r3 hK hO
  simp only [Nat.zero_add] at r0 r1 r2 r3 hK hO
  generalize hW : World.setCell _ _ _ = W3 at r0 r1 r2 r3 hK hO ⊢

  have hs := HS.out
  exact bodyPost_ret (v := PartAg 304 305 306 307 s (s + 1) (s + 2) (s + 3)) (by simp [results, Tryz.results125, go_sem, PartAg, r0, r1, r2, r3]) rfl ⟨_, rfl, ⟨s, bw, by omega, by omega, rfl, hO _ _ _ HA.out.1 (by omega), hO _ _ _ HA.out.2.1 (by omega), hO _ _ _ HA.out.2.2.1 (by omega), hO _ _ _ HA.out.2.2.2 (by omega), hO _ _ _ HB5.out (by omega)⟩, hK⟩
def Part7 (B : Nat) (w : World) (pv : Value) : Prop := ∃ bm, B ≤ bm ∧ OneAt 3 bm (.int .i64 512) w ∧ NumPart 309 310 311 312 249 250 40 338 339 283 2 (.func (.func 252) #[] #[pb bm]) (.func (.func 196) #[] #[]) B w pv
set_option maxRecDepth 100000 in
set_option maxHeartbeats 1000000 in
theorem partAt_7 (w : World) (B : Nat) (hB : B ≤ w.heap.size) : Calls Tryz.prog 125 #[.int .u32 128] w fun e w' => ∃ pv, e = .returned pv ∧ Part7 B w' pv ∧ Kept NoB w w' := by
  obtain ⟨W, hW⟩ : ∃ W, W = w.alloc (.cells #[.nilFunc, .nilFunc, .nilFunc, .nilFunc] 106 (0, 0)) := ⟨_, rfl⟩
  have hsz : W.heap.size = w.heap.size + 1 := by rw [hW]; simp
  have o2 : W.heap[w.heap.size]? = some (.cells #[.nilFunc, .nilFunc, .nilFunc, .nilFunc] 106 (0, 0)) := by rw [hW]; exact heap_alloc_new w _
  have HKW : Hid (Kept NoB w W) := Lib.hid (by rw [hW]; exact (Kept.refl NoB w).alloc _)
  have HO2 := Lib.hid o2
  have HSZ := Lib.hid hsz
  have HW := Lib.hid hW
  have HU := Lib.hid (upTo_any W 512)
  obtain ⟨W2, hW2⟩ : ∃ W2, W2 = W.alloc (.cells #[.int .i64 512] 3 (0, 0)) := ⟨_, rfl⟩
  have hk2 : Kept NoB W W2 := by rw [hW2]; exact (Kept.refl NoB W).alloc _
  have hm : OneAt 3 W.heap.size (.int .i64 512) W2 := by rw [hW2]; exact OneAt.new W _ _
  have HW2 := Lib.hid hW2
  have HM := Lib.hid hm
  have HK2 := Lib.hid hk2
  have HN := Lib.hid (number_int W2 2 (.func (.func 252) #[] #[pb W.heap.size]) (.func (.func 196) #[] #[]) rfl rfl)
  clear hW hsz o2 hW2 hk2 hm
  go_enter Tryz.func125, Tryz.ntmps125
  go_wp2_with fail
  rw [← HW.out]
  go_wp2_with fail
  refine HU.out.mono ?_
  rintro e w1 ⟨rfl, rfl⟩
  rw [← HW2.out]
  go_wp2_with fail
  refine HN.out.mono ?_
  rintro e w1 ⟨s, bw, hs, hbw, rfl, a1, a2, a3, a4, a5, hk⟩
  have HB5 := Lib.hid a5
  have HBM := Lib.hid (HM.out.no hk)
  have HS : Hid (w.heap.size + 1 ≤ s ∧ w.heap.size + 1 ≤ bw) := Lib.hid (by have := HSZ.out; have := HK2.out.size; omega)
  replace hk := HK2.out.trans hk (fun _ _ h => h)
  clear hs hbw a5
  have HA := Lib.hid (And.intro a1 (And.intro a2 (And.intro a3 a4)))
  have hk1 := HKW.out.trans hk (fun _ _ h => h)
  have hr := hk.heap (fun h => h) HO2.out
  have HR := Lib.hid hr
  obtain ⟨r0, r1, r2, r3⟩ := cells4p hr
  have z := blkU_frozen hr
  have HK1 := Lib.hid hk1
  unfold PartAg
  clear a1 a2 a3 a4 hk hk1 hr
  go_wp2
  have hF := four10_at HR.out (.func (.func 309) #[] #[pb s, pb (s + 3)]) (.func (.func 310) #[] #[pb (s + 1), pb (s + 3)]) (.func (.func 311) #[] #[pb (s + 2), pb (s + 3)]) (.func (.func 312) #[] #[pb (s + 3)])
  have hK := HK1.out.four10 (b := w.heap.size) (.inr (Nat.le_refl _)) 0 (.func (.func 309) #[] #[pb s, pb (s + 3)]) (.func (.func 310) #[] #[pb (s + 1), pb (s + 3)]) (.func (.func 311) #[] #[pb (s + 2), pb (s + 3)]) (.func (.func 312) #[] #[pb (s + 3)])
  have hO : ∀ (t : TypeId) (b : Nat) (v : Value), OneAt t b v w1 → b ≠ w.heap.size → OneAt t b v (four10 w1 w.heap.size 0 (.func (.func 309) #[] #[pb s, pb (s + 3)]) (.func (.func 310) #[] #[pb (s + 1), pb (s + 3)]) (.func (.func 311) #[] #[pb (s + 2), pb (s + 3)]) (.func (.func 312) #[] #[pb (s + 3)])) := fun t b v h hb => h.kept ((Kept.refl (fun k => k = w.heap.size) w1).four10 (b := w.heap.size) (.inl rfl) 0 (.func (.func 309) #[] #[pb s, pb (s + 3)]) (.func (.func 310) #[] #[pb (s + 1), pb (s + 3)]) (.func (.func 311) #[] #[pb (s + 2), pb (s + 3)]) (.func (.func 312) #[] #[pb (s + 3)])) hb
  clear r0 r1 r2 r3 z
  obtain ⟨r0, r1, r2, r3⟩ := cells4p hF
  clear hF
  unfold four10 at r0 r1 r2 r3 hK hO
  simp only [Nat.zero_add] at r0 r1 r2 r3 hK hO
  generalize hW : World.setCell _ _ _ = W3 at r0 r1 r2 r3 hK hO ⊢

  have hs := HS.out
  have hw := HSZ.out
  exact bodyPost_ret (v := PartAg 309 310 311 312 s (s + 1) (s + 2) (s + 3)) (by simp [results, Tryz.results125, go_sem, PartAg, r0, r1, r2, r3]) rfl ⟨_, rfl, ⟨W.heap.size, by omega, hO _ _ _ HBM.out (by omega), s, bw, by omega, by omega, rfl, hO _ _ _ HA.out.1 (by omega), hO _ _ _ HA.out.2.1 (by omega), hO _ _ _ HA.out.2.2.1 (by omega), hO _ _ _ HA.out.2.2.2 (by omega), hO _ _ _ HB5.out (by omega)⟩, hK⟩
def Part8 (B : Nat) (w : World) (pv : Value) : Prop := NumPart 313 314 315 316 253 254 244 341 342 286 4 (.func (.func 199) #[] #[]) (.func (.func 200) #[] #[]) B w pv
set_option maxRecDepth 100000 in
set_option maxHeartbeats 1000000 in
theorem partAt_8 (w : World) (B : Nat) (hB : B ≤ w.heap.size) : Calls Tryz.prog 125 #[.int .u32 256] w fun e w' => ∃ pv, e = .returned pv ∧ Part8 B w' pv ∧ Kept NoB w w' := by
  obtain ⟨W, hW⟩ : ∃ W, W = w.alloc (.cells #[.nilFunc, .nilFunc, .nilFunc, .nilFunc] 106 (0, 0)) := ⟨_, rfl⟩
  have hsz : W.heap.size = w.heap.size + 1 := by rw [hW]; simp
  have o2 : W.heap[w.heap.size]? = some (.cells #[.nilFunc, .nilFunc, .nilFunc, .nilFunc] 106 (0, 0)) := by rw [hW]; exact heap_alloc_new w _
  have HKW : Hid (Kept NoB w W) := Lib.hid (by rw [hW]; exact (Kept.refl NoB w).alloc _)
  have HO2 := Lib.hid o2
  have HSZ := Lib.hid hsz
  have HW := Lib.hid hW
  have HN := Lib.hid (number_u32 W 4 (.func (.func 199) #[] #[]) (.func (.func 200) #[] #[]) rfl rfl)
  clear hW hsz o2
  go_enter Tryz.func125, Tryz.ntmps125
  go_wp2_with fail
  rw [← HW.out]
  go_wp2_with fail
  refine HN.out.mono ?_
  rintro e w1 ⟨s, bw, hs, hbw, rfl, a1, a2, a3, a4, a5, hk⟩
  have HB5 := Lib.hid a5
  have HS : Hid (w.heap.size + 1 ≤ s ∧ w.heap.size + 1 ≤ bw) := Lib.hid (by have := HSZ.out; omega)
  clear hs hbw a5
  have HA := Lib.hid (And.intro a1 (And.intro a2 (And.intro a3 a4)))
  have hk1 := HKW.out.trans hk (fun _ _ h => h)
  have hr := hk.heap (fun h => h) HO2.out
  have HR := Lib.hid hr
  obtain ⟨r0, r1, r2, r3⟩ := cells4p hr
  have z := blkU_frozen hr
  have HK1 := Lib.hid hk1
  unfold PartAg
  clear a1 a2 a3 a4 hk hk1 hr
  go_wp2
  have hF := four10_at HR.out (.func (.func 313) #[] #[pb s, pb (s + 3)]) (.func (.func 314) #[] #[pb (s + 1), pb (s + 3)]) (.func (.func 315) #[] #[pb (s + 2), pb (s + 3)]) (.func (.func 316) #[] #[pb (s + 3)])
  have hK := HK1.out.four10 (b := w.heap.size) (.inr (Nat.le_refl _)) 0 (.func (.func 313) #[] #[pb s, pb (s + 3)]) (.func (.func 314) #[] #[pb (s + 1), pb (s + 3)]) (.func (.func 315) #[] #[pb (s + 2), pb (s + 3)]) (.func (.func 316) #[] #[pb (s + 3)])
  have hO : ∀ (t : TypeId) (b : Nat) (v : Value), OneAt t b v w1 → b ≠ w.heap.size → OneAt t b v (four10 w1 w.heap.size 0 (.func (.func 313) #[] #[pb s, pb (s + 3)]) (.func (.func 314) #[] #[pb (s + 1), pb (s + 3)]) (.func (.func 315) #[] #[pb (s + 2), pb (s + 3)]) (.func (.func 316) #[] #[pb (s + 3)])) := fun t b v h hb => h.kept ((Kept.refl (fun k => k = w.heap.size) w1).four10 (b := w.heap.size) (.inl rfl) 0 (.func (.func 313) #[] #[pb s, pb (s + 3)]) (.func (.func 314) #[] #[pb (s + 1), pb (s + 3)]) (.func (.func 315) #[] #[pb (s + 2), pb (s + 3)]) (.func (.func 316) #[] #[pb (s + 3)])) hb
  clear r0 r1 r2 r3 z
  obtain ⟨r0, r1, r2, r3⟩ := cells4p hF
  clear hF
  unfold four10 at r0 r1 r2 r3 hK hO
  simp only [Nat.zero_add] at r0 r1 r2 r3 hK hO
  generalize hW : World.setCell _ _ _ = W3 at r0 r1 r2 r3 hK hO ⊢

  have hs := HS.out
  exact bodyPost_ret (v := PartAg 313 314 315 316 s (s + 1) (s + 2) (s + 3)) (by simp [results, Tryz.results125, go_sem, PartAg, r0, r1, r2, r3]) rfl ⟨_, rfl, ⟨s, bw, by omega, by omega, rfl, hO _ _ _ HA.out.1 (by omega), hO _ _ _ HA.out.2.1 (by omega), hO _ _ _ HA.out.2.2.1 (by omega), hO _ _ _ HA.out.2.2.2 (by omega), hO _ _ _ HB5.out (by omega)⟩, hK⟩
def Part9 (B : Nat) (w : World) (pv : Value) : Prop := ∃ bm, B ≤ bm ∧ OneAt 24 bm (.int .i64 255) w ∧ NumPart 317 318 319 320 256 257 288 344 345 291 1 (.func (.func 259) #[] #[pb bm]) (.func (.func 203) #[] #[]) B w pv
set_option maxRecDepth 100000 in
set_option maxHeartbeats 1000000 in
theorem partAt_9 (w : World) (B : Nat) (hB : B ≤ w.heap.size) : Calls Tryz.prog 125 #[.int .u32 512] w fun e w' => ∃ pv, e = .returned pv ∧ Part9 B w' pv ∧ Kept NoB w w' := by
  obtain ⟨W, hW⟩ : ∃ W, W = w.alloc (.cells #[.nilFunc, .nilFunc, .nilFunc, .nilFunc] 106 (0, 0)) := ⟨_, rfl⟩
  have hsz : W.heap.size = w.heap.size + 1 := by rw [hW]; simp
  have o2 : W.heap[w.heap.size]? = some (.cells #[.nilFunc, .nilFunc, .nilFunc, .nilFunc] 106 (0, 0)) := by rw [hW]; exact heap_alloc_new w _
  have HKW : Hid (Kept NoB w W) := Lib.hid (by rw [hW]; exact (Kept.refl NoB w).alloc _)
  have HO2 := Lib.hid o2
  have HSZ := Lib.hid hsz
  have HW := Lib.hid hW
  have HU := Lib.hid (upTo_err W 255)
  obtain ⟨W2, hW2⟩ : ∃ W2, W2 = W.alloc (.cells #[.int .i64 255] 24 (0, 0)) := ⟨_, rfl⟩
  have hk2 : Kept NoB W W2 := by rw [hW2]; exact (Kept.refl NoB W).alloc _
  have hm : OneAt 24 W.heap.size (.int .i64 255) W2 := by rw [hW2]; exact OneAt.new W _ _
  have HW2 := Lib.hid hW2
  have HM := Lib.hid hm
  have HK2 := Lib.hid hk2
  have HN := Lib.hid (number_err W2 1 (.func (.func 259) #[] #[pb W.heap.size]) (.func (.func 203) #[] #[]) rfl rfl)
  clear hW hsz o2 hW2 hk2 hm
  go_enter Tryz.func125, Tryz.ntmps125
  go_wp2_with fail
  rw [← HW.out]
  go_wp2_with fail
  refine HU.out.mono ?_
  rintro e w1 ⟨rfl, rfl⟩
  rw [← HW2.out]
  go_wp2_with fail
  refine HN.out.mono ?_
  rintro e w1 ⟨s, bw, hs, hbw, rfl, a1, a2, a3, a4, a5, hk⟩
  have HB5 := Lib.hid a5
  have HBM := Lib.hid (HM.out.no hk)
  have HS : Hid (w.heap.size + 1 ≤ s ∧ w.heap.size + 1 ≤ bw) := Lib.hid (by have := HSZ.out; have := HK2.out.size; omega)
  replace hk := HK2.out.trans hk (fun _ _ h => h)
  clear hs hbw a5
  have HA := Lib.hid (And.intro a1 (And.intro a2 (And.intro a3 a4)))
  have hk1 := HKW.out.trans hk (fun _ _ h => h)
  have hr := hk.heap (fun h => h) HO2.out
  have HR := Lib.hid hr
  obtain ⟨r0, r1, r2, r3⟩ := cells4p hr
  have z := blkU_frozen hr
  have HK1 := Lib.hid hk1
  unfold PartAg
  clear a1 a2 a3 a4 hk hk1 hr
  go_wp2
  have hF := four10_at HR.out (.func (.func 317) #[] #[pb s, pb (s + 3)]) (.func (.func 318) #[] #[pb (s + 1), pb (s + 3)]) (.func (.func 319) #[] #[pb (s + 2), pb (s + 3)]) (.func (.func 320) #[] #[pb (s + 3)])
  have hK := HK1.out.four10 (b := w.heap.size) (.inr (Nat.le_refl _)) 0 (.func (.func 317) #[] #[pb s, pb (s + 3)]) (.func (.func 318) #[] #[pb (s + 1), pb (s + 3)]) (.func (.func 319) #[] #[pb (s + 2), pb (s + 3)]) (.func (.func 320) #[] #[pb (s + 3)])
  have hO : ∀ (t : TypeId) (b : Nat) (v : Value), OneAt t b v w1 → b ≠ w.heap.size → OneAt t b v (four10 w1 w.heap.size 0 (.func (.func 317) #[] #[pb s, pb (s + 3)]) (.func (.func 318) #[] #[pb (s + 1), pb (s + 3)]) (.func (.func 319) #[] #[pb (s + 2), pb (s + 3)]) (.func (.func 320) #[] #[pb (s + 3)])) := fun t b v h hb => h.kept ((Kept.refl (fun k => k = w.heap.size) w1).four10 (b := w.heap.size) (.inl rfl) 0 (.func (.func 317) #[] #[pb s, pb (s + 3)]) (.func (.func 318) #[] #[pb (s + 1), pb (s + 3)]) (.func (.func 319) #[] #[pb (s + 2), pb (s + 3)]) (.func (.func 320) #[] #[pb (s + 3)])) hb
  clear r0 r1 r2 r3 z
  obtain ⟨r0, r1, r2, r3⟩ := cells4p hF
  clear hF
  unfold four10 at r0 r1 r2 r3 hK hO
  simp only [Nat.zero_add] at r0 r1 r2 r3 hK hO
  generalize hW : World.setCell _ _ _ = W3 at r0 r1 r2 r3 hK hO ⊢

  have hs := HS.out
  have hw := HSZ.out
  exact bodyPost_ret (v := PartAg 317 318 319 320 s (s + 1) (s + 2) (s + 3)) (by simp [results, Tryz.results125, go_sem, PartAg, r0, r1, r2, r3]) rfl ⟨_, rfl, ⟨W.heap.size, by omega, hO _ _ _ HBM.out (by omega), s, bw, by omega, by omega, rfl, hO _ _ _ HA.out.1 (by omega), hO _ _ _ HA.out.2.1 (by omega), hO _ _ _ HA.out.2.2.1 (by omega), hO _ _ _ HA.out.2.2.2 (by omega), hO _ _ _ HB5.out (by omega)⟩, hK⟩
def Part10 (B : Nat) (w : World) (pv : Value) : Prop := NumPart 304 305 306 307 245 246 182 335 336 279 8 (.func (.func 193) #[] #[]) (.func (.func 204) #[] #[]) B w pv
set_option maxRecDepth 100000 in
set_option maxHeartbeats 1000000 in
theorem partAt_10 (w : World) (B : Nat) (hB : B ≤ w.heap.size) : Calls Tryz.prog 125 #[.int .u32 1024] w fun e w' => ∃ pv, e = .returned pv ∧ Part10 B w' pv ∧ Kept NoB w w' := by
  obtain ⟨W, hW⟩ : ∃ W, W = w.alloc (.cells #[.nilFunc, .nilFunc, .nilFunc, .nilFunc] 106 (0, 0)) := ⟨_, rfl⟩
  have hsz : W.heap.size = w.heap.size + 1 := by rw [hW]; simp
  have o2 : W.heap[w.heap.size]? = some (.cells #[.nilFunc, .nilFunc, .nilFunc, .nilFunc] 106 (0, 0)) := by rw [hW]; exact heap_alloc_new w _
  have HKW : Hid (Kept NoB w W) := Lib.hid (by rw [hW]; exact (Kept.refl NoB w).alloc _)
  have HO2 := Lib.hid o2
  have HSZ := Lib.hid hsz
  have HW := Lib.hid hW
  have HN := Lib.hid (number_u64 W 8 (.func (.func 193) #[] #[]) (.func (.func 204) #[] #[]) rfl rfl)
  clear hW hsz o2
  go_enter Tryz.func125, Tryz.ntmps125
  go_wp2_with fail
  rw [← HW.out]
  go_wp2_with fail
  refine HN.out.mono ?_
  rintro e w1 ⟨s, bw, hs, hbw, rfl, a1, a2, a3, a4, a5, hk⟩
  have HB5 := Lib.hid a5
  have HS : Hid (w.heap.size + 1 ≤ s ∧ w.heap.size + 1 ≤ bw) := Lib.hid (by have := HSZ.out; omega)
  clear hs hbw a5
  have HA := Lib.hid (And.intro a1 (And.intro a2 (And.intro a3 a4)))
  have hk1 := HKW.out.trans hk (fun _ _ h => h)
  have hr := hk.heap (fun h => h) HO2.out
  have HR := Lib.hid hr
  obtain ⟨r0, r1, r2, r3⟩ := cells4p hr
  have z := blkU_frozen hr
  have HK1 := Lib.hid hk1
  unfold PartAg
  clear a1 a2 a3 a4 hk hk1 hr
  go_wp2
  have hF := four10_at HR.out (.func (.func 304) #[] #[pb s, pb (s + 3)]) (.func (.func 305) #[] #[pb (s + 1), pb (s + 3)]) (.func (.func 306) #[] #[pb (s + 2), pb (s + 3)]) (.func (.func 307) #[] #[pb (s + 3)])
  have hK := HK1.out.four10 (b := w.heap.size) (.inr (Nat.le_refl _)) 0 (.func (.func 304) #[] #[pb s, pb (s + 3)]) (.func (.func 305) #[] #[pb (s + 1), pb (s + 3)]) (.func (.func 306) #[] #[pb (s + 2), pb (s + 3)]) (.func (.func 307) #[] #[pb (s + 3)])
  have hO : ∀ (t : TypeId) (b : Nat) (v : Value), OneAt t b v w1 → b ≠ w.heap.size → OneAt t b v (four10 w1 w.heap.size 0 (.func (.func 304) #[] #[pb s, pb (s + 3)]) (.func (.func 305) #[] #[pb (s + 1), pb (s + 3)]) (.func (.func 306) #[] #[pb (s + 2), pb (s + 3)]) (.func (.func 307) #[] #[pb (s + 3)])) := fun t b v h hb => h.kept ((Kept.refl (fun k => k = w.heap.size) w1).four10 (b := w.heap.size) (.inl rfl) 0 (.func (.func 304) #[] #[pb s, pb (s + 3)]) (.func (.func 305) #[] #[pb (s + 1), pb (s + 3)]) (.func (.func 306) #[] #[pb (s + 2), pb (s + 3)]) (.func (.func 307) #[] #[pb (s + 3)])) hb
  clear r0 r1 r2 r3 z
  obtain ⟨r0, r1, r2, r3⟩ := cells4p hF
  clear hF
  unfold four10 at r0 r1 r2 r3 hK hO
  simp only [Nat.zero_add] at r0 r1 r2 r3 hK hO
  generalize hW : World.setCell _ _ _ = W3 at r0 r1 r2 r3 hK hO ⊢

  have hs := HS.out
  exact bodyPost_ret (v := PartAg 304 305 306 307 s (s + 1) (s + 2) (s + 3)) (by simp [results, Tryz.results125, go_sem, PartAg, r0, r1, r2, r3]) rfl ⟨_, rfl, ⟨s, bw, by omega, by omega, rfl, hO _ _ _ HA.out.1 (by omega), hO _ _ _ HA.out.2.1 (by omega), hO _ _ _ HA.out.2.2.1 (by omega), hO _ _ _ HA.out.2.2.2 (by omega), hO _ _ _ HB5.out (by omega)⟩, hK⟩
def Part11 (B : Nat) (w : World) (pv : Value) : Prop := FldPart 260 261 262 263 293 294 295 297 (.func (.func 206) #[] #[]) (.func (.func 207) #[] #[]) (.func (.func 208) #[] #[]) (.func (.func 209) #[] #[]) B w pv
set_option maxRecDepth 100000 in
set_option maxHeartbeats 1000000 in
theorem partAt_11 (w : World) (B : Nat) (hB : B ≤ w.heap.size) : Calls Tryz.prog 125 #[.int .u32 2048] w fun e w' => ∃ pv, e = .returned pv ∧ Part11 B w' pv ∧ Kept NoB w w' := by
  obtain ⟨W, hW⟩ : ∃ W, W = w.alloc (.cells #[.nilFunc, .nilFunc, .nilFunc, .nilFunc] 106 (0, 0)) := ⟨_, rfl⟩
  have hsz : W.heap.size = w.heap.size + 1 := by rw [hW]; simp
  have o2 : W.heap[w.heap.size]? = some (.cells #[.nilFunc, .nilFunc, .nilFunc, .nilFunc] 106 (0, 0)) := by rw [hW]; exact heap_alloc_new w _
  have HKW : Hid (Kept NoB w W) := Lib.hid (by rw [hW]; exact (Kept.refl NoB w).alloc _)
  have HO2 := Lib.hid o2
  have HSZ := Lib.hid hsz
  have HW := Lib.hid hW
  have HN := Lib.hid (field_cmd W (.func (.func 206) #[] #[]) (.func (.func 207) #[] #[]) (.func (.func 208) #[] #[]) (.func (.func 209) #[] #[]) rfl rfl rfl rfl)
  clear hW hsz o2
  go_enter Tryz.func125, Tryz.ntmps125
  go_wp2_with fail
  rw [← HW.out]
  go_wp2_with fail
  refine HN.out.mono ?_
  rintro e w1 ⟨s, hs, rfl, a1, a2, a3, a4, hk⟩
  have HS : Hid (w.heap.size + 1 ≤ s) := Lib.hid (by have := HSZ.out; omega)
  clear hs
  have HA := Lib.hid (And.intro a1 (And.intro a2 (And.intro a3 a4)))
  have hk1 := HKW.out.trans hk (fun _ _ h => h)
  have hr := hk.heap (fun h => h) HO2.out
  have HR := Lib.hid hr
  obtain ⟨r0, r1, r2, r3⟩ := cells4p hr
  have z := blkU_frozen hr
  have HK1 := Lib.hid hk1
  unfold PartAg
  clear a1 a2 a3 a4 hk hk1 hr
  go_wp2
  have hF := four10_at HR.out (.func (.func 260) #[] #[pb s, pb (s + 3)]) (.func (.func 261) #[] #[pb (s + 1), pb (s + 3)]) (.func (.func 262) #[] #[pb (s + 2), pb (s + 3)]) (.func (.func 263) #[] #[pb (s + 3)])
  have hK := HK1.out.four10 (b := w.heap.size) (.inr (Nat.le_refl _)) 0 (.func (.func 260) #[] #[pb s, pb (s + 3)]) (.func (.func 261) #[] #[pb (s + 1), pb (s + 3)]) (.func (.func 262) #[] #[pb (s + 2), pb (s + 3)]) (.func (.func 263) #[] #[pb (s + 3)])
  have hO : ∀ (t : TypeId) (b : Nat) (v : Value), OneAt t b v w1 → b ≠ w.heap.size → OneAt t b v (four10 w1 w.heap.size 0 (.func (.func 260) #[] #[pb s, pb (s + 3)]) (.func (.func 261) #[] #[pb (s + 1), pb (s + 3)]) (.func (.func 262) #[] #[pb (s + 2), pb (s + 3)]) (.func (.func 263) #[] #[pb (s + 3)])) := fun t b v h hb => h.kept ((Kept.refl (fun k => k = w.heap.size) w1).four10 (b := w.heap.size) (.inl rfl) 0 (.func (.func 260) #[] #[pb s, pb (s + 3)]) (.func (.func 261) #[] #[pb (s + 1), pb (s + 3)]) (.func (.func 262) #[] #[pb (s + 2), pb (s + 3)]) (.func (.func 263) #[] #[pb (s + 3)])) hb
  clear r0 r1 r2 r3 z
  obtain ⟨r0, r1, r2, r3⟩ := cells4p hF
  clear hF
  unfold four10 at r0 r1 r2 r3 hK hO
  simp only [Nat.zero_add] at r0 r1 r2 r3 hK hO
  generalize hW : World.setCell _ _ _ = W3 at r0 r1 r2 r3 hK hO ⊢

  have hs := HS.out
  exact bodyPost_ret (v := PartAg 260 261 262 263 s (s + 1) (s + 2) (s + 3)) (by simp [results, Tryz.results125, go_sem, PartAg, r0, r1, r2, r3]) rfl ⟨_, rfl, ⟨s, by omega, rfl, hO _ _ _ HA.out.1 (by omega), hO _ _ _ HA.out.2.1 (by omega), hO _ _ _ HA.out.2.2.1 (by omega), hO _ _ _ HA.out.2.2.2 (by omega)⟩, hK⟩
def Part12 (B : Nat) (w : World) (pv : Value) : Prop := FldPart 266 267 268 269 187 299 300 302 (.func (.func 115) #[] #[]) (.func (.func 211) #[] #[]) (.func (.func 212) #[] #[]) (.func (.func 213) #[] #[]) B w pv
set_option maxRecDepth 100000 in
set_option maxHeartbeats 1000000 in
theorem partAt_12 (w : World) (B : Nat) (hB : B ≤ w.heap.size) : Calls Tryz.prog 125 #[.int .u32 4096] w fun e w' => ∃ pv, e = .returned pv ∧ Part12 B w' pv ∧ Kept NoB w w' := by
  obtain ⟨W, hW⟩ : ∃ W, W = w.alloc (.cells #[.nilFunc, .nilFunc, .nilFunc, .nilFunc] 106 (0, 0)) := ⟨_, rfl⟩
  have hsz : W.heap.size = w.heap.size + 1 := by rw [hW]; simp
  have o2 : W.heap[w.heap.size]? = some (.cells #[.nilFunc, .nilFunc, .nilFunc, .nilFunc] 106 (0, 0)) := by rw [hW]; exact heap_alloc_new w _
  have HKW : Hid (Kept NoB w W) := Lib.hid (by rw [hW]; exact (Kept.refl NoB w).alloc _)
  have HO2 := Lib.hid o2
  have HSZ := Lib.hid hsz
  have HW := Lib.hid hW
  have HN := Lib.hid (field_cnf W (.func (.func 115) #[] #[]) (.func (.func 211) #[] #[]) (.func (.func 212) #[] #[]) (.func (.func 213) #[] #[]) rfl rfl rfl rfl)
  clear hW hsz o2
  go_enter Tryz.func125, Tryz.ntmps125
  go_wp2_with fail
  rw [← HW.out]
  go_wp2_with fail
  refine HN.out.mono ?_
  rintro e w1 ⟨s, hs, rfl, a1, a2, a3, a4, hk⟩
  have HS : Hid (w.heap.size + 1 ≤ s) := Lib.hid (by have := HSZ.out; omega)
  clear hs
  have HA := Lib.hid (And.intro a1 (And.intro a2 (And.intro a3 a4)))
  have hk1 := HKW.out.trans hk (fun _ _ h => h)
  have hr := hk.heap (fun h => h) HO2.out
  have HR := Lib.hid hr
  obtain ⟨r0, r1, r2, r3⟩ := cells4p hr
  have z := blkU_frozen hr
  have HK1 := Lib.hid hk1
  unfold PartAg
  clear a1 a2 a3 a4 hk hk1 hr
  go_wp2
  have hF := four10_at HR.out (.func (.func 266) #[] #[pb s, pb (s + 3)]) (.func (.func 267) #[] #[pb (s + 1), pb (s + 3)]) (.func (.func 268) #[] #[pb (s + 2), pb (s + 3)]) (.func (.func 269) #[] #[pb (s + 3)])
  have hK := HK1.out.four10 (b := w.heap.size) (.inr (Nat.le_refl _)) 0 (.func (.func 266) #[] #[pb s, pb (s + 3)]) (.func (.func 267) #[] #[pb (s + 1), pb (s + 3)]) (.func (.func 268) #[] #[pb (s + 2), pb (s + 3)]) (.func (.func 269) #[] #[pb (s + 3)])
  have hO : ∀ (t : TypeId) (b : Nat) (v : Value), OneAt t b v w1 → b ≠ w.heap.size → OneAt t b v (four10 w1 w.heap.size 0 (.func (.func 266) #[] #[pb s, pb (s + 3)]) (.func (.func 267) #[] #[pb (s + 1), pb (s + 3)]) (.func (.func 268) #[] #[pb (s + 2), pb (s + 3)]) (.func (.func 269) #[] #[pb (s + 3)])) := fun t b v h hb => h.kept ((Kept.refl (fun k => k = w.heap.size) w1).four10 (b := w.heap.size) (.inl rfl) 0 (.func (.func 266) #[] #[pb s, pb (s + 3)]) (.func (.func 267) #[] #[pb (s + 1), pb (s + 3)]) (.func (.func 268) #[] #[pb (s + 2), pb (s + 3)]) (.func (.func 269) #[] #[pb (s + 3)])) hb
  clear r0 r1 r2 r3 z
  obtain ⟨r0, r1, r2, r3⟩ := cells4p hF
  clear hF
  unfold four10 at r0 r1 r2 r3 hK hO
  simp only [Nat.zero_add] at r0 r1 r2 r3 hK hO
  generalize hW : World.setCell _ _ _ = W3 at r0 r1 r2 r3 hK hO ⊢

  have hs := HS.out
  exact bodyPost_ret (v := PartAg 266 267 268 269 s (s + 1) (s + 2) (s + 3)) (by simp [results, Tryz.results125, go_sem, PartAg, r0, r1, r2, r3]) rfl ⟨_, rfl, ⟨s, by omega, rfl, hO _ _ _ HA.out.1 (by omega), hO _ _ _ HA.out.2.1 (by omega), hO _ _ _ HA.out.2.2.1 (by omega), hO _ _ _ HA.out.2.2.2 (by omega)⟩, hK⟩
def Part13 (B : Nat) (w : World) (pv : Value) : Prop := FldPart 272 273 274 275 304 305 306 308 (.func (.func 215) #[] #[]) (.func (.func 216) #[] #[]) (.func (.func 217) #[] #[]) (.func (.func 218) #[] #[]) B w pv
set_option maxRecDepth 100000 in
set_option maxHeartbeats 1000000 in
theorem partAt_13 (w : World) (B : Nat) (hB : B ≤ w.heap.size) : Calls Tryz.prog 125 #[.int .u32 8192] w fun e w' => ∃ pv, e = .returned pv ∧ Part13 B w' pv ∧ Kept NoB w w' := by
  obtain ⟨W, hW⟩ : ∃ W, W = w.alloc (.cells #[.nilFunc, .nilFunc, .nilFunc, .nilFunc] 106 (0, 0)) := ⟨_, rfl⟩
  have hsz : W.heap.size = w.heap.size + 1 := by rw [hW]; simp
  have o2 : W.heap[w.heap.size]? = some (.cells #[.nilFunc, .nilFunc, .nilFunc, .nilFunc] 106 (0, 0)) := by rw [hW]; exact heap_alloc_new w _
  have HKW : Hid (Kept NoB w W) := Lib.hid (by rw [hW]; exact (Kept.refl NoB w).alloc _)
  have HO2 := Lib.hid o2
  have HSZ := Lib.hid hsz
  have HW := Lib.hid hW
  have HN := Lib.hid (field_vts W (.func (.func 215) #[] #[]) (.func (.func 216) #[] #[]) (.func (.func 217) #[] #[]) (.func (.func 218) #[] #[]) rfl rfl rfl rfl)
  clear hW hsz o2
  go_enter Tryz.func125, Tryz.ntmps125
  go_wp2_with fail
  rw [← HW.out]
  go_wp2_with fail
  refine HN.out.mono ?_
  rintro e w1 ⟨s, hs, rfl, a1, a2, a3, a4, hk⟩
  have HS : Hid (w.heap.size + 1 ≤ s) := Lib.hid (by have := HSZ.out; omega)
  clear hs
  have HA := Lib.hid (And.intro a1 (And.intro a2 (And.intro a3 a4)))
  have hk1 := HKW.out.trans hk (fun _ _ h => h)
  have hr := hk.heap (fun h => h) HO2.out
  have HR := Lib.hid hr
  obtain ⟨r0, r1, r2, r3⟩ := cells4p hr
  have z := blkU_frozen hr
  have HK1 := Lib.hid hk1
  unfold PartAg
  clear a1 a2 a3 a4 hk hk1 hr
  go_wp2
  have hF := four10_at HR.out (.func (.func 272) #[] #[pb s, pb (s + 3)]) (.func (.func 273) #[] #[pb (s + 1), pb (s + 3)]) (.func (.func 274) #[] #[pb (s + 2), pb (s + 3)]) (.func (.func 275) #[] #[pb (s + 3)])
  have hK := HK1.out.four10 (b := w.heap.size) (.inr (Nat.le_refl _)) 0 (.func (.func 272) #[] #[pb s, pb (s + 3)]) (.func (.func 273) #[] #[pb (s + 1), pb (s + 3)]) (.func (.func 274) #[] #[pb (s + 2), pb (s + 3)]) (.func (.func 275) #[] #[pb (s + 3)])
  have hO : ∀ (t : TypeId) (b : Nat) (v : Value), OneAt t b v w1 → b ≠ w.heap.size → OneAt t b v (four10 w1 w.heap.size 0 (.func (.func 272) #[] #[pb s, pb (s + 3)]) (.func (.func 273) #[] #[pb (s + 1), pb (s + 3)]) (.func (.func 274) #[] #[pb (s + 2), pb (s + 3)]) (.func (.func 275) #[] #[pb (s + 3)])) := fun t b v h hb => h.kept ((Kept.refl (fun k => k = w.heap.size) w1).four10 (b := w.heap.size) (.inl rfl) 0 (.func (.func 272) #[] #[pb s, pb (s + 3)]) (.func (.func 273) #[] #[pb (s + 1), pb (s + 3)]) (.func (.func 274) #[] #[pb (s + 2), pb (s + 3)]) (.func (.func 275) #[] #[pb (s + 3)])) hb
  clear r0 r1 r2 r3 z
  obtain ⟨r0, r1, r2, r3⟩ := cells4p hF
  clear hF
  unfold four10 at r0 r1 r2 r3 hK hO
  simp only [Nat.zero_add] at r0 r1 r2 r3 hK hO
  generalize hW : World.setCell _ _ _ = W3 at r0 r1 r2 r3 hK hO ⊢

  have hs := HS.out
  exact bodyPost_ret (v := PartAg 272 273 274 275 s (s + 1) (s + 2) (s + 3)) (by simp [results, Tryz.results125, go_sem, PartAg, r0, r1, r2, r3]) rfl ⟨_, rfl, ⟨s, by omega, rfl, hO _ _ _ HA.out.1 (by omega), hO _ _ _ HA.out.2.1 (by omega), hO _ _ _ HA.out.2.2.1 (by omega), hO _ _ _ HA.out.2.2.2 (by omega)⟩, hK⟩
def Part16 (B : Nat) (w : World) (pv : Value) : Prop := DatPart 1024 B w pv
set_option maxRecDepth 100000 in
set_option maxHeartbeats 1000000 in
theorem partAt_16 (w : World) (B : Nat) (hB : B ≤ w.heap.size) : Calls Tryz.prog 125 #[.int .u32 65536] w fun e w' => ∃ pv, e = .returned pv ∧ Part16 B w' pv ∧ Kept NoB w w' := by
  obtain ⟨W, hW⟩ : ∃ W, W = w.alloc (.cells #[.nilFunc, .nilFunc, .nilFunc, .nilFunc] 106 (0, 0)) := ⟨_, rfl⟩
  have hsz : W.heap.size = w.heap.size + 1 := by rw [hW]; simp
  have o2 : W.heap[w.heap.size]? = some (.cells #[.nilFunc, .nilFunc, .nilFunc, .nilFunc] 106 (0, 0)) := by rw [hW]; exact heap_alloc_new w _
  have HKW : Hid (Kept NoB w W) := Lib.hid (by rw [hW]; exact (Kept.refl NoB w).alloc _)
  have HO2 := Lib.hid o2
  have HSZ := Lib.hid hsz
  have HW := Lib.hid hW
  have HN := Lib.hid (data_any W 1024)
  clear hW hsz o2
  go_enter Tryz.func125, Tryz.ntmps125
  go_wp2_with fail
  rw [← HW.out]
  go_wp2_with fail
  refine HN.out.mono ?_
  rintro e w1 ⟨pv, rfl, ⟨s, bw, hs, hbw, rfl, a1, a4, a5⟩, hk⟩
  have HB5 := Lib.hid a5
  have HS : Hid (w.heap.size + 1 ≤ s ∧ w.heap.size + 1 ≤ bw) := Lib.hid (by have := HSZ.out; omega)
  have a2 := a1
  have a3 := a1
  clear hs hbw a5
  have HA := Lib.hid (And.intro a1 (And.intro a2 (And.intro a3 a4)))
  have hk1 := HKW.out.trans hk (fun _ _ h => h)
  have hr := hk.heap (fun h => h) HO2.out
  have HR := Lib.hid hr
  obtain ⟨r0, r1, r2, r3⟩ := cells4p hr
  have z := blkU_frozen hr
  have HK1 := Lib.hid hk1
  unfold PartAg
  clear a1 a2 a3 a4 hk hk1 hr
  go_wp2
  have hF := four10_at HR.out (.func (.func 325) #[] #[pb s, pb (s + 3)]) (.func (.func 326) #[] #[pb (s + 1), pb (s + 3)]) (.func (.func 327) #[] #[pb (s + 2), pb (s + 3)]) (.func (.func 328) #[] #[pb (s + 3)])
  have hK := HK1.out.four10 (b := w.heap.size) (.inr (Nat.le_refl _)) 0 (.func (.func 325) #[] #[pb s, pb (s + 3)]) (.func (.func 326) #[] #[pb (s + 1), pb (s + 3)]) (.func (.func 327) #[] #[pb (s + 2), pb (s + 3)]) (.func (.func 328) #[] #[pb (s + 3)])
  have hO : ∀ (t : TypeId) (b : Nat) (v : Value), OneAt t b v w1 → b ≠ w.heap.size → OneAt t b v (four10 w1 w.heap.size 0 (.func (.func 325) #[] #[pb s, pb (s + 3)]) (.func (.func 326) #[] #[pb (s + 1), pb (s + 3)]) (.func (.func 327) #[] #[pb (s + 2), pb (s + 3)]) (.func (.func 328) #[] #[pb (s + 3)])) := fun t b v h hb => h.kept ((Kept.refl (fun k => k = w.heap.size) w1).four10 (b := w.heap.size) (.inl rfl) 0 (.func (.func 325) #[] #[pb s, pb (s + 3)]) (.func (.func 326) #[] #[pb (s + 1), pb (s + 3)]) (.func (.func 327) #[] #[pb (s + 2), pb (s + 3)]) (.func (.func 328) #[] #[pb (s + 3)])) hb
  clear r0 r1 r2 r3 z
  obtain ⟨r0, r1, r2, r3⟩ := cells4p hF
  clear hF
  unfold four10 at r0 r1 r2 r3 hK hO
  simp only [Nat.zero_add] at r0 r1 r2 r3 hK hO
  generalize hW : World.setCell _ _ _ = W3 at r0 r1 r2 r3 hK hO ⊢

  have hs := HS.out
  exact bodyPost_ret (v := PartAg 325 326 327 328 s (s + 1) (s + 2) (s + 3)) (by simp [results, Tryz.results125, go_sem, PartAg, r0, r1, r2, r3]) rfl ⟨_, rfl, ⟨s, bw, by omega, by omega, rfl, hO _ _ _ HA.out.1 (by omega), hO _ _ _ HA.out.2.2.2 (by omega), hO _ _ _ HB5.out (by omega)⟩, hK⟩
def Part17 (B : Nat) (w : World) (pv : Value) : Prop := DatPart 2048 B w pv
set_option maxRecDepth 100000 in
set_option maxHeartbeats 1000000 in
theorem partAt_17 (w : World) (B : Nat) (hB : B ≤ w.heap.size) : Calls Tryz.prog 125 #[.int .u32 131072] w fun e w' => ∃ pv, e = .returned pv ∧ Part17 B w' pv ∧ Kept NoB w w' := by
  obtain ⟨W, hW⟩ : ∃ W, W = w.alloc (.cells #[.nilFunc, .nilFunc, .nilFunc, .nilFunc] 106 (0, 0)) := ⟨_, rfl⟩
  have hsz : W.heap.size = w.heap.size + 1 := by rw [hW]; simp
  have o2 : W.heap[w.heap.size]? = some (.cells #[.nilFunc, .nilFunc, .nilFunc, .nilFunc] 106 (0, 0)) := by rw [hW]; exact heap_alloc_new w _
  have HKW : Hid (Kept NoB w W) := Lib.hid (by rw [hW]; exact (Kept.refl NoB w).alloc _)
  have HO2 := Lib.hid o2
  have HSZ := Lib.hid hsz
  have HW := Lib.hid hW
  have HN := Lib.hid (data_any W 2048)
  clear hW hsz o2
  go_enter Tryz.func125, Tryz.ntmps125
  go_wp2_with fail
  rw [← HW.out]
  go_wp2_with fail
  refine HN.out.mono ?_
  rintro e w1 ⟨pv, rfl, ⟨s, bw, hs, hbw, rfl, a1, a4, a5⟩, hk⟩
  have HB5 := Lib.hid a5
  have HS : Hid (w.heap.size + 1 ≤ s ∧ w.heap.size + 1 ≤ bw) := Lib.hid (by have := HSZ.out; omega)
  have a2 := a1
  have a3 := a1
  clear hs hbw a5
  have HA := Lib.hid (And.intro a1 (And.intro a2 (And.intro a3 a4)))
  have hk1 := HKW.out.trans hk (fun _ _ h => h)
  have hr := hk.heap (fun h => h) HO2.out
  have HR := Lib.hid hr
  obtain ⟨r0, r1, r2, r3⟩ := cells4p hr
  have z := blkU_frozen hr
  have HK1 := Lib.hid hk1
  unfold PartAg
  clear a1 a2 a3 a4 hk hk1 hr
  go_wp2
  have hF := four10_at HR.out (.func (.func 325) #[] #[pb s, pb (s + 3)]) (.func (.func 326) #[] #[pb (s + 1), pb (s + 3)]) (.func (.func 327) #[] #[pb (s + 2), pb (s + 3)]) (.func (.func 328) #[] #[pb (s + 3)])
  have hK := HK1.out.four10 (b := w.heap.size) (.inr (Nat.le_refl _)) 0 (.func (.func 325) #[] #[pb s, pb (s + 3)]) (.func (.func 326) #[] #[pb (s + 1), pb (s + 3)]) (.func (.func 327) #[] #[pb (s + 2), pb (s + 3)]) (.func (.func 328) #[] #[pb (s + 3)])
  have hO : ∀ (t : TypeId) (b : Nat) (v : Value), OneAt t b v w1 → b ≠ w.heap.size → OneAt t b v (four10 w1 w.heap.size 0 (.func (.func 325) #[] #[pb s, pb (s + 3)]) (.func (.func 326) #[] #[pb (s + 1), pb (s + 3)]) (.func (.func 327) #[] #[pb (s + 2), pb (s + 3)]) (.func (.func 328) #[] #[pb (s + 3)])) := fun t b v h hb => h.kept ((Kept.refl (fun k => k = w.heap.size) w1).four10 (b := w.heap.size) (.inl rfl) 0 (.func (.func 325) #[] #[pb s, pb (s + 3)]) (.func (.func 326) #[] #[pb (s + 1), pb (s + 3)]) (.func (.func 327) #[] #[pb (s + 2), pb (s + 3)]) (.func (.func 328) #[] #[pb (s + 3)])) hb
  clear r0 r1 r2 r3 z
  obtain ⟨r0, r1, r2, r3⟩ := cells4p hF
  clear hF
  unfold four10 at r0 r1 r2 r3 hK hO
  simp only [Nat.zero_add] at r0 r1 r2 r3 hK hO
  generalize hW : World.setCell _ _ _ = W3 at r0 r1 r2 r3 hK hO ⊢

  have hs := HS.out
  exact bodyPost_ret (v := PartAg 325 326 327 328 s (s + 1) (s + 2) (s + 3)) (by simp [results, Tryz.results125, go_sem, PartAg, r0, r1, r2, r3]) rfl ⟨_, rfl, ⟨s, bw, by omega, by omega, rfl, hO _ _ _ HA.out.1 (by omega), hO _ _ _ HA.out.2.2.2 (by omega), hO _ _ _ HB5.out (by omega)⟩, hK⟩
end Go.Proofs.YtcbenminaakahaaGreatDoor
