/-
  Layer 31: Do of the kinds Make, Put and Stat.
-/
import Derived.Test.YtokafgleejcbgaaGreatDoorTreK
namespace Go.Proofs.YtokafgleejcbgaaGreatDoor
open Go.RowKit
set_option linter.unusedVariables false
set_option maxRecDepth 100000

theorem MkE.wrap {g bm : Nat} {I B : Int} {L : List It} {r : It} {p : List UInt8} {dir : Bool} {w W2 w3 W4 : World} {c : Int} {bA : Nat} (h : TrAt w g bm I B L) (hk : Kept NoB w W2) (hb1 : w.heap.size ≤ bA) (hb2 : bA < W2.heap.size)
    (hm : MkE g bm I B L r p dir W2 (.returned (ansV c)) w3) (hk4 : Kept (fun k => k = bA) w3 W4) : MkE g bm I B L r p dir w (.returned (ansV c)) W4 := by
  obtain ⟨h1, h2, h3⟩ := hm
  refine ⟨h1, fun hc => (hk.trans (h2 hc) (fun _ _ h => h)).trans hk4 (fun i hi e => by have e : i = bA := e; omega), fun hc => ?_⟩
  obtain ⟨a, ha, b, hb, hpa, ht, hkf⟩ := h3 hc
  refine ⟨a, ha, b, by have := hk.size; omega, hpa, ht.kept hk4 (fun i hi hor e => ?_), ((hk.mono (fun _ _ h => h.elim)).trans hkf (fun _ _ h => h)).trans hk4 (fun i hi e => by have e : i = bA := e; omega)⟩
  have e : i = bA := e
  rcases hor with rfl | hf | ⟨x, hx, hG⟩
  · have := heap_lt h.c; omega
  · rcases foot_new31 hf with hf | hf
    · have := h.foot_lt hf; omega
    · have : i = b := hf; omega
  · rcases g_new31 hx hG with ⟨y, hy, hG⟩ | hG
    · have := (h.own y hy i hG).2; omega
    · exact hG.elim
theorem PuE.wrap {g bm : Nat} {I B : Int} {L : List It} {r : It} {p : List UInt8} {o : Int} {l : List Int} {w W2 w3 W4 : World} {c : Int} {bA : Nat} (h : TrAt w g bm I B L) (hk : Kept NoB w W2) (hb1 : w.heap.size ≤ bA) (hb2 : bA < W2.heap.size)
    (hm : PuE g bm I B L r p o l W2 (.returned (ansV c)) w3) (hk4 : Kept (fun k => k = bA) w3 W4) : PuE g bm I B L r p o l w (.returned (ansV c)) W4 := by
  obtain ⟨h1, h2, h3⟩ := hm
  refine ⟨h1, fun hc => (hk.trans (h2 hc) (fun _ _ h => h)).trans hk4 (fun i hi e => by have e : i = bA := e; omega), fun hc => ?_⟩
  obtain ⟨x, hx, nb, hb, hfl, ht, hkf⟩ := h3 hc
  refine ⟨x, hx, nb, by have := hk.size; omega, hfl, ht.kept hk4 (fun i hi hor e => ?_), ((hk.mono (fun _ _ h => h.elim)).trans hkf (fun _ _ h => h)).trans hk4 (fun i hi e => by have e : i = bA := e; omega)⟩
  have e : i = bA := e
  rcases hor with rfl | hf | ⟨y, hy, hG⟩
  · have := heap_lt h.c; omega
  · have := h.foot_lt (setD_foot hf); omega
  · obtain ⟨z, hz, rfl⟩ := setD_mem hy
    unfold set31 at hG
    split at hG
    · have hG : i = nb := hG; omega
    · have := (h.own z hz i hG).2; omega
theorem StE.wrap {L : List It} {r : It} {p : List UInt8} {w W2 w3 W4 : World} {e : Ending} {bA : Nat} (hk : Kept NoB w W2) (hb1 : w.heap.size ≤ bA) (hm : StE L r p W2 e w3) (hk4 : Kept (fun k => k = bA) w3 W4) : StE L r p w e W4 :=
  ⟨hm.1, (hk.trans hm.2 (fun _ _ h => h)).trans hk4 (fun i hi e => by have e : i = bA := e; omega)⟩
theorem MkE.heap {g bm : Nat} {I B : Int} {L : List It} {r : It} {p : List UInt8} {dir : Bool} {w w' : World} {e : Ending} {b : Nat} {O : Obj} (h : MkE g bm I B L r p dir w e w') (hb : w.heap[b]? = some O) (hf : ¬ Foot31 bm L b) : w'.heap[b]? = some O := by
  obtain ⟨_, h2, h3⟩ := h
  by_cases hc : cr31 I B L r p = 0
  · obtain ⟨_, _, _, _, _, _, hk⟩ := h3 hc
    exact hk.heap hf hb
  · exact (h2 hc).heap (fun h => h) hb
theorem PuE.heap {g bm : Nat} {I B : Int} {L : List It} {r : It} {p : List UInt8} {o : Int} {l : List Int} {w w' : World} {e : Ending} {b : Nat} {O : Obj} (h : PuE g bm I B L r p o l w e w') (hb : w.heap[b]? = some O) (hf : ¬ Foot31 bm L b) : w'.heap[b]? = some O := by
  obtain ⟨_, h2, h3⟩ := h
  by_cases hc : pu31 B L r p o l = 0
  · obtain ⟨_, _, _, _, _, _, hk⟩ := h3 hc
    exact hk.heap hf hb
  · exact (h2 hc).heap (fun h => h) hb
theorem StE.heap {bm : Nat} {L : List It} {r : It} {p : List UInt8} {w w' : World} {e : Ending} {b : Nat} {O : Obj} (h : StE L r p w e w') (hb : w.heap[b]? = some O) (hf : ¬ Foot31 bm L b) : w'.heap[b]? = some O := h.2.heap (fun h => h) hb
/-- The table of the calls. -/
def tabV : Array Value := #[.nilFunc, .func (.func 14) #[] #[], .func (.func 15) #[] #[], .func (.func 16) #[] #[], .func (.func 17) #[] #[], .func (.func 18) #[] #[], .func (.func 19) #[] #[], .func (.func 20) #[] #[], .func (.func 21) #[] #[], .func (.func 22) #[] #[], .func (.func 23) #[] #[]]
def nilV : Array Value := #[.nilFunc, .nilFunc, .nilFunc, .nilFunc, .nilFunc, .nilFunc, .nilFunc, .nilFunc, .nilFunc, .nilFunc, .nilFunc]
theorem tab_alloc31 (W : World) : Hid (Kept NoB W ((W.alloc (.cells nilV 42)).setRow W.heap.size tabV)) ∧ Hid (((W.alloc (.cells nilV 42)).setRow W.heap.size tabV).heap[W.heap.size]? = some (.cells tabV 42 (0, 0))) ∧ Hid (((W.alloc (.cells nilV 42)).setRow W.heap.size tabV).heap.size = W.heap.size + 1) := by
  have h0 := heap_alloc_new W (.cells nilV 42)
  have hb : Below W.heap.size W (W.alloc (.cells nilV 42)) := (Below.refl _ _).alloc (Nat.le_refl _) _
  refine ⟨?_, setRow_heap _ _ _ _ _ _ h0, ?_⟩
  · exact (Kept.ofBelow (below_setRow hb (Nat.le_refl _) tabV)).mono (fun i h1 h2 => absurd h1 (by omega))
  · show _ = _
    simp [World.setRow]
set_option maxHeartbeats 8000000 in
theorem Do31_make (w : World) (g bm : Nat) (I B : Int) (L : List It) (r : It) (s q : ByteArray) (o n : Int) (d : Value) (h : TrAt w g bm I B L) (hr : atT L [47] = some r) (hs : s.size ≤ 1000000) (hlg : Lng w) :
    Calls Tryz.prog 4 #[.pointer (some ⟨g, 0, none⟩), callV 1 s q o n d] w (MkE g bm I B L r s.data.toList false w) := by
  obtain ⟨W, hW⟩ : ∃ W, W = (w.alloc (.cells #[.int .i64 1, .string s, .string q, .int .i64 o, .int .i64 n, d] 24)).alloc (.cells #[.int .i64 0, .slice none 0 0, .slice none 0 0, .int .i64 0, .bool false] 29) := ⟨_, rfl⟩
  obtain ⟨HKW, HBC, HBA, HWS⟩ := callAns31 w 1 s q o n d W hW
  obtain ⟨HKF, HBF, HSF⟩ := tab_alloc31 W
  have HKW2 := Lib.hid (HKW.out.trans HKF.out (fun _ _ h => h))
  obtain ⟨W2, hW2⟩ : ∃ W2, W2 = (W.alloc (.cells nilV 42)).setRow W.heap.size tabV := ⟨_, rfl⟩
  rw [← hW2] at HKF HBF HKW2 HSF
  have HSZ : Hid (W2.heap.size = w.heap.size + 3) := Lib.hid (by have := HWS.out; have := HSF.out; omega)
  have HCL : Hid (Calls Tryz.prog 14 #[.pointer (some ⟨g, 0, none⟩), .agg #[.int .i64 1, .string s, .string q, .int .i64 o, .int .i64 n, d]] W2.drew (MkE g bm I B L r s.data.toList false W2.drew)) := Lib.hid (makeFile31_any W2.drew g bm I B L r 1 s q o n d (h.no (HKW2.out.drew)) hr hs (hlg.no HKW2.out.drew))
  have HC2 := Lib.hid (HKF.out.heap (fun h => h) HBC.out)
  have HA2 := Lib.hid (HKF.out.heap (fun h => h) HBA.out)
  have HH := Lib.hid h
  obtain ⟨c0, c1, c2, c3, c4, c5⟩ := cells6_31 HC2.out
  have hcf : W2.cell? ⟨W.heap.size, 1, none⟩ = some (.func (.func 14) #[] #[]) := cell_of_row _ _ 1 _ _ _ HBF.out
  obtain ⟨bA, hbA⟩ : ∃ b, b = w.heap.size + 1 := ⟨_, rfl⟩
  rw [← hbA] at HA2
  have HBE := Lib.hid hbA
  have HWQ := Lib.hid hW
  unfold nilV at hW2
  have HWQ2 := Lib.hid hW2
  have HNI := Lib.hid (heap_alloc_new W (.cells nilV 42))
  obtain ⟨bF, hbF⟩ : ∃ b, b = W.heap.size := ⟨_, rfl⟩
  rw [← hbF] at hcf
  have HBFE := Lib.hid hbF
  clear h hr hs hlg hbA hW hW2 hbF
  unfold callV
  go_enter Tryz.func4, Tryz.ntmps4
  go_upto_region 3 with fail
  rw [← HWQ.out, ← HBE.out]
  go_upto_region 4 with (refine wpList_store_row rfl 42 _ _ rfl W.heap.size tabV rfl rfl 42 nilV HNI.out (by kernel_rfl) rfl (by rw [← Array.all_toList]; rfl) ?_)
  go_frame
  rw [← HWQ2.out, ← HBFE.out]
  go_wp2_with fail
  go_region_law ((go_simp; go_at_call 14; refine HCL.out.mono ?_; rintro e w3 hm; have HM := Lib.hid hm; have HA3 := Lib.hid (hm.heap HA2.out (fun hf => by have := HH.out.foot_lt hf; have := HBE.out; omega)); (obtain ⟨z0, z1, z2, z3, z4⟩ := cells5_31 HA3.out); have f0 := frz31 HA3.out 0; have f1 := frz31 HA3.out 1; have f2 := frz31 HA3.out 2; have f3 := frz31 HA3.out 3; have f4 := frz31 HA3.out 4; (obtain ⟨he, -⟩ := hm); have he : e = .returned (.agg #[.int .i64 (cr31 I B L r s.data.toList), .slice none 0 0, .slice none 0 0, .int .i64 0, .bool false]) := he; subst he))
  all_goals
    obtain ⟨cr, hcr⟩ : ∃ c, c = cr31 I B L r s.data.toList := ⟨_, rfl⟩
    have HCQ := Lib.hid hcr
    rw [← hcr]
    clear hcr
    go_wp2_with fail
    obtain ⟨W4, hW4⟩ : ∃ W4, W4 = ((((w3.setCell ⟨bA, 0, none⟩ (.int .i64 cr)).setCell ⟨bA, 1, none⟩ (.slice none 0 0)).setCell ⟨bA, 2, none⟩ (.slice none 0 0)).setCell ⟨bA, 3, none⟩ (.int .i64 0)).setCell ⟨bA, 4, none⟩ (.bool false) := ⟨_, rfl⟩
    obtain ⟨hb4, hk4⟩ := ansSet31 HA3.out cr (.slice none 0 0) (.slice none 0 0) 0 false W4 hW4
    rw [← hW4]
    obtain ⟨r0, r1, r2, r3, r4⟩ := cells5_31 hb4
    have HK4 := Lib.hid hk4
    clear hW4 hb4 hk4 z0 z1 z2 z3 z4 f0 f1 f2 f3 f4
    refine bodyPost_ret (v := .agg #[.int .i64 cr, .slice none 0 0, .slice none 0 0, .int .i64 0, .bool false]) (by simp [results, Tryz.results4, go_sem, r0, r1, r2, r3, r4]) rfl ?_
    have hbe := HBE.out
    have hsz := HSZ.out
    have hsd : W2.drew.heap.size = W2.heap.size := rfl
    exact (show MkE g bm I B L r s.data.toList false w (.returned (ansV cr)) W4 from MkE.wrap HH.out HKW2.out.drew (by omega) (by omega) (by rw [HCQ.out]; exact HM.out) HK4.out)
set_option maxHeartbeats 8000000 in
theorem Do31_put (w : World) (g bm : Nat) (I B : Int) (L : List It) (r : It) (s q : ByteArray) (o n : Int) (a : Option Addr) (c : Nat) (l : List Int) (F : Nat → Prop) (h : TrAt w g bm I B L) (hr : atT L [47] = some r) (hs : s.size ≤ 1000000) (hlg : Lng w) (hl : BSl w F (.slice a l.length c) l) (hF : ∀ k, F k → ¬ Foot31 bm L k) (hlm : l.length ≤ 1000000) :
    Calls Tryz.prog 4 #[.pointer (some ⟨g, 0, none⟩), callV 6 s q o n (.slice a l.length c)] w (PuE g bm I B L r s.data.toList o l w) := by
  obtain ⟨W, hW⟩ : ∃ W, W = (w.alloc (.cells #[.int .i64 6, .string s, .string q, .int .i64 o, .int .i64 n, (.slice a l.length c)] 24)).alloc (.cells #[.int .i64 0, .slice none 0 0, .slice none 0 0, .int .i64 0, .bool false] 29) := ⟨_, rfl⟩
  obtain ⟨HKW, HBC, HBA, HWS⟩ := callAns31 w 6 s q o n (.slice a l.length c) W hW
  obtain ⟨HKF, HBF, HSF⟩ := tab_alloc31 W
  have HKW2 := Lib.hid (HKW.out.trans HKF.out (fun _ _ h => h))
  obtain ⟨W2, hW2⟩ : ∃ W2, W2 = (W.alloc (.cells nilV 42)).setRow W.heap.size tabV := ⟨_, rfl⟩
  rw [← hW2] at HKF HBF HKW2 HSF
  have HSZ : Hid (W2.heap.size = w.heap.size + 3) := Lib.hid (by have := HWS.out; have := HSF.out; omega)
  have HCL : Hid (Calls Tryz.prog 19 #[.pointer (some ⟨g, 0, none⟩), .agg #[.int .i64 6, .string s, .string q, .int .i64 o, .int .i64 n, (.slice a l.length c)]] W2.drew (PuE g bm I B L r s.data.toList o l W2.drew)) := Lib.hid (put31_any W2.drew g bm I B L r 6 s q o n a c l F (h.no (HKW2.out.drew)) hr hs (hlg.no HKW2.out.drew) (hl.kept HKW2.out.drew (fun _ _ h => h)) hF hlm)
  have HC2 := Lib.hid (HKF.out.heap (fun h => h) HBC.out)
  have HA2 := Lib.hid (HKF.out.heap (fun h => h) HBA.out)
  have HH := Lib.hid h
  obtain ⟨c0, c1, c2, c3, c4, c5⟩ := cells6_31 HC2.out
  have hcf : W2.cell? ⟨W.heap.size, 6, none⟩ = some (.func (.func 19) #[] #[]) := cell_of_row _ _ 6 _ _ _ HBF.out
  obtain ⟨bA, hbA⟩ : ∃ b, b = w.heap.size + 1 := ⟨_, rfl⟩
  rw [← hbA] at HA2
  have HBE := Lib.hid hbA
  have HWQ := Lib.hid hW
  unfold nilV at hW2
  have HWQ2 := Lib.hid hW2
  have HNI := Lib.hid (heap_alloc_new W (.cells nilV 42))
  obtain ⟨bF, hbF⟩ : ∃ b, b = W.heap.size := ⟨_, rfl⟩
  rw [← hbF] at hcf
  have HBFE := Lib.hid hbF
  clear h hr hs hlg hbA hW hW2 hbF hl hF hlm
  unfold callV
  go_enter Tryz.func4, Tryz.ntmps4
  go_upto_region 3 with fail
  rw [← HWQ.out, ← HBE.out]
  go_upto_region 4 with (refine wpList_store_row rfl 42 _ _ rfl W.heap.size tabV rfl rfl 42 nilV HNI.out (by kernel_rfl) rfl (by rw [← Array.all_toList]; rfl) ?_)
  go_frame
  rw [← HWQ2.out, ← HBFE.out]
  go_wp2_with fail
  go_region_law ((go_simp; go_at_call 19; refine HCL.out.mono ?_; rintro e w3 hm; have HM := Lib.hid hm; have HA3 := Lib.hid (hm.heap HA2.out (fun hf => by have := HH.out.foot_lt hf; have := HBE.out; omega)); (obtain ⟨z0, z1, z2, z3, z4⟩ := cells5_31 HA3.out); have f0 := frz31 HA3.out 0; have f1 := frz31 HA3.out 1; have f2 := frz31 HA3.out 2; have f3 := frz31 HA3.out 3; have f4 := frz31 HA3.out 4; (obtain ⟨he, -⟩ := hm); have he : e = .returned (.agg #[.int .i64 (pu31 B L r s.data.toList o l), .slice none 0 0, .slice none 0 0, .int .i64 0, .bool false]) := he; subst he))
  all_goals
    obtain ⟨cr, hcr⟩ : ∃ c, c = pu31 B L r s.data.toList o l := ⟨_, rfl⟩
    have HCQ := Lib.hid hcr
    rw [← hcr]
    clear hcr
    go_wp2_with fail
    obtain ⟨W4, hW4⟩ : ∃ W4, W4 = ((((w3.setCell ⟨bA, 0, none⟩ (.int .i64 cr)).setCell ⟨bA, 1, none⟩ (.slice none 0 0)).setCell ⟨bA, 2, none⟩ (.slice none 0 0)).setCell ⟨bA, 3, none⟩ (.int .i64 0)).setCell ⟨bA, 4, none⟩ (.bool false) := ⟨_, rfl⟩
    obtain ⟨hb4, hk4⟩ := ansSet31 HA3.out cr (.slice none 0 0) (.slice none 0 0) 0 false W4 hW4
    rw [← hW4]
    obtain ⟨r0, r1, r2, r3, r4⟩ := cells5_31 hb4
    have HK4 := Lib.hid hk4
    clear hW4 hb4 hk4 z0 z1 z2 z3 z4 f0 f1 f2 f3 f4
    refine bodyPost_ret (v := .agg #[.int .i64 cr, .slice none 0 0, .slice none 0 0, .int .i64 0, .bool false]) (by simp [results, Tryz.results4, go_sem, r0, r1, r2, r3, r4]) rfl ?_
    have hbe := HBE.out
    have hsz := HSZ.out
    have hsd : W2.drew.heap.size = W2.heap.size := rfl
    exact (show PuE g bm I B L r s.data.toList o l w (.returned (ansV cr)) W4 from PuE.wrap HH.out HKW2.out.drew (by omega) (by omega) (by rw [HCQ.out]; exact HM.out) HK4.out)
set_option maxHeartbeats 8000000 in
theorem Do31_stat (w : World) (g bm : Nat) (I B : Int) (L : List It) (r : It) (s q : ByteArray) (o n : Int) (d : Value) (h : TrAt w g bm I B L) (hr : atT L [47] = some r) (hs : s.size ≤ 1000000) (hlg : Lng w) :
    Calls Tryz.prog 4 #[.pointer (some ⟨g, 0, none⟩), callV 10 s q o n d] w (StE L r s.data.toList w) := by
  obtain ⟨W, hW⟩ : ∃ W, W = (w.alloc (.cells #[.int .i64 10, .string s, .string q, .int .i64 o, .int .i64 n, d] 24)).alloc (.cells #[.int .i64 0, .slice none 0 0, .slice none 0 0, .int .i64 0, .bool false] 29) := ⟨_, rfl⟩
  obtain ⟨HKW, HBC, HBA, HWS⟩ := callAns31 w 10 s q o n d W hW
  obtain ⟨HKF, HBF, HSF⟩ := tab_alloc31 W
  have HKW2 := Lib.hid (HKW.out.trans HKF.out (fun _ _ h => h))
  obtain ⟨W2, hW2⟩ : ∃ W2, W2 = (W.alloc (.cells nilV 42)).setRow W.heap.size tabV := ⟨_, rfl⟩
  rw [← hW2] at HKF HBF HKW2 HSF
  have HSZ : Hid (W2.heap.size = w.heap.size + 3) := Lib.hid (by have := HWS.out; have := HSF.out; omega)
  have HCL : Hid (Calls Tryz.prog 23 #[.pointer (some ⟨g, 0, none⟩), .agg #[.int .i64 10, .string s, .string q, .int .i64 o, .int .i64 n, d]] W2.drew (StE L r s.data.toList W2.drew)) := Lib.hid (stat31_any W2.drew g bm I B L r 10 s q o n d (h.no (HKW2.out.drew)) hr hs (hlg.no HKW2.out.drew))
  have HC2 := Lib.hid (HKF.out.heap (fun h => h) HBC.out)
  have HA2 := Lib.hid (HKF.out.heap (fun h => h) HBA.out)
  have HH := Lib.hid h
  obtain ⟨c0, c1, c2, c3, c4, c5⟩ := cells6_31 HC2.out
  have hcf : W2.cell? ⟨W.heap.size, 10, none⟩ = some (.func (.func 23) #[] #[]) := cell_of_row _ _ 10 _ _ _ HBF.out
  obtain ⟨bA, hbA⟩ : ∃ b, b = w.heap.size + 1 := ⟨_, rfl⟩
  rw [← hbA] at HA2
  have HBE := Lib.hid hbA
  have HWQ := Lib.hid hW
  unfold nilV at hW2
  have HWQ2 := Lib.hid hW2
  have HNI := Lib.hid (heap_alloc_new W (.cells nilV 42))
  obtain ⟨bF, hbF⟩ : ∃ b, b = W.heap.size := ⟨_, rfl⟩
  rw [← hbF] at hcf
  have HBFE := Lib.hid hbF
  clear h hr hs hlg hbA hW hW2 hbF
  unfold callV
  go_enter Tryz.func4, Tryz.ntmps4
  go_upto_region 3 with fail
  rw [← HWQ.out, ← HBE.out]
  go_upto_region 4 with (refine wpList_store_row rfl 42 _ _ rfl W.heap.size tabV rfl rfl 42 nilV HNI.out (by kernel_rfl) rfl (by rw [← Array.all_toList]; rfl) ?_)
  go_frame
  rw [← HWQ2.out, ← HBFE.out]
  go_wp2_with fail
  go_region_law ((go_simp; go_at_call 23; refine HCL.out.mono ?_; rintro e w3 hm; have HM := Lib.hid hm; have HA3 := Lib.hid (hm.heap HA2.out (fun hf => by have := HH.out.foot_lt hf; have := HBE.out; omega)); (obtain ⟨z0, z1, z2, z3, z4⟩ := cells5_31 HA3.out); have f0 := frz31 HA3.out 0; have f1 := frz31 HA3.out 1; have f2 := frz31 HA3.out 2; have f3 := frz31 HA3.out 3; have f4 := frz31 HA3.out 4; (obtain ⟨he, -⟩ := hm); have he : e = .returned (.agg #[.int .i64 (st31 L r s.data.toList).1, .slice none 0 0, .slice none 0 0, .int .i64 (st31 L r s.data.toList).2.1, .bool (st31 L r s.data.toList).2.2]) := he; subst he))
  all_goals
    obtain ⟨cr, hcr⟩ : ∃ c, c = (st31 L r s.data.toList).1 := ⟨_, rfl⟩
    have HCQ := Lib.hid hcr
    obtain ⟨sz, hsz⟩ : ∃ c, c = (st31 L r s.data.toList).2.1 := ⟨_, rfl⟩
    obtain ⟨dr, hdr⟩ : ∃ c, c = (st31 L r s.data.toList).2.2 := ⟨_, rfl⟩
    have HSQ := Lib.hid hsz
    have HDQ := Lib.hid hdr
    rw [← hsz, ← hdr]
    clear hsz hdr
    rw [← hcr]
    clear hcr
    go_wp2_with fail
    obtain ⟨W4, hW4⟩ : ∃ W4, W4 = ((((w3.setCell ⟨bA, 0, none⟩ (.int .i64 cr)).setCell ⟨bA, 1, none⟩ (.slice none 0 0)).setCell ⟨bA, 2, none⟩ (.slice none 0 0)).setCell ⟨bA, 3, none⟩ (.int .i64 sz)).setCell ⟨bA, 4, none⟩ (.bool dr) := ⟨_, rfl⟩
    obtain ⟨hb4, hk4⟩ := ansSet31 HA3.out cr (.slice none 0 0) (.slice none 0 0) sz dr W4 hW4
    rw [← hW4]
    obtain ⟨r0, r1, r2, r3, r4⟩ := cells5_31 hb4
    have HK4 := Lib.hid hk4
    clear hW4 hb4 hk4 z0 z1 z2 z3 z4 f0 f1 f2 f3 f4
    refine bodyPost_ret (v := .agg #[.int .i64 cr, .slice none 0 0, .slice none 0 0, .int .i64 sz, .bool dr]) (by simp [results, Tryz.results4, go_sem, r0, r1, r2, r3, r4]) rfl ?_
    have hbe := HBE.out
    have hsz := HSZ.out
    have hsd : W2.drew.heap.size = W2.heap.size := rfl
    refine StE.wrap HKW2.out.drew (by omega) (w3 := w3) ?_ HK4.out
    rw [HCQ.out, HSQ.out, HDQ.out]
    exact ⟨rfl, HM.out.2⟩
end Go.Proofs.YtokafgleejcbgaaGreatDoor
