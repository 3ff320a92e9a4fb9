/-
  Package letter: what a part's right and drop do, for the parts that an update's letters have.
-/
import Derived.Test.YtabmipjpgofgpaaGreatDoorLtrF
namespace Go.Proofs.YtabmipjpgofgpaaGreatDoor
open Go.RowKit
set_option linter.unusedVariables false
set_option linter.unusedSimpArgs false

set_option maxRecDepth 100000 in
set_option maxHeartbeats 1000000 in
theorem right_1 (w : World) (g s : Nat) (bm : Nat) (x : Int) (hm : OneAt 3 bm (.int .i64 3) w) (h1 : OneAt 197 s (.func (.func 293) #[] #[pb bm]) w) (h4 : OneAt 301 (s + 3) (.func (.func 228) #[] #[]) w) (hc : w.cell? ⟨g, 3, none⟩ = some (.int .i64 x)) : Calls Tryz.prog 346 #[pb g, pb s, pb (s + 3)] w (YesNoK (decide (0 ≤ x) && decide (x ≤ 3)) w) := by
  have HCK := Lib.hid (fun w' (hk : Kept NoB w w') => uptoInt_any w' x 3 bm (hm.no hk).cell)
  have HTEN : Hid (∀ w', Kept NoB w w' → w'.cell? ⟨s, 0, none⟩ = some (.func (.func 293) #[] #[pb bm]) ∧ w'.cell? ⟨s + 3, 0, none⟩ = some (.func (.func 228) #[] #[]) ∧ w'.cell? ⟨g, 3, none⟩ = some (.int .i64 x)) := Lib.hid (fun w' hk => ⟨(h1.no hk).cell, (h4.no hk).cell, hk.cell (p := ⟨g, 3, none⟩) (fun h => h) hc⟩)
  have HTO := Lib.hid (fun w' => to_partAt_2 w' g)
  have hent1 : ∀ (args : Array Value) (w : World), Sem.run Tryz.prog (callFunc 293 args) w = .ok (.enter 293 args) w := ent_upto_int
  have hent2 : ∀ (args : Array Value) (w : World), Sem.run Tryz.prog (callFunc 228 args) w = .ok (.enter 228 args) w := ent_partAt_2
  clear h1 h4 hc hm
  go_enter Tryz.func346, Tryz.ntmps346
  go_wp2_with fail
  have HKe := Lib.hid (Kept.refl NoB w).drew
  have HT := Lib.hid (HTEN.out _ HKe.out)
  go_region_held3 (fun w' => w'.cell? ⟨s, 0, none⟩ = some (.func (.func 293) #[] #[pb bm]) ∧ w'.cell? ⟨s + 3, 0, none⟩ = some (.func (.func 228) #[] #[]) ∧ w'.cell? ⟨g, 3, none⟩ = some (.int .i64 x)) (with_reducible exact HT.out)
    (first
      | (go_at_call 228; (with_reducible refine (HTO.out _).mono ?_); rintro e w1 ⟨rfl, rfl⟩)
      | (go_at_call 293; (with_reducible refine (HCK.out _ HKe.out).mono ?_); rintro e w1 ⟨rfl, rfl⟩))
  go_wp2
  go_ret
  exact ⟨rfl, HKe.out⟩
set_option maxRecDepth 100000 in
theorem drop_1 (w : World) (g ba : Nat) (cs : Array Value) (h4 : OneAt 301 ba (.func (.func 228) #[] #[]) w) (hc : w.heap[g]? = some (.cells cs 68 (0, 0))) (hl : cs.size = 25) : Calls Tryz.prog 349 #[pb g, pb ba] w fun e w' => e = .returned (.tuple #[]) ∧ w' = w.setCell ⟨g, 3, none⟩ (.int .i64 0) := by
  have HTO := Lib.hid (fun w' => to_partAt_2 w' g)
  have hent2 : ∀ (args : Array Value) (w : World), Sem.run Tryz.prog (callFunc 228 args) w = .ok (.enter 228 args) w := ent_partAt_2
  have c4 := h4.cell
  have cg : w.cell? ⟨g, 3, none⟩ = some (cs[3]'(by omega)) := by rw [cell_of_row _ _ _ _ _ _ hc]; exact Array.getElem?_eq_getElem (by omega)
  have zg := blkU_frozen hc 3
  clear h4 hc
  go_enter Tryz.func349, Tryz.ntmps349
  go_wp2_with fail
  refine (HTO.out _).mono ?_
  rintro e w1 ⟨rfl, rfl⟩
  go_wp2
  go_end0
  exact ⟨rfl, rfl⟩
set_option maxRecDepth 100000 in
set_option maxHeartbeats 1000000 in
theorem right_2 (w : World) (g s : Nat) (x : Int) (h1 : OneAt 186 s (.func (.func 229) #[] #[]) w) (h4 : OneAt 297 (s + 3) (.func (.func 230) #[] #[]) w) (hc : w.cell? ⟨g, 4, none⟩ = some (.int .u64 x)) : Calls Tryz.prog 341 #[pb g, pb s, pb (s + 3)] w (YesNoK (decide (1 ≤ x)) w) := by
  have HCK := Lib.hid (fun w' (hk : Kept NoB w w') => isPositive_any w' x)
  have HTEN : Hid (∀ w', Kept NoB w w' → w'.cell? ⟨s, 0, none⟩ = some (.func (.func 229) #[] #[]) ∧ w'.cell? ⟨s + 3, 0, none⟩ = some (.func (.func 230) #[] #[]) ∧ w'.cell? ⟨g, 4, none⟩ = some (.int .u64 x)) := Lib.hid (fun w' hk => ⟨(h1.no hk).cell, (h4.no hk).cell, hk.cell (p := ⟨g, 4, none⟩) (fun h => h) hc⟩)
  have HTO := Lib.hid (fun w' => to_partAt_3 w' g)
  have hent1 : ∀ (args : Array Value) (w : World), Sem.run Tryz.prog (callFunc 229 args) w = .ok (.enter 229 args) w := ent_isPositive
  have hent2 : ∀ (args : Array Value) (w : World), Sem.run Tryz.prog (callFunc 230 args) w = .ok (.enter 230 args) w := ent_partAt_3
  clear h1 h4 hc
  go_enter Tryz.func341, Tryz.ntmps341
  go_wp2_with fail
  have HKe := Lib.hid (Kept.refl NoB w).drew
  have HT := Lib.hid (HTEN.out _ HKe.out)
  go_region_held3 (fun w' => w'.cell? ⟨s, 0, none⟩ = some (.func (.func 229) #[] #[]) ∧ w'.cell? ⟨s + 3, 0, none⟩ = some (.func (.func 230) #[] #[]) ∧ w'.cell? ⟨g, 4, none⟩ = some (.int .u64 x)) (with_reducible exact HT.out)
    (first
      | (go_at_call 230; (with_reducible refine (HTO.out _).mono ?_); rintro e w1 ⟨rfl, rfl⟩)
      | (go_at_call 229; (with_reducible refine (HCK.out _ HKe.out).mono ?_); rintro e w1 ⟨rfl, rfl⟩))
  go_wp2
  go_ret
  exact ⟨rfl, HKe.out⟩
set_option maxRecDepth 100000 in
theorem drop_2 (w : World) (g ba : Nat) (cs : Array Value) (h4 : OneAt 297 ba (.func (.func 230) #[] #[]) w) (hc : w.heap[g]? = some (.cells cs 68 (0, 0))) (hl : cs.size = 25) : Calls Tryz.prog 344 #[pb g, pb ba] w fun e w' => e = .returned (.tuple #[]) ∧ w' = w.setCell ⟨g, 4, none⟩ (.int .u64 0) := by
  have HTO := Lib.hid (fun w' => to_partAt_3 w' g)
  have hent2 : ∀ (args : Array Value) (w : World), Sem.run Tryz.prog (callFunc 230 args) w = .ok (.enter 230 args) w := ent_partAt_3
  have c4 := h4.cell
  have cg : w.cell? ⟨g, 4, none⟩ = some (cs[4]'(by omega)) := by rw [cell_of_row _ _ _ _ _ _ hc]; exact Array.getElem?_eq_getElem (by omega)
  have zg := blkU_frozen hc 4
  clear h4 hc
  go_enter Tryz.func344, Tryz.ntmps344
  go_wp2_with fail
  refine (HTO.out _).mono ?_
  rintro e w1 ⟨rfl, rfl⟩
  go_wp2
  go_end0
  exact ⟨rfl, rfl⟩
set_option maxRecDepth 100000 in
set_option maxHeartbeats 1000000 in
theorem right_3 (w : World) (g s : Nat) (x : Int) (h1 : OneAt 186 s (.func (.func 231) #[] #[]) w) (h4 : OneAt 297 (s + 3) (.func (.func 232) #[] #[]) w) (hc : w.cell? ⟨g, 7, none⟩ = some (.int .u64 x)) : Calls Tryz.prog 341 #[pb g, pb s, pb (s + 3)] w (YesNoK (true) w) := by
  have HCK := Lib.hid (fun w' (hk : Kept NoB w w') => anyU64_any w' x)
  have HTEN : Hid (∀ w', Kept NoB w w' → w'.cell? ⟨s, 0, none⟩ = some (.func (.func 231) #[] #[]) ∧ w'.cell? ⟨s + 3, 0, none⟩ = some (.func (.func 232) #[] #[]) ∧ w'.cell? ⟨g, 7, none⟩ = some (.int .u64 x)) := Lib.hid (fun w' hk => ⟨(h1.no hk).cell, (h4.no hk).cell, hk.cell (p := ⟨g, 7, none⟩) (fun h => h) hc⟩)
  have HTO := Lib.hid (fun w' => to_partAt_4 w' g)
  have hent1 : ∀ (args : Array Value) (w : World), Sem.run Tryz.prog (callFunc 231 args) w = .ok (.enter 231 args) w := ent_any_u64
  have hent2 : ∀ (args : Array Value) (w : World), Sem.run Tryz.prog (callFunc 232 args) w = .ok (.enter 232 args) w := ent_partAt_4
  clear h1 h4 hc
  go_enter Tryz.func341, Tryz.ntmps341
  go_wp2_with fail
  have HKe := Lib.hid (Kept.refl NoB w).drew
  have HT := Lib.hid (HTEN.out _ HKe.out)
  go_region_held3 (fun w' => w'.cell? ⟨s, 0, none⟩ = some (.func (.func 231) #[] #[]) ∧ w'.cell? ⟨s + 3, 0, none⟩ = some (.func (.func 232) #[] #[]) ∧ w'.cell? ⟨g, 7, none⟩ = some (.int .u64 x)) (with_reducible exact HT.out)
    (first
      | (go_at_call 232; (with_reducible refine (HTO.out _).mono ?_); rintro e w1 ⟨rfl, rfl⟩)
      | (go_at_call 231; (with_reducible refine (HCK.out _ HKe.out).mono ?_); rintro e w1 ⟨rfl, rfl⟩))
  go_wp2
  go_ret
  exact ⟨rfl, HKe.out⟩
set_option maxRecDepth 100000 in
theorem drop_3 (w : World) (g ba : Nat) (cs : Array Value) (h4 : OneAt 297 ba (.func (.func 232) #[] #[]) w) (hc : w.heap[g]? = some (.cells cs 68 (0, 0))) (hl : cs.size = 25) : Calls Tryz.prog 344 #[pb g, pb ba] w fun e w' => e = .returned (.tuple #[]) ∧ w' = w.setCell ⟨g, 7, none⟩ (.int .u64 0) := by
  have HTO := Lib.hid (fun w' => to_partAt_4 w' g)
  have hent2 : ∀ (args : Array Value) (w : World), Sem.run Tryz.prog (callFunc 232 args) w = .ok (.enter 232 args) w := ent_partAt_4
  have c4 := h4.cell
  have cg : w.cell? ⟨g, 7, none⟩ = some (cs[7]'(by omega)) := by rw [cell_of_row _ _ _ _ _ _ hc]; exact Array.getElem?_eq_getElem (by omega)
  have zg := blkU_frozen hc 7
  clear h4 hc
  go_enter Tryz.func344, Tryz.ntmps344
  go_wp2_with fail
  refine (HTO.out _).mono ?_
  rintro e w1 ⟨rfl, rfl⟩
  go_wp2
  go_end0
  exact ⟨rfl, rfl⟩
set_option maxRecDepth 100000 in
set_option maxHeartbeats 1000000 in
theorem right_4 (w : World) (g s : Nat) (x : Int) (h1 : OneAt 186 s (.func (.func 231) #[] #[]) w) (h4 : OneAt 297 (s + 3) (.func (.func 233) #[] #[]) w) (hc : w.cell? ⟨g, 8, none⟩ = some (.int .u64 x)) : Calls Tryz.prog 341 #[pb g, pb s, pb (s + 3)] w (YesNoK (true) w) := by
  have HCK := Lib.hid (fun w' (hk : Kept NoB w w') => anyU64_any w' x)
  have HTEN : Hid (∀ w', Kept NoB w w' → w'.cell? ⟨s, 0, none⟩ = some (.func (.func 231) #[] #[]) ∧ w'.cell? ⟨s + 3, 0, none⟩ = some (.func (.func 233) #[] #[]) ∧ w'.cell? ⟨g, 8, none⟩ = some (.int .u64 x)) := Lib.hid (fun w' hk => ⟨(h1.no hk).cell, (h4.no hk).cell, hk.cell (p := ⟨g, 8, none⟩) (fun h => h) hc⟩)
  have HTO := Lib.hid (fun w' => to_partAt_5 w' g)
  have hent1 : ∀ (args : Array Value) (w : World), Sem.run Tryz.prog (callFunc 231 args) w = .ok (.enter 231 args) w := ent_any_u64
  have hent2 : ∀ (args : Array Value) (w : World), Sem.run Tryz.prog (callFunc 233 args) w = .ok (.enter 233 args) w := ent_partAt_5
  clear h1 h4 hc
  go_enter Tryz.func341, Tryz.ntmps341
  go_wp2_with fail
  have HKe := Lib.hid (Kept.refl NoB w).drew
  have HT := Lib.hid (HTEN.out _ HKe.out)
  go_region_held3 (fun w' => w'.cell? ⟨s, 0, none⟩ = some (.func (.func 231) #[] #[]) ∧ w'.cell? ⟨s + 3, 0, none⟩ = some (.func (.func 233) #[] #[]) ∧ w'.cell? ⟨g, 8, none⟩ = some (.int .u64 x)) (with_reducible exact HT.out)
    (first
      | (go_at_call 233; (with_reducible refine (HTO.out _).mono ?_); rintro e w1 ⟨rfl, rfl⟩)
      | (go_at_call 231; (with_reducible refine (HCK.out _ HKe.out).mono ?_); rintro e w1 ⟨rfl, rfl⟩))
  go_wp2
  go_ret
  exact ⟨rfl, HKe.out⟩
set_option maxRecDepth 100000 in
theorem drop_4 (w : World) (g ba : Nat) (cs : Array Value) (h4 : OneAt 297 ba (.func (.func 233) #[] #[]) w) (hc : w.heap[g]? = some (.cells cs 68 (0, 0))) (hl : cs.size = 25) : Calls Tryz.prog 344 #[pb g, pb ba] w fun e w' => e = .returned (.tuple #[]) ∧ w' = w.setCell ⟨g, 8, none⟩ (.int .u64 0) := by
  have HTO := Lib.hid (fun w' => to_partAt_5 w' g)
  have hent2 : ∀ (args : Array Value) (w : World), Sem.run Tryz.prog (callFunc 233 args) w = .ok (.enter 233 args) w := ent_partAt_5
  have c4 := h4.cell
  have cg : w.cell? ⟨g, 8, none⟩ = some (cs[8]'(by omega)) := by rw [cell_of_row _ _ _ _ _ _ hc]; exact Array.getElem?_eq_getElem (by omega)
  have zg := blkU_frozen hc 8
  clear h4 hc
  go_enter Tryz.func344, Tryz.ntmps344
  go_wp2_with fail
  refine (HTO.out _).mono ?_
  rintro e w1 ⟨rfl, rfl⟩
  go_wp2
  go_end0
  exact ⟨rfl, rfl⟩
set_option maxRecDepth 100000 in
set_option maxHeartbeats 1000000 in
theorem right_14 (w : World) (g s : Nat) (x : Value) (l : List Up) (F : Nat → Prop) (hx : UsAt w F x l) (h1 : OneAt 328 s (.func (.func 258) #[] #[]) w) (h4 : OneAt 332 (s + 3) (.func (.func 261) #[] #[]) w) (hc : w.cell? ⟨g, 23, none⟩ = some x) : Calls Tryz.prog 318 #[pb g, pb s, pb (s + 3)] w (YesNoK (areUs l) w) := by
  have HCK := Lib.hid (fun w' (hk : Kept NoB w w') => areUpdates_any w' x l F (hx.no hk))
  obtain ⟨xa, xc, rfl⟩ := hx.form
  have HTEN : Hid (∀ w', Kept NoB w w' → w'.cell? ⟨s, 0, none⟩ = some (.func (.func 258) #[] #[]) ∧ w'.cell? ⟨s + 3, 0, none⟩ = some (.func (.func 261) #[] #[]) ∧ w'.cell? ⟨g, 23, none⟩ = some (.slice xa l.length xc)) := Lib.hid (fun w' hk => ⟨(h1.no hk).cell, (h4.no hk).cell, hk.cell (p := ⟨g, 23, none⟩) (fun h => h) hc⟩)
  have HTO := Lib.hid (fun w' => to_partAt_14 w' g)
  have hent1 : ∀ (args : Array Value) (w : World), Sem.run Tryz.prog (callFunc 258 args) w = .ok (.enter 258 args) w := ent_areUpdates
  have hent2 : ∀ (args : Array Value) (w : World), Sem.run Tryz.prog (callFunc 261 args) w = .ok (.enter 261 args) w := ent_partAt_14
  clear h1 h4 hc hx
  go_enter Tryz.func318, Tryz.ntmps318
  go_wp2_with fail
  have HKe := Lib.hid (Kept.refl NoB w).drew
  have HT := Lib.hid (HTEN.out _ HKe.out)
  go_region_held3 (fun w' => w'.cell? ⟨s, 0, none⟩ = some (.func (.func 258) #[] #[]) ∧ w'.cell? ⟨s + 3, 0, none⟩ = some (.func (.func 261) #[] #[]) ∧ w'.cell? ⟨g, 23, none⟩ = some (.slice xa l.length xc)) (with_reducible exact HT.out)
    (first
      | (go_at_call 261; (with_reducible refine (HTO.out _).mono ?_); rintro e w1 ⟨rfl, rfl⟩)
      | (go_at_call 258; (with_reducible refine (HCK.out _ HKe.out).mono ?_); rintro e w1 ⟨rfl, hk1⟩; replace HKe := Lib.hid (HKe.out.trans hk1 (fun _ _ h => h)); replace HT := Lib.hid (HTEN.out _ HKe.out); clear hk1))
  go_wp2
  go_ret
  exact ⟨rfl, HKe.out⟩
set_option maxRecDepth 100000 in
theorem drop_14 (w : World) (g ba : Nat) (cs : Array Value) (h4 : OneAt 332 ba (.func (.func 261) #[] #[]) w) (hc : w.heap[g]? = some (.cells cs 68 (0, 0))) (hl : cs.size = 25) : Calls Tryz.prog 321 #[pb g, pb ba] w fun e w' => e = .returned (.tuple #[]) ∧ w' = w.setCell ⟨g, 23, none⟩ (.slice none 0 0) := by
  have HTO := Lib.hid (fun w' => to_partAt_14 w' g)
  have hent2 : ∀ (args : Array Value) (w : World), Sem.run Tryz.prog (callFunc 261 args) w = .ok (.enter 261 args) w := ent_partAt_14
  have c4 := h4.cell
  have cg : w.cell? ⟨g, 23, none⟩ = some (cs[23]'(by omega)) := by rw [cell_of_row _ _ _ _ _ _ hc]; exact Array.getElem?_eq_getElem (by omega)
  have zg := blkU_frozen hc 23
  clear h4 hc
  go_enter Tryz.func321, Tryz.ntmps321
  go_wp2_with fail
  refine (HTO.out _).mono ?_
  rintro e w1 ⟨rfl, rfl⟩
  go_wp2
  go_end0
  exact ⟨rfl, rfl⟩
set_option maxRecDepth 100000 in
set_option maxHeartbeats 1000000 in
theorem right_15 (w : World) (g s : Nat) (x : Value) (l : List Up) (F : Nat → Prop) (hx : UsAt w F x l) (h1 : OneAt 328 s (.func (.func 262) #[] #[]) w) (h4 : OneAt 332 (s + 3) (.func (.func 263) #[] #[]) w) (hc : w.cell? ⟨g, 23, none⟩ = some x) : Calls Tryz.prog 318 #[pb g, pb s, pb (s + 3)] w (YesNoK (areReq l) w) := by
  have HCK := Lib.hid (fun w' (hk : Kept NoB w w') => areRequest_any w' x l F (hx.no hk))
  obtain ⟨xa, xc, rfl⟩ := hx.form
  have HTEN : Hid (∀ w', Kept NoB w w' → w'.cell? ⟨s, 0, none⟩ = some (.func (.func 262) #[] #[]) ∧ w'.cell? ⟨s + 3, 0, none⟩ = some (.func (.func 263) #[] #[]) ∧ w'.cell? ⟨g, 23, none⟩ = some (.slice xa l.length xc)) := Lib.hid (fun w' hk => ⟨(h1.no hk).cell, (h4.no hk).cell, hk.cell (p := ⟨g, 23, none⟩) (fun h => h) hc⟩)
  have HTO := Lib.hid (fun w' => to_partAt_15 w' g)
  have hent1 : ∀ (args : Array Value) (w : World), Sem.run Tryz.prog (callFunc 262 args) w = .ok (.enter 262 args) w := ent_areRequest
  have hent2 : ∀ (args : Array Value) (w : World), Sem.run Tryz.prog (callFunc 263 args) w = .ok (.enter 263 args) w := ent_partAt_15
  clear h1 h4 hc hx
  go_enter Tryz.func318, Tryz.ntmps318
  go_wp2_with fail
  have HKe := Lib.hid (Kept.refl NoB w).drew
  have HT := Lib.hid (HTEN.out _ HKe.out)
  go_region_held3 (fun w' => w'.cell? ⟨s, 0, none⟩ = some (.func (.func 262) #[] #[]) ∧ w'.cell? ⟨s + 3, 0, none⟩ = some (.func (.func 263) #[] #[]) ∧ w'.cell? ⟨g, 23, none⟩ = some (.slice xa l.length xc)) (with_reducible exact HT.out)
    (first
      | (go_at_call 263; (with_reducible refine (HTO.out _).mono ?_); rintro e w1 ⟨rfl, rfl⟩)
      | (go_at_call 262; (with_reducible refine (HCK.out _ HKe.out).mono ?_); rintro e w1 ⟨rfl, hk1⟩; replace HKe := Lib.hid (HKe.out.trans hk1 (fun _ _ h => h)); replace HT := Lib.hid (HTEN.out _ HKe.out); clear hk1))
  go_wp2
  go_ret
  exact ⟨rfl, HKe.out⟩
set_option maxRecDepth 100000 in
theorem drop_15 (w : World) (g ba : Nat) (cs : Array Value) (h4 : OneAt 332 ba (.func (.func 263) #[] #[]) w) (hc : w.heap[g]? = some (.cells cs 68 (0, 0))) (hl : cs.size = 25) : Calls Tryz.prog 321 #[pb g, pb ba] w fun e w' => e = .returned (.tuple #[]) ∧ w' = w.setCell ⟨g, 23, none⟩ (.slice none 0 0) := by
  have HTO := Lib.hid (fun w' => to_partAt_15 w' g)
  have hent2 : ∀ (args : Array Value) (w : World), Sem.run Tryz.prog (callFunc 263 args) w = .ok (.enter 263 args) w := ent_partAt_15
  have c4 := h4.cell
  have cg : w.cell? ⟨g, 23, none⟩ = some (cs[23]'(by omega)) := by rw [cell_of_row _ _ _ _ _ _ hc]; exact Array.getElem?_eq_getElem (by omega)
  have zg := blkU_frozen hc 23
  clear h4 hc
  go_enter Tryz.func321, Tryz.ntmps321
  go_wp2_with fail
  refine (HTO.out _).mono ?_
  rintro e w1 ⟨rfl, rfl⟩
  go_wp2
  go_end0
  exact ⟨rfl, rfl⟩
end Go.Proofs.YtabmipjpgofgpaaGreatDoor
