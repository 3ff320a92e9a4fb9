/-
  Package letter: what a part's right and drop do, for the parts that an update's letters have.
-/
import Derived.Test.YtpdkmalfojeghaaGreatDoorLtrF
namespace Go.Proofs.YtpdkmalfojeghaaGreatDoor
open Go.RowKit
set_option linter.unusedVariables false
set_option linter.unusedSimpArgs false

set_option maxRecDepth 100000 in
set_option maxHeartbeats 1000000 in
theorem right_1 (w : World) (g s : Nat) (bm : Nat) (x : Int) (hm : OneAt 3 bm (.int .i64 3) w) (h1 : OneAt 40 s (.func (.func 243) #[] #[pb bm]) w) (h4 : OneAt 282 (s + 3) (.func (.func 181) #[] #[]) w) (hc : w.cell? ⟨g, 3, none⟩ = some (.int .i64 x)) : Calls Tryz.prog 303 #[pb g, pb s, pb (s + 3)] w (YesNoK (decide (0 ≤ x) && decide (x ≤ 3)) w) := by
  have HCK := Lib.hid (fun w' (hk : Kept NoB w w') => uptoInt_any w' x 3 bm (hm.no hk).cell)
  have HTEN : Hid (∀ w', Kept NoB w w' → w'.cell? ⟨s, 0, none⟩ = some (.func (.func 243) #[] #[pb bm]) ∧ w'.cell? ⟨s + 3, 0, none⟩ = some (.func (.func 181) #[] #[]) ∧ w'.cell? ⟨g, 3, none⟩ = some (.int .i64 x)) := Lib.hid (fun w' hk => ⟨(h1.no hk).cell, (h4.no hk).cell, hk.cell (p := ⟨g, 3, none⟩) (fun h => h) hc⟩)
  have HTO := Lib.hid (fun w' => to_partAt_2 w' g)
  have hent1 : ∀ (args : Array Value) (w : World), Sem.run Tryz.prog (callFunc 243 args) w = .ok (.enter 243 args) w := ent_upto_int
  have hent2 : ∀ (args : Array Value) (w : World), Sem.run Tryz.prog (callFunc 181 args) w = .ok (.enter 181 args) w := ent_partAt_2
  clear h1 h4 hc hm
  go_enter Tryz.func303, Tryz.ntmps303
  go_wp2_with fail
  have HKe := Lib.hid (Kept.refl NoB w).drew
  have HT := Lib.hid (HTEN.out _ HKe.out)
  go_region_held3 (fun w' => w'.cell? ⟨s, 0, none⟩ = some (.func (.func 243) #[] #[pb bm]) ∧ w'.cell? ⟨s + 3, 0, none⟩ = some (.func (.func 181) #[] #[]) ∧ w'.cell? ⟨g, 3, none⟩ = some (.int .i64 x)) (with_reducible exact HT.out)
    (first
      | (go_at_call 181; (with_reducible refine (HTO.out _).mono ?_); rintro e w1 ⟨rfl, rfl⟩)
      | (go_at_call 243; (with_reducible refine (HCK.out _ HKe.out).mono ?_); rintro e w1 ⟨rfl, rfl⟩))
  go_wp2
  go_ret
  exact ⟨rfl, HKe.out⟩
set_option maxRecDepth 100000 in
theorem drop_1 (w : World) (g ba : Nat) (cs : Array Value) (h4 : OneAt 282 ba (.func (.func 181) #[] #[]) w) (hc : w.heap[g]? = some (.cells cs 34 (0, 0))) (hl : cs.size = 25) : Calls Tryz.prog 306 #[pb g, pb ba] w fun e w' => e = .returned (.tuple #[]) ∧ w' = w.setCell ⟨g, 3, none⟩ (.int .i64 0) := by
  have HTO := Lib.hid (fun w' => to_partAt_2 w' g)
  have hent2 : ∀ (args : Array Value) (w : World), Sem.run Tryz.prog (callFunc 181 args) w = .ok (.enter 181 args) w := ent_partAt_2
  have c4 := h4.cell
  have cg : w.cell? ⟨g, 3, none⟩ = some (cs[3]'(by omega)) := by rw [cell_of_row _ _ _ _ _ _ hc]; exact Array.getElem?_eq_getElem (by omega)
  have zg := blkU_frozen hc 3
  clear h4 hc
  go_enter Tryz.func306, Tryz.ntmps306
  go_wp2_with fail
  refine (HTO.out _).mono ?_
  rintro e w1 ⟨rfl, rfl⟩
  go_wp2
  go_end0
  exact ⟨rfl, rfl⟩
set_option maxRecDepth 100000 in
set_option maxHeartbeats 1000000 in
theorem right_2 (w : World) (g s : Nat) (x : Int) (h1 : OneAt 195 s (.func (.func 182) #[] #[]) w) (h4 : OneAt 278 (s + 3) (.func (.func 183) #[] #[]) w) (hc : w.cell? ⟨g, 4, none⟩ = some (.int .u64 x)) : Calls Tryz.prog 298 #[pb g, pb s, pb (s + 3)] w (YesNoK (decide (1 ≤ x)) w) := by
  have HCK := Lib.hid (fun w' (hk : Kept NoB w w') => isPositive_any w' x)
  have HTEN : Hid (∀ w', Kept NoB w w' → w'.cell? ⟨s, 0, none⟩ = some (.func (.func 182) #[] #[]) ∧ w'.cell? ⟨s + 3, 0, none⟩ = some (.func (.func 183) #[] #[]) ∧ w'.cell? ⟨g, 4, none⟩ = some (.int .u64 x)) := Lib.hid (fun w' hk => ⟨(h1.no hk).cell, (h4.no hk).cell, hk.cell (p := ⟨g, 4, none⟩) (fun h => h) hc⟩)
  have HTO := Lib.hid (fun w' => to_partAt_3 w' g)
  have hent1 : ∀ (args : Array Value) (w : World), Sem.run Tryz.prog (callFunc 182 args) w = .ok (.enter 182 args) w := ent_isPositive
  have hent2 : ∀ (args : Array Value) (w : World), Sem.run Tryz.prog (callFunc 183 args) w = .ok (.enter 183 args) w := ent_partAt_3
  clear h1 h4 hc
  go_enter Tryz.func298, Tryz.ntmps298
  go_wp2_with fail
  have HKe := Lib.hid (Kept.refl NoB w).drew
  have HT := Lib.hid (HTEN.out _ HKe.out)
  go_region_held3 (fun w' => w'.cell? ⟨s, 0, none⟩ = some (.func (.func 182) #[] #[]) ∧ w'.cell? ⟨s + 3, 0, none⟩ = some (.func (.func 183) #[] #[]) ∧ w'.cell? ⟨g, 4, none⟩ = some (.int .u64 x)) (with_reducible exact HT.out)
    (first
      | (go_at_call 183; (with_reducible refine (HTO.out _).mono ?_); rintro e w1 ⟨rfl, rfl⟩)
      | (go_at_call 182; (with_reducible refine (HCK.out _ HKe.out).mono ?_); rintro e w1 ⟨rfl, rfl⟩))
  go_wp2
  go_ret
  exact ⟨rfl, HKe.out⟩
set_option maxRecDepth 100000 in
theorem drop_2 (w : World) (g ba : Nat) (cs : Array Value) (h4 : OneAt 278 ba (.func (.func 183) #[] #[]) w) (hc : w.heap[g]? = some (.cells cs 34 (0, 0))) (hl : cs.size = 25) : Calls Tryz.prog 301 #[pb g, pb ba] w fun e w' => e = .returned (.tuple #[]) ∧ w' = w.setCell ⟨g, 4, none⟩ (.int .u64 0) := by
  have HTO := Lib.hid (fun w' => to_partAt_3 w' g)
  have hent2 : ∀ (args : Array Value) (w : World), Sem.run Tryz.prog (callFunc 183 args) w = .ok (.enter 183 args) w := ent_partAt_3
  have c4 := h4.cell
  have cg : w.cell? ⟨g, 4, none⟩ = some (cs[4]'(by omega)) := by rw [cell_of_row _ _ _ _ _ _ hc]; exact Array.getElem?_eq_getElem (by omega)
  have zg := blkU_frozen hc 4
  clear h4 hc
  go_enter Tryz.func301, Tryz.ntmps301
  go_wp2_with fail
  refine (HTO.out _).mono ?_
  rintro e w1 ⟨rfl, rfl⟩
  go_wp2
  go_end0
  exact ⟨rfl, rfl⟩
set_option maxRecDepth 100000 in
set_option maxHeartbeats 1000000 in
theorem right_3 (w : World) (g s : Nat) (x : Int) (h1 : OneAt 195 s (.func (.func 184) #[] #[]) w) (h4 : OneAt 278 (s + 3) (.func (.func 185) #[] #[]) w) (hc : w.cell? ⟨g, 7, none⟩ = some (.int .u64 x)) : Calls Tryz.prog 298 #[pb g, pb s, pb (s + 3)] w (YesNoK (true) w) := by
  have HCK := Lib.hid (fun w' (hk : Kept NoB w w') => anyU64_any w' x)
  have HTEN : Hid (∀ w', Kept NoB w w' → w'.cell? ⟨s, 0, none⟩ = some (.func (.func 184) #[] #[]) ∧ w'.cell? ⟨s + 3, 0, none⟩ = some (.func (.func 185) #[] #[]) ∧ w'.cell? ⟨g, 7, none⟩ = some (.int .u64 x)) := Lib.hid (fun w' hk => ⟨(h1.no hk).cell, (h4.no hk).cell, hk.cell (p := ⟨g, 7, none⟩) (fun h => h) hc⟩)
  have HTO := Lib.hid (fun w' => to_partAt_4 w' g)
  have hent1 : ∀ (args : Array Value) (w : World), Sem.run Tryz.prog (callFunc 184 args) w = .ok (.enter 184 args) w := ent_any_u64
  have hent2 : ∀ (args : Array Value) (w : World), Sem.run Tryz.prog (callFunc 185 args) w = .ok (.enter 185 args) w := ent_partAt_4
  clear h1 h4 hc
  go_enter Tryz.func298, Tryz.ntmps298
  go_wp2_with fail
  have HKe := Lib.hid (Kept.refl NoB w).drew
  have HT := Lib.hid (HTEN.out _ HKe.out)
  go_region_held3 (fun w' => w'.cell? ⟨s, 0, none⟩ = some (.func (.func 184) #[] #[]) ∧ w'.cell? ⟨s + 3, 0, none⟩ = some (.func (.func 185) #[] #[]) ∧ w'.cell? ⟨g, 7, none⟩ = some (.int .u64 x)) (with_reducible exact HT.out)
    (first
      | (go_at_call 185; (with_reducible refine (HTO.out _).mono ?_); rintro e w1 ⟨rfl, rfl⟩)
      | (go_at_call 184; (with_reducible refine (HCK.out _ HKe.out).mono ?_); rintro e w1 ⟨rfl, rfl⟩))
  go_wp2
  go_ret
  exact ⟨rfl, HKe.out⟩
set_option maxRecDepth 100000 in
theorem drop_3 (w : World) (g ba : Nat) (cs : Array Value) (h4 : OneAt 278 ba (.func (.func 185) #[] #[]) w) (hc : w.heap[g]? = some (.cells cs 34 (0, 0))) (hl : cs.size = 25) : Calls Tryz.prog 301 #[pb g, pb ba] w fun e w' => e = .returned (.tuple #[]) ∧ w' = w.setCell ⟨g, 7, none⟩ (.int .u64 0) := by
  have HTO := Lib.hid (fun w' => to_partAt_4 w' g)
  have hent2 : ∀ (args : Array Value) (w : World), Sem.run Tryz.prog (callFunc 185 args) w = .ok (.enter 185 args) w := ent_partAt_4
  have c4 := h4.cell
  have cg : w.cell? ⟨g, 7, none⟩ = some (cs[7]'(by omega)) := by rw [cell_of_row _ _ _ _ _ _ hc]; exact Array.getElem?_eq_getElem (by omega)
  have zg := blkU_frozen hc 7
  clear h4 hc
  go_enter Tryz.func301, Tryz.ntmps301
  go_wp2_with fail
  refine (HTO.out _).mono ?_
  rintro e w1 ⟨rfl, rfl⟩
  go_wp2
  go_end0
  exact ⟨rfl, rfl⟩
set_option maxRecDepth 100000 in
set_option maxHeartbeats 1000000 in
theorem right_4 (w : World) (g s : Nat) (x : Int) (h1 : OneAt 195 s (.func (.func 184) #[] #[]) w) (h4 : OneAt 278 (s + 3) (.func (.func 186) #[] #[]) w) (hc : w.cell? ⟨g, 8, none⟩ = some (.int .u64 x)) : Calls Tryz.prog 298 #[pb g, pb s, pb (s + 3)] w (YesNoK (true) w) := by
  have HCK := Lib.hid (fun w' (hk : Kept NoB w w') => anyU64_any w' x)
  have HTEN : Hid (∀ w', Kept NoB w w' → w'.cell? ⟨s, 0, none⟩ = some (.func (.func 184) #[] #[]) ∧ w'.cell? ⟨s + 3, 0, none⟩ = some (.func (.func 186) #[] #[]) ∧ w'.cell? ⟨g, 8, none⟩ = some (.int .u64 x)) := Lib.hid (fun w' hk => ⟨(h1.no hk).cell, (h4.no hk).cell, hk.cell (p := ⟨g, 8, none⟩) (fun h => h) hc⟩)
  have HTO := Lib.hid (fun w' => to_partAt_5 w' g)
  have hent1 : ∀ (args : Array Value) (w : World), Sem.run Tryz.prog (callFunc 184 args) w = .ok (.enter 184 args) w := ent_any_u64
  have hent2 : ∀ (args : Array Value) (w : World), Sem.run Tryz.prog (callFunc 186 args) w = .ok (.enter 186 args) w := ent_partAt_5
  clear h1 h4 hc
  go_enter Tryz.func298, Tryz.ntmps298
  go_wp2_with fail
  have HKe := Lib.hid (Kept.refl NoB w).drew
  have HT := Lib.hid (HTEN.out _ HKe.out)
  go_region_held3 (fun w' => w'.cell? ⟨s, 0, none⟩ = some (.func (.func 184) #[] #[]) ∧ w'.cell? ⟨s + 3, 0, none⟩ = some (.func (.func 186) #[] #[]) ∧ w'.cell? ⟨g, 8, none⟩ = some (.int .u64 x)) (with_reducible exact HT.out)
    (first
      | (go_at_call 186; (with_reducible refine (HTO.out _).mono ?_); rintro e w1 ⟨rfl, rfl⟩)
      | (go_at_call 184; (with_reducible refine (HCK.out _ HKe.out).mono ?_); rintro e w1 ⟨rfl, rfl⟩))
  go_wp2
  go_ret
  exact ⟨rfl, HKe.out⟩
set_option maxRecDepth 100000 in
theorem drop_4 (w : World) (g ba : Nat) (cs : Array Value) (h4 : OneAt 278 ba (.func (.func 186) #[] #[]) w) (hc : w.heap[g]? = some (.cells cs 34 (0, 0))) (hl : cs.size = 25) : Calls Tryz.prog 301 #[pb g, pb ba] w fun e w' => e = .returned (.tuple #[]) ∧ w' = w.setCell ⟨g, 8, none⟩ (.int .u64 0) := by
  have HTO := Lib.hid (fun w' => to_partAt_5 w' g)
  have hent2 : ∀ (args : Array Value) (w : World), Sem.run Tryz.prog (callFunc 186 args) w = .ok (.enter 186 args) w := ent_partAt_5
  have c4 := h4.cell
  have cg : w.cell? ⟨g, 8, none⟩ = some (cs[8]'(by omega)) := by rw [cell_of_row _ _ _ _ _ _ hc]; exact Array.getElem?_eq_getElem (by omega)
  have zg := blkU_frozen hc 8
  clear h4 hc
  go_enter Tryz.func301, Tryz.ntmps301
  go_wp2_with fail
  refine (HTO.out _).mono ?_
  rintro e w1 ⟨rfl, rfl⟩
  go_wp2
  go_end0
  exact ⟨rfl, rfl⟩
set_option maxRecDepth 100000 in
set_option maxHeartbeats 1000000 in
theorem right_14 (w : World) (g s : Nat) (x : Value) (l : List Up) (F : Nat → Prop) (hx : UsAt w F x l) (h1 : OneAt 44 s (.func (.func 212) #[] #[]) w) (h4 : OneAt 312 (s + 3) (.func (.func 215) #[] #[]) w) (hc : w.cell? ⟨g, 23, none⟩ = some x) : Calls Tryz.prog 269 #[pb g, pb s, pb (s + 3)] w (YesNoK (areUs l) w) := by
  have HCK := Lib.hid (fun w' (hk : Kept NoB w w') => areUpdates_any w' x l F (hx.no hk))
  obtain ⟨xa, xc, rfl⟩ := hx.form
  have HTEN : Hid (∀ w', Kept NoB w w' → w'.cell? ⟨s, 0, none⟩ = some (.func (.func 212) #[] #[]) ∧ w'.cell? ⟨s + 3, 0, none⟩ = some (.func (.func 215) #[] #[]) ∧ w'.cell? ⟨g, 23, none⟩ = some (.slice xa l.length xc)) := Lib.hid (fun w' hk => ⟨(h1.no hk).cell, (h4.no hk).cell, hk.cell (p := ⟨g, 23, none⟩) (fun h => h) hc⟩)
  have HTO := Lib.hid (fun w' => to_partAt_14 w' g)
  have hent1 : ∀ (args : Array Value) (w : World), Sem.run Tryz.prog (callFunc 212 args) w = .ok (.enter 212 args) w := ent_areUpdates
  have hent2 : ∀ (args : Array Value) (w : World), Sem.run Tryz.prog (callFunc 215 args) w = .ok (.enter 215 args) w := ent_partAt_14
  clear h1 h4 hc hx
  go_enter Tryz.func269, Tryz.ntmps269
  go_wp2_with fail
  have HKe := Lib.hid (Kept.refl NoB w).drew
  have HT := Lib.hid (HTEN.out _ HKe.out)
  go_region_held3 (fun w' => w'.cell? ⟨s, 0, none⟩ = some (.func (.func 212) #[] #[]) ∧ w'.cell? ⟨s + 3, 0, none⟩ = some (.func (.func 215) #[] #[]) ∧ w'.cell? ⟨g, 23, none⟩ = some (.slice xa l.length xc)) (with_reducible exact HT.out)
    (first
      | (go_at_call 215; (with_reducible refine (HTO.out _).mono ?_); rintro e w1 ⟨rfl, rfl⟩)
      | (go_at_call 212; (with_reducible refine (HCK.out _ HKe.out).mono ?_); rintro e w1 ⟨rfl, hk1⟩; replace HKe := Lib.hid (HKe.out.trans hk1 (fun _ _ h => h)); replace HT := Lib.hid (HTEN.out _ HKe.out); clear hk1))
  go_wp2
  go_ret
  exact ⟨rfl, HKe.out⟩
set_option maxRecDepth 100000 in
theorem drop_14 (w : World) (g ba : Nat) (cs : Array Value) (h4 : OneAt 312 ba (.func (.func 215) #[] #[]) w) (hc : w.heap[g]? = some (.cells cs 34 (0, 0))) (hl : cs.size = 25) : Calls Tryz.prog 272 #[pb g, pb ba] w fun e w' => e = .returned (.tuple #[]) ∧ w' = w.setCell ⟨g, 23, none⟩ (.slice none 0 0) := by
  have HTO := Lib.hid (fun w' => to_partAt_14 w' g)
  have hent2 : ∀ (args : Array Value) (w : World), Sem.run Tryz.prog (callFunc 215 args) w = .ok (.enter 215 args) w := ent_partAt_14
  have c4 := h4.cell
  have cg : w.cell? ⟨g, 23, none⟩ = some (cs[23]'(by omega)) := by rw [cell_of_row _ _ _ _ _ _ hc]; exact Array.getElem?_eq_getElem (by omega)
  have zg := blkU_frozen hc 23
  clear h4 hc
  go_enter Tryz.func272, Tryz.ntmps272
  go_wp2_with fail
  refine (HTO.out _).mono ?_
  rintro e w1 ⟨rfl, rfl⟩
  go_wp2
  go_end0
  exact ⟨rfl, rfl⟩
set_option maxRecDepth 100000 in
set_option maxHeartbeats 1000000 in
theorem right_15 (w : World) (g s : Nat) (x : Value) (l : List Up) (F : Nat → Prop) (hx : UsAt w F x l) (h1 : OneAt 44 s (.func (.func 216) #[] #[]) w) (h4 : OneAt 312 (s + 3) (.func (.func 217) #[] #[]) w) (hc : w.cell? ⟨g, 23, none⟩ = some x) : Calls Tryz.prog 269 #[pb g, pb s, pb (s + 3)] w (YesNoK (areReq l) w) := by
  have HCK := Lib.hid (fun w' (hk : Kept NoB w w') => areRequest_any w' x l F (hx.no hk))
  obtain ⟨xa, xc, rfl⟩ := hx.form
  have HTEN : Hid (∀ w', Kept NoB w w' → w'.cell? ⟨s, 0, none⟩ = some (.func (.func 216) #[] #[]) ∧ w'.cell? ⟨s + 3, 0, none⟩ = some (.func (.func 217) #[] #[]) ∧ w'.cell? ⟨g, 23, none⟩ = some (.slice xa l.length xc)) := Lib.hid (fun w' hk => ⟨(h1.no hk).cell, (h4.no hk).cell, hk.cell (p := ⟨g, 23, none⟩) (fun h => h) hc⟩)
  have HTO := Lib.hid (fun w' => to_partAt_15 w' g)
  have hent1 : ∀ (args : Array Value) (w : World), Sem.run Tryz.prog (callFunc 216 args) w = .ok (.enter 216 args) w := ent_areRequest
  have hent2 : ∀ (args : Array Value) (w : World), Sem.run Tryz.prog (callFunc 217 args) w = .ok (.enter 217 args) w := ent_partAt_15
  clear h1 h4 hc hx
  go_enter Tryz.func269, Tryz.ntmps269
  go_wp2_with fail
  have HKe := Lib.hid (Kept.refl NoB w).drew
  have HT := Lib.hid (HTEN.out _ HKe.out)
  go_region_held3 (fun w' => w'.cell? ⟨s, 0, none⟩ = some (.func (.func 216) #[] #[]) ∧ w'.cell? ⟨s + 3, 0, none⟩ = some (.func (.func 217) #[] #[]) ∧ w'.cell? ⟨g, 23, none⟩ = some (.slice xa l.length xc)) (with_reducible exact HT.out)
    (first
      | (go_at_call 217; (with_reducible refine (HTO.out _).mono ?_); rintro e w1 ⟨rfl, rfl⟩)
      | (go_at_call 216; (with_reducible refine (HCK.out _ HKe.out).mono ?_); rintro e w1 ⟨rfl, hk1⟩; replace HKe := Lib.hid (HKe.out.trans hk1 (fun _ _ h => h)); replace HT := Lib.hid (HTEN.out _ HKe.out); clear hk1))
  go_wp2
  go_ret
  exact ⟨rfl, HKe.out⟩
set_option maxRecDepth 100000 in
theorem drop_15 (w : World) (g ba : Nat) (cs : Array Value) (h4 : OneAt 312 ba (.func (.func 217) #[] #[]) w) (hc : w.heap[g]? = some (.cells cs 34 (0, 0))) (hl : cs.size = 25) : Calls Tryz.prog 272 #[pb g, pb ba] w fun e w' => e = .returned (.tuple #[]) ∧ w' = w.setCell ⟨g, 23, none⟩ (.slice none 0 0) := by
  have HTO := Lib.hid (fun w' => to_partAt_15 w' g)
  have hent2 : ∀ (args : Array Value) (w : World), Sem.run Tryz.prog (callFunc 217 args) w = .ok (.enter 217 args) w := ent_partAt_15
  have c4 := h4.cell
  have cg : w.cell? ⟨g, 23, none⟩ = some (cs[23]'(by omega)) := by rw [cell_of_row _ _ _ _ _ _ hc]; exact Array.getElem?_eq_getElem (by omega)
  have zg := blkU_frozen hc 23
  clear h4 hc
  go_enter Tryz.func272, Tryz.ntmps272
  go_wp2_with fail
  refine (HTO.out _).mono ?_
  rintro e w1 ⟨rfl, rfl⟩
  go_wp2
  go_end0
  exact ⟨rfl, rfl⟩
end Go.Proofs.YtpdkmalfojeghaaGreatDoor
