/-
  Package letter: what a part's right and drop do, for the other twelve parts; all eighteen are parts.
-/
import Derived.Test.YtcbenminaakahaaGreatDoorLckD
import Derived.Test.YtcbenminaakahaaGreatDoorLckE
namespace Go.Proofs.YtcbenminaakahaaGreatDoor
open Go.RowKit
set_option linter.unusedVariables false
set_option linter.unusedSimpArgs false

set_option maxRecDepth 100000 in
set_option maxHeartbeats 1000000 in
theorem right_0 (w : World) (g s : Nat) (x : Int) (x0 : 0 ≤ x) (x1 : x ≤ 18446744073709551615) (h1 : OneAt 182 s (.func (.func 186) #[] #[]) w) (h4 : OneAt 279 (s + 3) (.func (.func 187) #[] #[]) w) (hc : w.cell? ⟨g, 5, none⟩ = some (.int .u64 x)) : Calls Tryz.prog 304 #[pb g, pb s, pb (s + 3)] w (YesNoK (balB x) w) := by
  have HCK := Lib.hid (fun w' (hk : Kept NoB w w') => isBallot_any w' x x0 x1)
  have HTEN : Hid (∀ w', Kept NoB w w' → w'.cell? ⟨s, 0, none⟩ = some (.func (.func 186) #[] #[]) ∧ w'.cell? ⟨s + 3, 0, none⟩ = some (.func (.func 187) #[] #[]) ∧ w'.cell? ⟨g, 5, none⟩ = some (.int .u64 x)) := Lib.hid (fun w' hk => ⟨(h1.no hk).cell, (h4.no hk).cell, hk.cell (p := ⟨g, 5, none⟩) (fun h => h) hc⟩)
  have HTO := Lib.hid (fun w' => to_partAt_1 w' g)
  have hent1 : ∀ (args : Array Value) (w : World), Sem.run Tryz.prog (callFunc 186 args) w = .ok (.enter 186 args) w := ent_isBallot
  have hent2 : ∀ (args : Array Value) (w : World), Sem.run Tryz.prog (callFunc 187 args) w = .ok (.enter 187 args) w := ent_partAt_1
  clear h1 h4 hc x0 x1
  go_enter Tryz.func304, Tryz.ntmps304
  go_wp2_with fail
  have HKe := Lib.hid (Kept.refl NoB w).drew
  have HT := Lib.hid (HTEN.out _ HKe.out)
  go_region_held3 (fun w' => w'.cell? ⟨s, 0, none⟩ = some (.func (.func 186) #[] #[]) ∧ w'.cell? ⟨s + 3, 0, none⟩ = some (.func (.func 187) #[] #[]) ∧ w'.cell? ⟨g, 5, none⟩ = some (.int .u64 x)) (with_reducible exact HT.out)
    (first
      | (go_at_call 187; (with_reducible refine (HTO.out _).mono ?_); rintro e w1 ⟨rfl, rfl⟩)
      | (go_at_call 186; (with_reducible refine (HCK.out _ HKe.out).mono ?_); rintro e w1 ⟨rfl, rfl⟩))
  go_wp2
  go_ret
  exact ⟨rfl, HKe.out⟩
set_option maxRecDepth 100000 in
set_option maxHeartbeats 1000000 in
theorem drop_0 (w : World) (g ba : Nat) (cs : Array Value) (h4 : OneAt 279 ba (.func (.func 187) #[] #[]) w) (hc : w.heap[g]? = some (.cells cs 34 (0, 0))) (hl : cs.size = 25) : Calls Tryz.prog 307 #[pb g, pb ba] w fun e w' => e = .returned (.tuple #[]) ∧ w' = (w.setCell ⟨g, 5, none⟩ (.int .u64 0)) := by
  have HTO := Lib.hid (fun w' => to_partAt_1 w' g)
  have hent2 : ∀ (args : Array Value) (w : World), Sem.run Tryz.prog (callFunc 187 args) w = .ok (.enter 187 args) w := ent_partAt_1
  have c4 := h4.cell
  have cg0 : w.cell? ⟨g, 5, none⟩ = some (cs[5]'(by omega)) := by rw [cell_of_row _ _ _ _ _ _ hc]; exact Array.getElem?_eq_getElem (by omega)
  have zg0 := blkU_frozen hc 5
  clear h4 hc
  go_enter Tryz.func307, Tryz.ntmps307
  go_wp2_with fail
  refine (HTO.out _).mono ?_
  rintro e w1 ⟨rfl, rfl⟩
  go_wp2
  go_end0
  exact ⟨rfl, rfl⟩
set_option maxRecDepth 100000 in
set_option maxHeartbeats 1000000 in
theorem right_5 (w : World) (g s : Nat) (bm : Nat) (x : Int) (hm : OneAt 3 bm (.int .i64 512) w) (h1 : OneAt 40 s (.func (.func 252) #[] #[pb bm]) w) (h4 : OneAt 283 (s + 3) (.func (.func 196) #[] #[]) w) (hc : w.cell? ⟨g, 10, none⟩ = some (.int .i64 x)) : Calls Tryz.prog 309 #[pb g, pb s, pb (s + 3)] w (YesNoK (decide (0 ≤ x) && decide (x ≤ 512)) w) := by
  have HCK := Lib.hid (fun w' (hk : Kept NoB w w') => uptoInt_any w' x 512 bm (hm.no hk).cell)
  have HTEN : Hid (∀ w', Kept NoB w w' → w'.cell? ⟨s, 0, none⟩ = some (.func (.func 252) #[] #[pb bm]) ∧ w'.cell? ⟨s + 3, 0, none⟩ = some (.func (.func 196) #[] #[]) ∧ w'.cell? ⟨g, 10, none⟩ = some (.int .i64 x)) := Lib.hid (fun w' hk => ⟨(h1.no hk).cell, (h4.no hk).cell, hk.cell (p := ⟨g, 10, none⟩) (fun h => h) hc⟩)
  have HTO := Lib.hid (fun w' => to_partAt_6 w' g)
  have hent1 : ∀ (args : Array Value) (w : World), Sem.run Tryz.prog (callFunc 252 args) w = .ok (.enter 252 args) w := ent_upto_int
  have hent2 : ∀ (args : Array Value) (w : World), Sem.run Tryz.prog (callFunc 196 args) w = .ok (.enter 196 args) w := ent_partAt_6
  clear h1 h4 hc hm
  go_enter Tryz.func309, Tryz.ntmps309
  go_wp2_with fail
  have HKe := Lib.hid (Kept.refl NoB w).drew
  have HT := Lib.hid (HTEN.out _ HKe.out)
  go_region_held3 (fun w' => w'.cell? ⟨s, 0, none⟩ = some (.func (.func 252) #[] #[pb bm]) ∧ w'.cell? ⟨s + 3, 0, none⟩ = some (.func (.func 196) #[] #[]) ∧ w'.cell? ⟨g, 10, none⟩ = some (.int .i64 x)) (with_reducible exact HT.out)
    (first
      | (go_at_call 196; (with_reducible refine (HTO.out _).mono ?_); rintro e w1 ⟨rfl, rfl⟩)
      | (go_at_call 252; (with_reducible refine (HCK.out _ HKe.out).mono ?_); rintro e w1 ⟨rfl, rfl⟩))
  go_wp2
  go_ret
  exact ⟨rfl, HKe.out⟩
set_option maxRecDepth 100000 in
set_option maxHeartbeats 1000000 in
theorem drop_5 (w : World) (g ba : Nat) (cs : Array Value) (h4 : OneAt 283 ba (.func (.func 196) #[] #[]) w) (hc : w.heap[g]? = some (.cells cs 34 (0, 0))) (hl : cs.size = 25) : Calls Tryz.prog 312 #[pb g, pb ba] w fun e w' => e = .returned (.tuple #[]) ∧ w' = (w.setCell ⟨g, 10, none⟩ (.int .i64 0)) := by
  have HTO := Lib.hid (fun w' => to_partAt_6 w' g)
  have hent2 : ∀ (args : Array Value) (w : World), Sem.run Tryz.prog (callFunc 196 args) w = .ok (.enter 196 args) w := ent_partAt_6
  have c4 := h4.cell
  have cg0 : w.cell? ⟨g, 10, none⟩ = some (cs[10]'(by omega)) := by rw [cell_of_row _ _ _ _ _ _ hc]; exact Array.getElem?_eq_getElem (by omega)
  have zg0 := blkU_frozen hc 10
  clear h4 hc
  go_enter Tryz.func312, Tryz.ntmps312
  go_wp2_with fail
  refine (HTO.out _).mono ?_
  rintro e w1 ⟨rfl, rfl⟩
  go_wp2
  go_end0
  exact ⟨rfl, rfl⟩
set_option maxRecDepth 100000 in
set_option maxHeartbeats 1000000 in
theorem right_6 (w : World) (g s : Nat) (x : Int) (h1 : OneAt 182 s (.func (.func 193) #[] #[]) w) (h4 : OneAt 279 (s + 3) (.func (.func 197) #[] #[]) w) (hc : w.cell? ⟨g, 6, none⟩ = some (.int .u64 x)) : Calls Tryz.prog 304 #[pb g, pb s, pb (s + 3)] w (YesNoK (true) w) := by
  have HCK := Lib.hid (fun w' (hk : Kept NoB w w') => anyU64_any w' x)
  have HTEN : Hid (∀ w', Kept NoB w w' → w'.cell? ⟨s, 0, none⟩ = some (.func (.func 193) #[] #[]) ∧ w'.cell? ⟨s + 3, 0, none⟩ = some (.func (.func 197) #[] #[]) ∧ w'.cell? ⟨g, 6, none⟩ = some (.int .u64 x)) := Lib.hid (fun w' hk => ⟨(h1.no hk).cell, (h4.no hk).cell, hk.cell (p := ⟨g, 6, none⟩) (fun h => h) hc⟩)
  have HTO := Lib.hid (fun w' => to_partAt_7 w' g)
  have hent1 : ∀ (args : Array Value) (w : World), Sem.run Tryz.prog (callFunc 193 args) w = .ok (.enter 193 args) w := ent_any_u64
  have hent2 : ∀ (args : Array Value) (w : World), Sem.run Tryz.prog (callFunc 197 args) w = .ok (.enter 197 args) w := ent_partAt_7
  clear h1 h4 hc
  go_enter Tryz.func304, Tryz.ntmps304
  go_wp2_with fail
  have HKe := Lib.hid (Kept.refl NoB w).drew
  have HT := Lib.hid (HTEN.out _ HKe.out)
  go_region_held3 (fun w' => w'.cell? ⟨s, 0, none⟩ = some (.func (.func 193) #[] #[]) ∧ w'.cell? ⟨s + 3, 0, none⟩ = some (.func (.func 197) #[] #[]) ∧ w'.cell? ⟨g, 6, none⟩ = some (.int .u64 x)) (with_reducible exact HT.out)
    (first
      | (go_at_call 197; (with_reducible refine (HTO.out _).mono ?_); rintro e w1 ⟨rfl, rfl⟩)
      | (go_at_call 193; (with_reducible refine (HCK.out _ HKe.out).mono ?_); rintro e w1 ⟨rfl, rfl⟩))
  go_wp2
  go_ret
  exact ⟨rfl, HKe.out⟩
set_option maxRecDepth 100000 in
set_option maxHeartbeats 1000000 in
theorem drop_6 (w : World) (g ba : Nat) (cs : Array Value) (h4 : OneAt 279 ba (.func (.func 197) #[] #[]) w) (hc : w.heap[g]? = some (.cells cs 34 (0, 0))) (hl : cs.size = 25) : Calls Tryz.prog 307 #[pb g, pb ba] w fun e w' => e = .returned (.tuple #[]) ∧ w' = (w.setCell ⟨g, 6, none⟩ (.int .u64 0)) := by
  have HTO := Lib.hid (fun w' => to_partAt_7 w' g)
  have hent2 : ∀ (args : Array Value) (w : World), Sem.run Tryz.prog (callFunc 197 args) w = .ok (.enter 197 args) w := ent_partAt_7
  have c4 := h4.cell
  have cg0 : w.cell? ⟨g, 6, none⟩ = some (cs[6]'(by omega)) := by rw [cell_of_row _ _ _ _ _ _ hc]; exact Array.getElem?_eq_getElem (by omega)
  have zg0 := blkU_frozen hc 6
  clear h4 hc
  go_enter Tryz.func307, Tryz.ntmps307
  go_wp2_with fail
  refine (HTO.out _).mono ?_
  rintro e w1 ⟨rfl, rfl⟩
  go_wp2
  go_end0
  exact ⟨rfl, rfl⟩
set_option maxRecDepth 100000 in
set_option maxHeartbeats 1000000 in
theorem right_7 (w : World) (g s : Nat) (bm : Nat) (x : Int) (hm : OneAt 3 bm (.int .i64 512) w) (h1 : OneAt 40 s (.func (.func 252) #[] #[pb bm]) w) (h4 : OneAt 283 (s + 3) (.func (.func 196) #[] #[]) w) (hc : w.cell? ⟨g, 10, none⟩ = some (.int .i64 x)) : Calls Tryz.prog 309 #[pb g, pb s, pb (s + 3)] w (YesNoK (decide (0 ≤ x) && decide (x ≤ 512)) w) := by
  have HCK := Lib.hid (fun w' (hk : Kept NoB w w') => uptoInt_any w' x 512 bm (hm.no hk).cell)
  have HTEN : Hid (∀ w', Kept NoB w w' → w'.cell? ⟨s, 0, none⟩ = some (.func (.func 252) #[] #[pb bm]) ∧ w'.cell? ⟨s + 3, 0, none⟩ = some (.func (.func 196) #[] #[]) ∧ w'.cell? ⟨g, 10, none⟩ = some (.int .i64 x)) := Lib.hid (fun w' hk => ⟨(h1.no hk).cell, (h4.no hk).cell, hk.cell (p := ⟨g, 10, none⟩) (fun h => h) hc⟩)
  have HTO := Lib.hid (fun w' => to_partAt_6 w' g)
  have hent1 : ∀ (args : Array Value) (w : World), Sem.run Tryz.prog (callFunc 252 args) w = .ok (.enter 252 args) w := ent_upto_int
  have hent2 : ∀ (args : Array Value) (w : World), Sem.run Tryz.prog (callFunc 196 args) w = .ok (.enter 196 args) w := ent_partAt_6
  clear h1 h4 hc hm
  go_enter Tryz.func309, Tryz.ntmps309
  go_wp2_with fail
  have HKe := Lib.hid (Kept.refl NoB w).drew
  have HT := Lib.hid (HTEN.out _ HKe.out)
  go_region_held3 (fun w' => w'.cell? ⟨s, 0, none⟩ = some (.func (.func 252) #[] #[pb bm]) ∧ w'.cell? ⟨s + 3, 0, none⟩ = some (.func (.func 196) #[] #[]) ∧ w'.cell? ⟨g, 10, none⟩ = some (.int .i64 x)) (with_reducible exact HT.out)
    (first
      | (go_at_call 196; (with_reducible refine (HTO.out _).mono ?_); rintro e w1 ⟨rfl, rfl⟩)
      | (go_at_call 252; (with_reducible refine (HCK.out _ HKe.out).mono ?_); rintro e w1 ⟨rfl, rfl⟩))
  go_wp2
  go_ret
  exact ⟨rfl, HKe.out⟩
set_option maxRecDepth 100000 in
set_option maxHeartbeats 1000000 in
theorem right_8 (w : World) (g s : Nat) (x : Int) (h1 : OneAt 244 s (.func (.func 199) #[] #[]) w) (h4 : OneAt 286 (s + 3) (.func (.func 200) #[] #[]) w) (hc : w.cell? ⟨g, 11, none⟩ = some (.int .u32 x)) : Calls Tryz.prog 313 #[pb g, pb s, pb (s + 3)] w (YesNoK (true) w) := by
  have HCK := Lib.hid (fun w' (hk : Kept NoB w w') => anyU32_any w' x)
  have HTEN : Hid (∀ w', Kept NoB w w' → w'.cell? ⟨s, 0, none⟩ = some (.func (.func 199) #[] #[]) ∧ w'.cell? ⟨s + 3, 0, none⟩ = some (.func (.func 200) #[] #[]) ∧ w'.cell? ⟨g, 11, none⟩ = some (.int .u32 x)) := Lib.hid (fun w' hk => ⟨(h1.no hk).cell, (h4.no hk).cell, hk.cell (p := ⟨g, 11, none⟩) (fun h => h) hc⟩)
  have HTO := Lib.hid (fun w' => to_partAt_8 w' g)
  have hent1 : ∀ (args : Array Value) (w : World), Sem.run Tryz.prog (callFunc 199 args) w = .ok (.enter 199 args) w := ent_any_u32
  have hent2 : ∀ (args : Array Value) (w : World), Sem.run Tryz.prog (callFunc 200 args) w = .ok (.enter 200 args) w := ent_partAt_8
  clear h1 h4 hc
  go_enter Tryz.func313, Tryz.ntmps313
  go_wp2_with fail
  have HKe := Lib.hid (Kept.refl NoB w).drew
  have HT := Lib.hid (HTEN.out _ HKe.out)
  go_region_held3 (fun w' => w'.cell? ⟨s, 0, none⟩ = some (.func (.func 199) #[] #[]) ∧ w'.cell? ⟨s + 3, 0, none⟩ = some (.func (.func 200) #[] #[]) ∧ w'.cell? ⟨g, 11, none⟩ = some (.int .u32 x)) (with_reducible exact HT.out)
    (first
      | (go_at_call 200; (with_reducible refine (HTO.out _).mono ?_); rintro e w1 ⟨rfl, rfl⟩)
      | (go_at_call 199; (with_reducible refine (HCK.out _ HKe.out).mono ?_); rintro e w1 ⟨rfl, rfl⟩))
  go_wp2
  go_ret
  exact ⟨rfl, HKe.out⟩
set_option maxRecDepth 100000 in
set_option maxHeartbeats 1000000 in
theorem drop_8 (w : World) (g ba : Nat) (cs : Array Value) (h4 : OneAt 286 ba (.func (.func 200) #[] #[]) w) (hc : w.heap[g]? = some (.cells cs 34 (0, 0))) (hl : cs.size = 25) : Calls Tryz.prog 316 #[pb g, pb ba] w fun e w' => e = .returned (.tuple #[]) ∧ w' = (w.setCell ⟨g, 11, none⟩ (.int .u32 0)) := by
  have HTO := Lib.hid (fun w' => to_partAt_8 w' g)
  have hent2 : ∀ (args : Array Value) (w : World), Sem.run Tryz.prog (callFunc 200 args) w = .ok (.enter 200 args) w := ent_partAt_8
  have c4 := h4.cell
  have cg0 : w.cell? ⟨g, 11, none⟩ = some (cs[11]'(by omega)) := by rw [cell_of_row _ _ _ _ _ _ hc]; exact Array.getElem?_eq_getElem (by omega)
  have zg0 := blkU_frozen hc 11
  clear h4 hc
  go_enter Tryz.func316, Tryz.ntmps316
  go_wp2_with fail
  refine (HTO.out _).mono ?_
  rintro e w1 ⟨rfl, rfl⟩
  go_wp2
  go_end0
  exact ⟨rfl, rfl⟩
set_option maxRecDepth 100000 in
set_option maxHeartbeats 1000000 in
theorem right_9 (w : World) (g s : Nat) (bm : Nat) (x : Int) (hm : OneAt 24 bm (.int .i64 255) w) (h1 : OneAt 288 s (.func (.func 259) #[] #[pb bm]) w) (h4 : OneAt 291 (s + 3) (.func (.func 203) #[] #[]) w) (hc : w.cell? ⟨g, 12, none⟩ = some (.int .i64 x)) : Calls Tryz.prog 317 #[pb g, pb s, pb (s + 3)] w (YesNoK (decide (0 ≤ x) && decide (x ≤ 255)) w) := by
  have HCK := Lib.hid (fun w' (hk : Kept NoB w w') => uptoErr_any w' x 255 bm (hm.no hk).cell)
  have HTEN : Hid (∀ w', Kept NoB w w' → w'.cell? ⟨s, 0, none⟩ = some (.func (.func 259) #[] #[pb bm]) ∧ w'.cell? ⟨s + 3, 0, none⟩ = some (.func (.func 203) #[] #[]) ∧ w'.cell? ⟨g, 12, none⟩ = some (.int .i64 x)) := Lib.hid (fun w' hk => ⟨(h1.no hk).cell, (h4.no hk).cell, hk.cell (p := ⟨g, 12, none⟩) (fun h => h) hc⟩)
  have HTO := Lib.hid (fun w' => to_partAt_9 w' g)
  have hent1 : ∀ (args : Array Value) (w : World), Sem.run Tryz.prog (callFunc 259 args) w = .ok (.enter 259 args) w := ent_upto_err
  have hent2 : ∀ (args : Array Value) (w : World), Sem.run Tryz.prog (callFunc 203 args) w = .ok (.enter 203 args) w := ent_partAt_9
  clear h1 h4 hc hm
  go_enter Tryz.func317, Tryz.ntmps317
  go_wp2_with fail
  have HKe := Lib.hid (Kept.refl NoB w).drew
  have HT := Lib.hid (HTEN.out _ HKe.out)
  go_region_held3 (fun w' => w'.cell? ⟨s, 0, none⟩ = some (.func (.func 259) #[] #[pb bm]) ∧ w'.cell? ⟨s + 3, 0, none⟩ = some (.func (.func 203) #[] #[]) ∧ w'.cell? ⟨g, 12, none⟩ = some (.int .i64 x)) (with_reducible exact HT.out)
    (first
      | (go_at_call 203; (with_reducible refine (HTO.out _).mono ?_); rintro e w1 ⟨rfl, rfl⟩)
      | (go_at_call 259; (with_reducible refine (HCK.out _ HKe.out).mono ?_); rintro e w1 ⟨rfl, rfl⟩))
  go_wp2
  go_ret
  exact ⟨rfl, HKe.out⟩
set_option maxRecDepth 100000 in
set_option maxHeartbeats 1000000 in
theorem drop_9 (w : World) (g ba : Nat) (cs : Array Value) (h4 : OneAt 291 ba (.func (.func 203) #[] #[]) w) (hc : w.heap[g]? = some (.cells cs 34 (0, 0))) (hl : cs.size = 25) : Calls Tryz.prog 320 #[pb g, pb ba] w fun e w' => e = .returned (.tuple #[]) ∧ w' = (w.setCell ⟨g, 12, none⟩ (.int .i64 0)) := by
  have HTO := Lib.hid (fun w' => to_partAt_9 w' g)
  have hent2 : ∀ (args : Array Value) (w : World), Sem.run Tryz.prog (callFunc 203 args) w = .ok (.enter 203 args) w := ent_partAt_9
  have c4 := h4.cell
  have cg0 : w.cell? ⟨g, 12, none⟩ = some (cs[12]'(by omega)) := by rw [cell_of_row _ _ _ _ _ _ hc]; exact Array.getElem?_eq_getElem (by omega)
  have zg0 := blkU_frozen hc 12
  clear h4 hc
  go_enter Tryz.func320, Tryz.ntmps320
  go_wp2_with fail
  refine (HTO.out _).mono ?_
  rintro e w1 ⟨rfl, rfl⟩
  go_wp2
  go_end0
  exact ⟨rfl, rfl⟩
set_option maxRecDepth 100000 in
set_option maxHeartbeats 1000000 in
theorem right_10 (w : World) (g s : Nat) (x : Int) (h1 : OneAt 182 s (.func (.func 193) #[] #[]) w) (h4 : OneAt 279 (s + 3) (.func (.func 204) #[] #[]) w) (hc : w.cell? ⟨g, 9, none⟩ = some (.int .u64 x)) : Calls Tryz.prog 304 #[pb g, pb s, pb (s + 3)] w (YesNoK (true) w) := by
  have HCK := Lib.hid (fun w' (hk : Kept NoB w w') => anyU64_any w' x)
  have HTEN : Hid (∀ w', Kept NoB w w' → w'.cell? ⟨s, 0, none⟩ = some (.func (.func 193) #[] #[]) ∧ w'.cell? ⟨s + 3, 0, none⟩ = some (.func (.func 204) #[] #[]) ∧ w'.cell? ⟨g, 9, none⟩ = some (.int .u64 x)) := Lib.hid (fun w' hk => ⟨(h1.no hk).cell, (h4.no hk).cell, hk.cell (p := ⟨g, 9, none⟩) (fun h => h) hc⟩)
  have HTO := Lib.hid (fun w' => to_partAt_10 w' g)
  have hent1 : ∀ (args : Array Value) (w : World), Sem.run Tryz.prog (callFunc 193 args) w = .ok (.enter 193 args) w := ent_any_u64
  have hent2 : ∀ (args : Array Value) (w : World), Sem.run Tryz.prog (callFunc 204 args) w = .ok (.enter 204 args) w := ent_partAt_10
  clear h1 h4 hc
  go_enter Tryz.func304, Tryz.ntmps304
  go_wp2_with fail
  have HKe := Lib.hid (Kept.refl NoB w).drew
  have HT := Lib.hid (HTEN.out _ HKe.out)
  go_region_held3 (fun w' => w'.cell? ⟨s, 0, none⟩ = some (.func (.func 193) #[] #[]) ∧ w'.cell? ⟨s + 3, 0, none⟩ = some (.func (.func 204) #[] #[]) ∧ w'.cell? ⟨g, 9, none⟩ = some (.int .u64 x)) (with_reducible exact HT.out)
    (first
      | (go_at_call 204; (with_reducible refine (HTO.out _).mono ?_); rintro e w1 ⟨rfl, rfl⟩)
      | (go_at_call 193; (with_reducible refine (HCK.out _ HKe.out).mono ?_); rintro e w1 ⟨rfl, rfl⟩))
  go_wp2
  go_ret
  exact ⟨rfl, HKe.out⟩
set_option maxRecDepth 100000 in
set_option maxHeartbeats 1000000 in
theorem drop_10 (w : World) (g ba : Nat) (cs : Array Value) (h4 : OneAt 279 ba (.func (.func 204) #[] #[]) w) (hc : w.heap[g]? = some (.cells cs 34 (0, 0))) (hl : cs.size = 25) : Calls Tryz.prog 307 #[pb g, pb ba] w fun e w' => e = .returned (.tuple #[]) ∧ w' = (w.setCell ⟨g, 9, none⟩ (.int .u64 0)) := by
  have HTO := Lib.hid (fun w' => to_partAt_10 w' g)
  have hent2 : ∀ (args : Array Value) (w : World), Sem.run Tryz.prog (callFunc 204 args) w = .ok (.enter 204 args) w := ent_partAt_10
  have c4 := h4.cell
  have cg0 : w.cell? ⟨g, 9, none⟩ = some (cs[9]'(by omega)) := by rw [cell_of_row _ _ _ _ _ _ hc]; exact Array.getElem?_eq_getElem (by omega)
  have zg0 := blkU_frozen hc 9
  clear h4 hc
  go_enter Tryz.func307, Tryz.ntmps307
  go_wp2_with fail
  refine (HTO.out _).mono ?_
  rintro e w1 ⟨rfl, rfl⟩
  go_wp2
  go_end0
  exact ⟨rfl, rfl⟩
set_option maxRecDepth 100000 in
set_option maxHeartbeats 1000000 in
theorem right_11 (w : World) (g s : Nat) (x y z u : Int) (z0 : 0 ≤ z) (h1 : OneAt 293 s (.func (.func 206) #[] #[]) w) (h4 : OneAt 297 (s + 3) (.func (.func 209) #[] #[]) w) (hc : w.cell? ⟨g, 13, none⟩ = some (.int .i64 x) ∧ w.cell? ⟨g, 14, none⟩ = some (.int .i64 y) ∧ w.cell? ⟨g, 15, none⟩ = some (.int .u64 z) ∧ w.cell? ⟨g, 16, none⟩ = some (.int .i64 u)) : Calls Tryz.prog 260 #[pb g, pb s, pb (s + 3)] w (YesNoK (cmdB x y z u) w) := by
  have HCK := Lib.hid (fun w' (hk : Kept NoB w w') => isCommand_any x y z u w' z0)
  have HTEN : Hid (∀ w', Kept NoB w w' → w'.cell? ⟨s, 0, none⟩ = some (.func (.func 206) #[] #[]) ∧ w'.cell? ⟨s + 3, 0, none⟩ = some (.func (.func 209) #[] #[]) ∧ w'.cell? ⟨g, 13, none⟩ = some (.int .i64 x) ∧ w'.cell? ⟨g, 14, none⟩ = some (.int .i64 y) ∧ w'.cell? ⟨g, 15, none⟩ = some (.int .u64 z) ∧ w'.cell? ⟨g, 16, none⟩ = some (.int .i64 u)) := Lib.hid (fun w' hk => ⟨(h1.no hk).cell, (h4.no hk).cell, hk.cell (p := ⟨g, 13, none⟩) (fun h => h) hc.1, hk.cell (p := ⟨g, 14, none⟩) (fun h => h) hc.2.1, hk.cell (p := ⟨g, 15, none⟩) (fun h => h) hc.2.2.1, hk.cell (p := ⟨g, 16, none⟩) (fun h => h) hc.2.2.2⟩)
  have HTO := Lib.hid (fun w' => to_partAt_11 w' g)
  have hent1 : ∀ (args : Array Value) (w : World), Sem.run Tryz.prog (callFunc 206 args) w = .ok (.enter 206 args) w := ent_isCommand
  have hent2 : ∀ (args : Array Value) (w : World), Sem.run Tryz.prog (callFunc 209 args) w = .ok (.enter 209 args) w := ent_partAt_11
  clear h1 h4 hc z0
  go_enter Tryz.func260, Tryz.ntmps260
  go_wp2_with fail
  have HKe := Lib.hid (Kept.refl NoB w).drew
  have HT := Lib.hid (HTEN.out _ HKe.out)
  go_region_held3 (fun w' => w'.cell? ⟨s, 0, none⟩ = some (.func (.func 206) #[] #[]) ∧ w'.cell? ⟨s + 3, 0, none⟩ = some (.func (.func 209) #[] #[]) ∧ w'.cell? ⟨g, 13, none⟩ = some (.int .i64 x) ∧ w'.cell? ⟨g, 14, none⟩ = some (.int .i64 y) ∧ w'.cell? ⟨g, 15, none⟩ = some (.int .u64 z) ∧ w'.cell? ⟨g, 16, none⟩ = some (.int .i64 u)) (with_reducible exact HT.out)
    (first
      | (go_at_call 209; (with_reducible refine (HTO.out _).mono ?_); rintro e w1 ⟨rfl, rfl⟩)
      | (go_at_call 206; (with_reducible refine (HCK.out _ HKe.out).mono ?_); rintro e w1 ⟨rfl, hk1⟩; replace HKe := Lib.hid (HKe.out.trans hk1 (fun _ _ h => h)); replace HT := Lib.hid (HTEN.out _ HKe.out); clear hk1))
  go_wp2
  go_ret
  exact ⟨rfl, HKe.out⟩
set_option maxRecDepth 100000 in
set_option maxHeartbeats 1000000 in
theorem drop_11 (w : World) (g ba : Nat) (cs : Array Value) (h4 : OneAt 297 ba (.func (.func 209) #[] #[]) w) (hc : w.heap[g]? = some (.cells cs 34 (0, 0))) (hl : cs.size = 25) : Calls Tryz.prog 263 #[pb g, pb ba] w fun e w' => e = .returned (.tuple #[]) ∧ ∃ W0 n, Kept NoB w W0 ∧ w' = ((((W0.setCell ⟨g, 13, none⟩ (.int .i64 0)).setCell ⟨g, 14, none⟩ (.int .i64 0)).setCell ⟨g, 15, none⟩ (.int .u64 0)).setCell ⟨g, 16, none⟩ (.int .i64 0)).drewN n := by
  have HTO := Lib.hid (fun w' => to_partAt_11 w' g)
  have hent2 : ∀ (args : Array Value) (w : World), Sem.run Tryz.prog (callFunc 209 args) w = .ok (.enter 209 args) w := ent_partAt_11
  obtain ⟨W, hW⟩ : ∃ W, W = w.alloc (.cells #[.int .i64 0, .int .i64 0, .int .u64 0, .int .i64 0] 26 (0, 0)) := ⟨_, rfl⟩
  have hk0 : Kept NoB w W := by rw [hW]; exact (Kept.refl NoB w).alloc _
  have hz : W.heap[w.heap.size]? = some (.cells #[.int .i64 0, .int .i64 0, .int .u64 0, .int .i64 0] 26 (0, 0)) := by rw [hW]; exact heap_alloc_new w _
  have hgw := hk0.heap (fun h => h) hc
  have h4w := h4.no hk0
  have hne : ¬ w.heap.size = g := by have := heap_lt hc; omega
  have hne2 : ¬ g = w.heap.size := fun h => hne h.symm
  have hba : ¬ ba = g := fun h => by rw [h] at h4; unfold OneAt at h4; rw [hc] at h4; injection h4 with h4; injection h4 with h4 _ _; rw [h4] at hl; cases hl
  have hba2 : ¬ g = ba := fun h => hba h.symm
  have HTEN : Hid (∀ w', Kept NoB W w' → w'.cell? ⟨ba, 0, none⟩ = some (.func (.func 209) #[] #[]) ∧ w'.cell? ⟨w.heap.size, 0, none⟩ = some (.int .i64 0) ∧ w'.cell? ⟨w.heap.size, 1, none⟩ = some (.int .i64 0) ∧ w'.cell? ⟨w.heap.size, 2, none⟩ = some (.int .u64 0) ∧ w'.cell? ⟨w.heap.size, 3, none⟩ = some (.int .i64 0)) := Lib.hid (fun w' hk => ⟨(h4w.no hk).cell, hk.cell (p := ⟨w.heap.size, 0, none⟩) (fun h => h) (cell_of_row _ _ 0 _ _ _ hz), hk.cell (p := ⟨w.heap.size, 1, none⟩) (fun h => h) (cell_of_row _ _ 1 _ _ _ hz), hk.cell (p := ⟨w.heap.size, 2, none⟩) (fun h => h) (cell_of_row _ _ 2 _ _ _ hz), hk.cell (p := ⟨w.heap.size, 3, none⟩) (fun h => h) (cell_of_row _ _ 3 _ _ _ hz)⟩)
  have HTG : Hid (∀ w', Kept NoB W w' → w'.cell? ⟨g, 13, none⟩ = some (cs[13]'(by omega)) ∧ w'.cell? ⟨g, 14, none⟩ = some (cs[14]'(by omega)) ∧ w'.cell? ⟨g, 15, none⟩ = some (cs[15]'(by omega)) ∧ w'.cell? ⟨g, 16, none⟩ = some (cs[16]'(by omega))) := Lib.hid (fun w' hk => ⟨(by rw [cell_of_row _ _ _ _ _ _ (hk.heap (fun h => h) hgw)]; exact Array.getElem?_eq_getElem (by omega)), (by rw [cell_of_row _ _ _ _ _ _ (hk.heap (fun h => h) hgw)]; exact Array.getElem?_eq_getElem (by omega)), (by rw [cell_of_row _ _ _ _ _ _ (hk.heap (fun h => h) hgw)]; exact Array.getElem?_eq_getElem (by omega)), (by rw [cell_of_row _ _ _ _ _ _ (hk.heap (fun h => h) hgw)]; exact Array.getElem?_eq_getElem (by omega))⟩)
  have HZ : Hid (∀ w', Kept NoB W w' → _) := Lib.hid (fun w' hk => blkU_frozen (hk.heap (fun h => h) hgw))
  have HW := Lib.hid hW
  have HK0 := Lib.hid hk0
  clear h4 hc h4w hgw hz hW hk0
  go_enter Tryz.func263, Tryz.ntmps263
  go_wp2_with fail
  rw [← HW.out]
  obtain ⟨t0, x0, x1, x2, x3⟩ := HTEN.out W (Kept.refl _ _)
  obtain ⟨y0, y1, y2, y3⟩ := HTG.out W (Kept.refl _ _)
  have zg := HZ.out W (Kept.refl _ _)
  have HKe := Lib.hid (Kept.refl NoB W).drew
  have HT := Lib.hid (HTEN.out _ HKe.out)
  go_region_held3 (fun w' => w'.cell? ⟨ba, 0, none⟩ = some (.func (.func 209) #[] #[]) ∧ w'.cell? ⟨w.heap.size, 0, none⟩ = some (.int .i64 0) ∧ w'.cell? ⟨w.heap.size, 1, none⟩ = some (.int .i64 0) ∧ w'.cell? ⟨w.heap.size, 2, none⟩ = some (.int .u64 0) ∧ w'.cell? ⟨w.heap.size, 3, none⟩ = some (.int .i64 0)) (first | (with_reducible exact HT.out) | go_keep)
    ((go_at_call 209; (with_reducible refine (HTO.out _).mono ?_); rintro e w1 ⟨rfl, rfl⟩))
  all_goals
    go_end0
    exact ⟨rfl, W, _, HK0.out, rfl⟩

set_option maxRecDepth 100000 in
set_option maxHeartbeats 1000000 in
theorem right_12 (w : World) (g s : Nat) (c : Cf) (xv : Value) (H : Nat → Prop) (hx : NSl w H xv c.ns) (z0 : 0 ≤ c.ep) (z1 : c.ep ≤ topE) (z2 : c.ns.length ≤ 1000) (h1 : OneAt 187 s (.func (.func 115) #[] #[]) w) (h4 : OneAt 302 (s + 3) (.func (.func 213) #[] #[]) w) (hc : w.cell? ⟨g, 17, none⟩ = some (.int .i64 c.ch) ∧ w.cell? ⟨g, 18, none⟩ = some (.int .u64 c.ep) ∧ w.cell? ⟨g, 19, none⟩ = some xv ∧ w.cell? ⟨g, 20, none⟩ = some (.bool c.fr) ∧ w.cell? ⟨g, 21, none⟩ = some (.int .i64 c.jn)) : Calls Tryz.prog 266 #[pb g, pb s, pb (s + 3)] w (YesNoK (rgtB c) w) := by
  have HCK := Lib.hid (fun w' (hk : Kept NoB w w') => Right_any _ c H w' ⟨xv, rfl, hx.kept hk (fun _ _ _ h => h), z0, z1, z2⟩)
  obtain ⟨c0, c1, c2, c3, c4⟩ := c
  simp only at hc HCK ⊢
  obtain ⟨xa, xc, rfl, _⟩ := id hx
  simp only at hc HCK ⊢
  have HTEN : Hid (∀ w', Kept NoB w w' → w'.cell? ⟨s, 0, none⟩ = some (.func (.func 115) #[] #[]) ∧ w'.cell? ⟨s + 3, 0, none⟩ = some (.func (.func 213) #[] #[]) ∧ w'.cell? ⟨g, 17, none⟩ = some (.int .i64 c0) ∧ w'.cell? ⟨g, 18, none⟩ = some (.int .u64 c1) ∧ w'.cell? ⟨g, 19, none⟩ = some (.slice xa c2.length xc) ∧ w'.cell? ⟨g, 20, none⟩ = some (.bool c3) ∧ w'.cell? ⟨g, 21, none⟩ = some (.int .i64 c4)) := Lib.hid (fun w' hk => ⟨(h1.no hk).cell, (h4.no hk).cell, hk.cell (p := ⟨g, 17, none⟩) (fun h => h) hc.1, hk.cell (p := ⟨g, 18, none⟩) (fun h => h) hc.2.1, hk.cell (p := ⟨g, 19, none⟩) (fun h => h) hc.2.2.1, hk.cell (p := ⟨g, 20, none⟩) (fun h => h) hc.2.2.2.1, hk.cell (p := ⟨g, 21, none⟩) (fun h => h) hc.2.2.2.2⟩)
  have HTO := Lib.hid (fun w' => to_partAt_12 w' g)
  have hent1 : ∀ (args : Array Value) (w : World), Sem.run Tryz.prog (callFunc 115 args) w = .ok (.enter 115 args) w := ent_confRight
  have hent2 : ∀ (args : Array Value) (w : World), Sem.run Tryz.prog (callFunc 213 args) w = .ok (.enter 213 args) w := ent_partAt_12
  clear h1 h4 hc hx z0 z1 z2
  go_enter Tryz.func266, Tryz.ntmps266
  go_wp2_with fail
  have HKe := Lib.hid (Kept.refl NoB w).drew
  have HT := Lib.hid (HTEN.out _ HKe.out)
  go_region_held3 (fun w' => w'.cell? ⟨s, 0, none⟩ = some (.func (.func 115) #[] #[]) ∧ w'.cell? ⟨s + 3, 0, none⟩ = some (.func (.func 213) #[] #[]) ∧ w'.cell? ⟨g, 17, none⟩ = some (.int .i64 c0) ∧ w'.cell? ⟨g, 18, none⟩ = some (.int .u64 c1) ∧ w'.cell? ⟨g, 19, none⟩ = some (.slice xa c2.length xc) ∧ w'.cell? ⟨g, 20, none⟩ = some (.bool c3) ∧ w'.cell? ⟨g, 21, none⟩ = some (.int .i64 c4)) (with_reducible exact HT.out)
    (first
      | (go_at_call 213; (with_reducible refine (HTO.out _).mono ?_); rintro e w1 ⟨rfl, rfl⟩)
      | (go_at_call 115; (with_reducible refine (HCK.out _ HKe.out).mono ?_); rintro e w1 ⟨rfl, hk1⟩; replace HKe := Lib.hid (HKe.out.trans hk1 (fun _ _ h => h)); replace HT := Lib.hid (HTEN.out _ HKe.out); clear hk1))
  go_wp2
  go_ret
  exact ⟨rfl, HKe.out⟩
set_option maxRecDepth 100000 in
set_option maxHeartbeats 1000000 in
theorem drop_12 (w : World) (g ba : Nat) (cs : Array Value) (h4 : OneAt 302 ba (.func (.func 213) #[] #[]) w) (hc : w.heap[g]? = some (.cells cs 34 (0, 0))) (hl : cs.size = 25) : Calls Tryz.prog 269 #[pb g, pb ba] w fun e w' => e = .returned (.tuple #[]) ∧ ∃ W0 n, Kept NoB w W0 ∧ w' = (((((W0.setCell ⟨g, 17, none⟩ (.int .i64 0)).setCell ⟨g, 18, none⟩ (.int .u64 0)).setCell ⟨g, 19, none⟩ (.slice none 0 0)).setCell ⟨g, 20, none⟩ (.bool false)).setCell ⟨g, 21, none⟩ (.int .i64 0)).drewN n := by
  have HTO := Lib.hid (fun w' => to_partAt_12 w' g)
  have hent2 : ∀ (args : Array Value) (w : World), Sem.run Tryz.prog (callFunc 213 args) w = .ok (.enter 213 args) w := ent_partAt_12
  obtain ⟨W, hW⟩ : ∃ W, W = w.alloc (.cells #[.int .i64 0, .int .u64 0, .slice none 0 0, .bool false, .int .i64 0] 29 (0, 0)) := ⟨_, rfl⟩
  have hk0 : Kept NoB w W := by rw [hW]; exact (Kept.refl NoB w).alloc _
  have hz : W.heap[w.heap.size]? = some (.cells #[.int .i64 0, .int .u64 0, .slice none 0 0, .bool false, .int .i64 0] 29 (0, 0)) := by rw [hW]; exact heap_alloc_new w _
  have hgw := hk0.heap (fun h => h) hc
  have h4w := h4.no hk0
  have hne : ¬ w.heap.size = g := by have := heap_lt hc; omega
  have hne2 : ¬ g = w.heap.size := fun h => hne h.symm
  have hba : ¬ ba = g := fun h => by rw [h] at h4; unfold OneAt at h4; rw [hc] at h4; injection h4 with h4; injection h4 with h4 _ _; rw [h4] at hl; cases hl
  have hba2 : ¬ g = ba := fun h => hba h.symm
  have HTEN : Hid (∀ w', Kept NoB W w' → w'.cell? ⟨ba, 0, none⟩ = some (.func (.func 213) #[] #[]) ∧ w'.cell? ⟨w.heap.size, 0, none⟩ = some (.int .i64 0) ∧ w'.cell? ⟨w.heap.size, 1, none⟩ = some (.int .u64 0) ∧ w'.cell? ⟨w.heap.size, 2, none⟩ = some (.slice none 0 0) ∧ w'.cell? ⟨w.heap.size, 3, none⟩ = some (.bool false) ∧ w'.cell? ⟨w.heap.size, 4, none⟩ = some (.int .i64 0)) := Lib.hid (fun w' hk => ⟨(h4w.no hk).cell, hk.cell (p := ⟨w.heap.size, 0, none⟩) (fun h => h) (cell_of_row _ _ 0 _ _ _ hz), hk.cell (p := ⟨w.heap.size, 1, none⟩) (fun h => h) (cell_of_row _ _ 1 _ _ _ hz), hk.cell (p := ⟨w.heap.size, 2, none⟩) (fun h => h) (cell_of_row _ _ 2 _ _ _ hz), hk.cell (p := ⟨w.heap.size, 3, none⟩) (fun h => h) (cell_of_row _ _ 3 _ _ _ hz), hk.cell (p := ⟨w.heap.size, 4, none⟩) (fun h => h) (cell_of_row _ _ 4 _ _ _ hz)⟩)
  have HTG : Hid (∀ w', Kept NoB W w' → w'.cell? ⟨g, 17, none⟩ = some (cs[17]'(by omega)) ∧ w'.cell? ⟨g, 18, none⟩ = some (cs[18]'(by omega)) ∧ w'.cell? ⟨g, 19, none⟩ = some (cs[19]'(by omega)) ∧ w'.cell? ⟨g, 20, none⟩ = some (cs[20]'(by omega)) ∧ w'.cell? ⟨g, 21, none⟩ = some (cs[21]'(by omega))) := Lib.hid (fun w' hk => ⟨(by rw [cell_of_row _ _ _ _ _ _ (hk.heap (fun h => h) hgw)]; exact Array.getElem?_eq_getElem (by omega)), (by rw [cell_of_row _ _ _ _ _ _ (hk.heap (fun h => h) hgw)]; exact Array.getElem?_eq_getElem (by omega)), (by rw [cell_of_row _ _ _ _ _ _ (hk.heap (fun h => h) hgw)]; exact Array.getElem?_eq_getElem (by omega)), (by rw [cell_of_row _ _ _ _ _ _ (hk.heap (fun h => h) hgw)]; exact Array.getElem?_eq_getElem (by omega)), (by rw [cell_of_row _ _ _ _ _ _ (hk.heap (fun h => h) hgw)]; exact Array.getElem?_eq_getElem (by omega))⟩)
  have HZ : Hid (∀ w', Kept NoB W w' → _) := Lib.hid (fun w' hk => blkU_frozen (hk.heap (fun h => h) hgw))
  have HW := Lib.hid hW
  have HK0 := Lib.hid hk0
  clear h4 hc h4w hgw hz hW hk0
  go_enter Tryz.func269, Tryz.ntmps269
  go_wp2_with fail
  rw [← HW.out]
  obtain ⟨t0, x0, x1, x2, x3, x4⟩ := HTEN.out W (Kept.refl _ _)
  obtain ⟨y0, y1, y2, y3, y4⟩ := HTG.out W (Kept.refl _ _)
  have zg := HZ.out W (Kept.refl _ _)
  have HKe := Lib.hid (Kept.refl NoB W).drew
  have HT := Lib.hid (HTEN.out _ HKe.out)
  go_region_held3 (fun w' => w'.cell? ⟨ba, 0, none⟩ = some (.func (.func 213) #[] #[]) ∧ w'.cell? ⟨w.heap.size, 0, none⟩ = some (.int .i64 0) ∧ w'.cell? ⟨w.heap.size, 1, none⟩ = some (.int .u64 0) ∧ w'.cell? ⟨w.heap.size, 2, none⟩ = some (.slice none 0 0) ∧ w'.cell? ⟨w.heap.size, 3, none⟩ = some (.bool false) ∧ w'.cell? ⟨w.heap.size, 4, none⟩ = some (.int .i64 0)) (first | (with_reducible exact HT.out) | go_keep)
    ((go_at_call 213; (with_reducible refine (HTO.out _).mono ?_); rintro e w1 ⟨rfl, rfl⟩))
  all_goals
    go_end0
    exact ⟨rfl, W, _, HK0.out, rfl⟩

set_option maxRecDepth 100000 in
set_option maxHeartbeats 1000000 in
theorem right_13 (w : World) (g s : Nat) (xv : Value) (l : List Vt) (H : Nat → Prop) (hx : VRd w H xv l) (hv : ∀ v ∈ l, VtNm v) (h1 : OneAt 304 s (.func (.func 215) #[] #[]) w) (h4 : OneAt 308 (s + 3) (.func (.func 218) #[] #[]) w) (hc : w.cell? ⟨g, 22, none⟩ = some xv) : Calls Tryz.prog 272 #[pb g, pb s, pb (s + 3)] w (YesNoK (areVs l) w) := by
  have HCK := Lib.hid (fun w' (hk : Kept NoB w w') => areVotes_any w' xv l H (hx.no hk) hv)
  obtain ⟨xa, xc, rfl⟩ := hx.form
  have HTEN : Hid (∀ w', Kept NoB w w' → w'.cell? ⟨s, 0, none⟩ = some (.func (.func 215) #[] #[]) ∧ w'.cell? ⟨s + 3, 0, none⟩ = some (.func (.func 218) #[] #[]) ∧ w'.cell? ⟨g, 22, none⟩ = some (.slice xa l.length xc)) := Lib.hid (fun w' hk => ⟨(h1.no hk).cell, (h4.no hk).cell, hk.cell (p := ⟨g, 22, none⟩) (fun h => h) hc⟩)
  have HTO := Lib.hid (fun w' => to_partAt_13 w' g)
  have hent1 : ∀ (args : Array Value) (w : World), Sem.run Tryz.prog (callFunc 215 args) w = .ok (.enter 215 args) w := ent_areVotes
  have hent2 : ∀ (args : Array Value) (w : World), Sem.run Tryz.prog (callFunc 218 args) w = .ok (.enter 218 args) w := ent_partAt_13
  clear h1 h4 hc hx hv
  go_enter Tryz.func272, Tryz.ntmps272
  go_wp2_with fail
  have HKe := Lib.hid (Kept.refl NoB w).drew
  have HT := Lib.hid (HTEN.out _ HKe.out)
  go_region_held3 (fun w' => w'.cell? ⟨s, 0, none⟩ = some (.func (.func 215) #[] #[]) ∧ w'.cell? ⟨s + 3, 0, none⟩ = some (.func (.func 218) #[] #[]) ∧ w'.cell? ⟨g, 22, none⟩ = some (.slice xa l.length xc)) (with_reducible exact HT.out)
    (first
      | (go_at_call 218; (with_reducible refine (HTO.out _).mono ?_); rintro e w1 ⟨rfl, rfl⟩)
      | (go_at_call 215; (with_reducible refine (HCK.out _ HKe.out).mono ?_); rintro e w1 ⟨rfl, hk1⟩; replace HKe := Lib.hid (HKe.out.trans hk1 (fun _ _ h => h)); replace HT := Lib.hid (HTEN.out _ HKe.out); clear hk1))
  go_wp2
  go_ret
  exact ⟨rfl, HKe.out⟩
set_option maxRecDepth 100000 in
set_option maxHeartbeats 1000000 in
theorem drop_13 (w : World) (g ba : Nat) (cs : Array Value) (h4 : OneAt 308 ba (.func (.func 218) #[] #[]) w) (hc : w.heap[g]? = some (.cells cs 34 (0, 0))) (hl : cs.size = 25) : Calls Tryz.prog 275 #[pb g, pb ba] w fun e w' => e = .returned (.tuple #[]) ∧ w' = (w.setCell ⟨g, 22, none⟩ (.slice none 0 0)) := by
  have HTO := Lib.hid (fun w' => to_partAt_13 w' g)
  have hent2 : ∀ (args : Array Value) (w : World), Sem.run Tryz.prog (callFunc 218 args) w = .ok (.enter 218 args) w := ent_partAt_13
  have c4 := h4.cell
  have cg0 : w.cell? ⟨g, 22, none⟩ = some (cs[22]'(by omega)) := by rw [cell_of_row _ _ _ _ _ _ hc]; exact Array.getElem?_eq_getElem (by omega)
  have zg0 := blkU_frozen hc 22
  clear h4 hc
  go_enter Tryz.func275, Tryz.ntmps275
  go_wp2_with fail
  refine (HTO.out _).mono ?_
  rintro e w1 ⟨rfl, rfl⟩
  go_wp2
  go_end0
  exact ⟨rfl, rfl⟩
set_option maxRecDepth 100000 in
set_option maxHeartbeats 1000000 in
theorem right_16 (w : World) (g s : Nat) (bm : Nat) (xv : Value) (l : List Int) (H : Nat → Prop) (hx : BSl w H xv l) (hm : OneAt 3 bm (.int .i64 1024) w) (h1 : OneAt 332 s (.func (.func 285) #[] #[pb bm]) w) (h4 : OneAt 361 (s + 3) (.func (.func 288) #[] #[]) w) (hc : w.cell? ⟨g, 24, none⟩ = some xv) : Calls Tryz.prog 325 #[pb g, pb s, pb (s + 3)] w (YesNoK (decide ((l.length : Int) ≤ 1024)) w) := by
  have HCK := Lib.hid (fun w' (hk : Kept NoB w w') => data1_any w' xv l H 1024 bm (hx.kept hk (fun _ _ h => h)) (hm.no hk).cell)
  obtain ⟨xa, xc, rfl, _⟩ := id hx
  have HTEN : Hid (∀ w', Kept NoB w w' → w'.cell? ⟨s, 0, none⟩ = some (.func (.func 285) #[] #[pb bm]) ∧ w'.cell? ⟨s + 3, 0, none⟩ = some (.func (.func 288) #[] #[]) ∧ w'.cell? ⟨g, 24, none⟩ = some (.slice xa l.length xc)) := Lib.hid (fun w' hk => ⟨(h1.no hk).cell, (h4.no hk).cell, hk.cell (p := ⟨g, 24, none⟩) (fun h => h) hc⟩)
  have HTO := Lib.hid (fun w' => to_data_3 w' g)
  have hent1 : ∀ (args : Array Value) (w : World), Sem.run Tryz.prog (callFunc 285 args) w = .ok (.enter 285 args) w := ent_data_1
  have hent2 : ∀ (args : Array Value) (w : World), Sem.run Tryz.prog (callFunc 288 args) w = .ok (.enter 288 args) w := ent_data_3
  clear h1 h4 hc hx hm
  go_enter Tryz.func325, Tryz.ntmps325
  go_wp2_with fail
  have HKe := Lib.hid (Kept.refl NoB w).drew
  have HT := Lib.hid (HTEN.out _ HKe.out)
  go_region_held3 (fun w' => w'.cell? ⟨s, 0, none⟩ = some (.func (.func 285) #[] #[pb bm]) ∧ w'.cell? ⟨s + 3, 0, none⟩ = some (.func (.func 288) #[] #[]) ∧ w'.cell? ⟨g, 24, none⟩ = some (.slice xa l.length xc)) (with_reducible exact HT.out)
    (first
      | (go_at_call 288; (with_reducible refine (HTO.out _).mono ?_); rintro e w1 ⟨rfl, rfl⟩)
      | (go_at_call 285; (with_reducible refine (HCK.out _ HKe.out).mono ?_); rintro e w1 ⟨rfl, rfl⟩))
  go_wp2
  go_ret
  exact ⟨rfl, HKe.out⟩
set_option maxRecDepth 100000 in
set_option maxHeartbeats 1000000 in
theorem drop_16 (w : World) (g ba : Nat) (cs : Array Value) (h4 : OneAt 361 ba (.func (.func 288) #[] #[]) w) (hc : w.heap[g]? = some (.cells cs 34 (0, 0))) (hl : cs.size = 25) : Calls Tryz.prog 328 #[pb g, pb ba] w fun e w' => e = .returned (.tuple #[]) ∧ w' = (w.setCell ⟨g, 24, none⟩ (.slice none 0 0)) := by
  have HTO := Lib.hid (fun w' => to_data_3 w' g)
  have hent2 : ∀ (args : Array Value) (w : World), Sem.run Tryz.prog (callFunc 288 args) w = .ok (.enter 288 args) w := ent_data_3
  have c4 := h4.cell
  have cg0 : w.cell? ⟨g, 24, none⟩ = some (cs[24]'(by omega)) := by rw [cell_of_row _ _ _ _ _ _ hc]; exact Array.getElem?_eq_getElem (by omega)
  have zg0 := blkU_frozen hc 24
  clear h4 hc
  go_enter Tryz.func328, Tryz.ntmps328
  go_wp2_with fail
  refine (HTO.out _).mono ?_
  rintro e w1 ⟨rfl, rfl⟩
  go_wp2
  go_end0
  exact ⟨rfl, rfl⟩
set_option maxRecDepth 100000 in
set_option maxHeartbeats 1000000 in
theorem right_17 (w : World) (g s : Nat) (bm : Nat) (xv : Value) (l : List Int) (H : Nat → Prop) (hx : BSl w H xv l) (hm : OneAt 3 bm (.int .i64 2048) w) (h1 : OneAt 332 s (.func (.func 285) #[] #[pb bm]) w) (h4 : OneAt 361 (s + 3) (.func (.func 288) #[] #[]) w) (hc : w.cell? ⟨g, 24, none⟩ = some xv) : Calls Tryz.prog 325 #[pb g, pb s, pb (s + 3)] w (YesNoK (decide ((l.length : Int) ≤ 2048)) w) := by
  have HCK := Lib.hid (fun w' (hk : Kept NoB w w') => data1_any w' xv l H 2048 bm (hx.kept hk (fun _ _ h => h)) (hm.no hk).cell)
  obtain ⟨xa, xc, rfl, _⟩ := id hx
  have HTEN : Hid (∀ w', Kept NoB w w' → w'.cell? ⟨s, 0, none⟩ = some (.func (.func 285) #[] #[pb bm]) ∧ w'.cell? ⟨s + 3, 0, none⟩ = some (.func (.func 288) #[] #[]) ∧ w'.cell? ⟨g, 24, none⟩ = some (.slice xa l.length xc)) := Lib.hid (fun w' hk => ⟨(h1.no hk).cell, (h4.no hk).cell, hk.cell (p := ⟨g, 24, none⟩) (fun h => h) hc⟩)
  have HTO := Lib.hid (fun w' => to_data_3 w' g)
  have hent1 : ∀ (args : Array Value) (w : World), Sem.run Tryz.prog (callFunc 285 args) w = .ok (.enter 285 args) w := ent_data_1
  have hent2 : ∀ (args : Array Value) (w : World), Sem.run Tryz.prog (callFunc 288 args) w = .ok (.enter 288 args) w := ent_data_3
  clear h1 h4 hc hx hm
  go_enter Tryz.func325, Tryz.ntmps325
  go_wp2_with fail
  have HKe := Lib.hid (Kept.refl NoB w).drew
  have HT := Lib.hid (HTEN.out _ HKe.out)
  go_region_held3 (fun w' => w'.cell? ⟨s, 0, none⟩ = some (.func (.func 285) #[] #[pb bm]) ∧ w'.cell? ⟨s + 3, 0, none⟩ = some (.func (.func 288) #[] #[]) ∧ w'.cell? ⟨g, 24, none⟩ = some (.slice xa l.length xc)) (with_reducible exact HT.out)
    (first
      | (go_at_call 288; (with_reducible refine (HTO.out _).mono ?_); rintro e w1 ⟨rfl, rfl⟩)
      | (go_at_call 285; (with_reducible refine (HCK.out _ HKe.out).mono ?_); rintro e w1 ⟨rfl, rfl⟩))
  go_wp2
  go_ret
  exact ⟨rfl, HKe.out⟩
end Go.Proofs.YtcbenminaakahaaGreatDoor
