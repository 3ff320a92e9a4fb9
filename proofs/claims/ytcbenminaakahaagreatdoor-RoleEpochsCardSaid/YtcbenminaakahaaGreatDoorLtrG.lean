/-
  Package letter: what a part's right and drop do, for the parts that an update's letters have.
-/
import Derived.Test.YtcbenminaakahaaGreatDoorLtrF
namespace Go.Proofs.YtcbenminaakahaaGreatDoor
open Go.RowKit
set_option linter.unusedVariables false
set_option linter.unusedSimpArgs false

set_option maxRecDepth 100000 in
set_option maxHeartbeats 1000000 in
theorem right_1 (w : World) (g s : Nat) (bm : Nat) (x : Int) (hm : OneAt 3 bm (.int .i64 3) w) (h1 : OneAt 40 s (.func (.func 252) #[] #[pb bm]) w) (h4 : OneAt 283 (s + 3) (.func (.func 190) #[] #[]) w) (hc : w.cell? ⟨g, 3, none⟩ = some (.int .i64 x)) : Calls Tryz.prog 309 #[pb g, pb s, pb (s + 3)] w (YesNoK (decide (0 ≤ x) && decide (x ≤ 3)) w) := by
  have HCK := Lib.hid (fun w' (hk : Kept NoB w w') => uptoInt_any w' x 3 bm (hm.no hk).cell)
  have HTEN : Hid (∀ w', Kept NoB w w' → w'.cell? ⟨s, 0, none⟩ = some (.func (.func 252) #[] #[pb bm]) ∧ w'.cell? ⟨s + 3, 0, none⟩ = some (.func (.func 190) #[] #[]) ∧ w'.cell? ⟨g, 3, none⟩ = some (.int .i64 x)) := Lib.hid (fun w' hk => ⟨(h1.no hk).cell, (h4.no hk).cell, hk.cell (p := ⟨g, 3, none⟩) (fun h => h) hc⟩)
  have HTO := Lib.hid (fun w' => to_partAt_2 w' g)
  have hent1 : ∀ (args : Array Value) (w : World), Sem.run Tryz.prog (callFunc 252 args) w = .ok (.enter 252 args) w := ent_upto_int
  have hent2 : ∀ (args : Array Value) (w : World), Sem.run Tryz.prog (callFunc 190 args) w = .ok (.enter 190 args) w := ent_partAt_2
  clear h1 h4 hc hm
  go_enter Tryz.func309, Tryz.ntmps309
  go_wp2_with fail
  have HKe := Lib.hid (Kept.refl NoB w).drew
  have HT := Lib.hid (HTEN.out _ HKe.out)
  go_region_held3 (fun w' => w'.cell? ⟨s, 0, none⟩ = some (.func (.func 252) #[] #[pb bm]) ∧ w'.cell? ⟨s + 3, 0, none⟩ = some (.func (.func 190) #[] #[]) ∧ w'.cell? ⟨g, 3, none⟩ = some (.int .i64 x)) (with_reducible exact HT.out)
    (first
      | (go_at_call 190; (with_reducible refine (HTO.out _).mono ?_); rintro e w1 ⟨rfl, rfl⟩)
      | (go_at_call 252; (with_reducible refine (HCK.out _ HKe.out).mono ?_); rintro e w1 ⟨rfl, rfl⟩))
  go_wp2
  go_ret
  exact ⟨rfl, HKe.out⟩
set_option maxRecDepth 100000 in
theorem drop_1 (w : World) (g ba : Nat) (cs : Array Value) (h4 : OneAt 283 ba (.func (.func 190) #[] #[]) w) (hc : w.heap[g]? = some (.cells cs 34 (0, 0))) (hl : cs.size = 25) : Calls Tryz.prog 312 #[pb g, pb ba] w fun e w' => e = .returned (.tuple #[]) ∧ w' = w.setCell ⟨g, 3, none⟩ (.int .i64 0) := by
  have HTO := Lib.hid (fun w' => to_partAt_2 w' g)
  have hent2 : ∀ (args : Array Value) (w : World), Sem.run Tryz.prog (callFunc 190 args) w = .ok (.enter 190 args) w := ent_partAt_2
  have c4 := h4.cell
  have cg : w.cell? ⟨g, 3, none⟩ = some (cs[3]'(by omega)) := by rw [cell_of_row _ _ _ _ _ _ hc]; exact Array.getElem?_eq_getElem (by omega)
  have zg := blkU_frozen hc 3
  clear h4 hc
  go_enter Tryz.func312, Tryz.ntmps312
  go_wp2_with fail
  refine (HTO.out _).mono ?_
  rintro e w1 ⟨rfl, rfl⟩
  go_wp2
  go_end0
  exact ⟨rfl, rfl⟩
set_option maxRecDepth 100000 in
set_option maxHeartbeats 1000000 in
theorem right_2 (w : World) (g s : Nat) (x : Int) (h1 : OneAt 182 s (.func (.func 191) #[] #[]) w) (h4 : OneAt 279 (s + 3) (.func (.func 192) #[] #[]) w) (hc : w.cell? ⟨g, 4, none⟩ = some (.int .u64 x)) : Calls Tryz.prog 304 #[pb g, pb s, pb (s + 3)] w (YesNoK (decide (1 ≤ x)) w) := by
  have HCK := Lib.hid (fun w' (hk : Kept NoB w w') => isPositive_any w' x)
  have HTEN : Hid (∀ w', Kept NoB w w' → w'.cell? ⟨s, 0, none⟩ = some (.func (.func 191) #[] #[]) ∧ w'.cell? ⟨s + 3, 0, none⟩ = some (.func (.func 192) #[] #[]) ∧ w'.cell? ⟨g, 4, none⟩ = some (.int .u64 x)) := Lib.hid (fun w' hk => ⟨(h1.no hk).cell, (h4.no hk).cell, hk.cell (p := ⟨g, 4, none⟩) (fun h => h) hc⟩)
  have HTO := Lib.hid (fun w' => to_partAt_3 w' g)
  have hent1 : ∀ (args : Array Value) (w : World), Sem.run Tryz.prog (callFunc 191 args) w = .ok (.enter 191 args) w := ent_isPositive
  have hent2 : ∀ (args : Array Value) (w : World), Sem.run Tryz.prog (callFunc 192 args) w = .ok (.enter 192 args) w := ent_partAt_3
  clear h1 h4 hc
  go_enter Tryz.func304, Tryz.ntmps304
  go_wp2_with fail
  have HKe := Lib.hid (Kept.refl NoB w).drew
  have HT := Lib.hid (HTEN.out _ HKe.out)
  go_region_held3 (fun w' => w'.cell? ⟨s, 0, none⟩ = some (.func (.func 191) #[] #[]) ∧ w'.cell? ⟨s + 3, 0, none⟩ = some (.func (.func 192) #[] #[]) ∧ w'.cell? ⟨g, 4, none⟩ = some (.int .u64 x)) (with_reducible exact HT.out)
    (first
      | (go_at_call 192; (with_reducible refine (HTO.out _).mono ?_); rintro e w1 ⟨rfl, rfl⟩)
      | (go_at_call 191; (with_reducible refine (HCK.out _ HKe.out).mono ?_); rintro e w1 ⟨rfl, rfl⟩))
  go_wp2
  go_ret
  exact ⟨rfl, HKe.out⟩
set_option maxRecDepth 100000 in
theorem drop_2 (w : World) (g ba : Nat) (cs : Array Value) (h4 : OneAt 279 ba (.func (.func 192) #[] #[]) w) (hc : w.heap[g]? = some (.cells cs 34 (0, 0))) (hl : cs.size = 25) : Calls Tryz.prog 307 #[pb g, pb ba] w fun e w' => e = .returned (.tuple #[]) ∧ w' = w.setCell ⟨g, 4, none⟩ (.int .u64 0) := by
  have HTO := Lib.hid (fun w' => to_partAt_3 w' g)
  have hent2 : ∀ (args : Array Value) (w : World), Sem.run Tryz.prog (callFunc 192 args) w = .ok (.enter 192 args) w := ent_partAt_3
  have c4 := h4.cell
  have cg : w.cell? ⟨g, 4, none⟩ = some (cs[4]'(by omega)) := by rw [cell_of_row _ _ _ _ _ _ hc]; exact Array.getElem?_eq_getElem (by omega)
  have zg := blkU_frozen hc 4
  clear h4 hc
  go_enter Tryz.func307, Tryz.ntmps307
  go_wp2_with fail
  refine (HTO.out _).mono ?_
  rintro e w1 ⟨rfl, rfl⟩
  go_wp2
  go_end0
  exact ⟨rfl, rfl⟩
set_option maxRecDepth 100000 in
set_option maxHeartbeats 1000000 in
theorem right_3 (w : World) (g s : Nat) (x : Int) (h1 : OneAt 182 s (.func (.func 193) #[] #[]) w) (h4 : OneAt 279 (s + 3) (.func (.func 194) #[] #[]) w) (hc : w.cell? ⟨g, 7, none⟩ = some (.int .u64 x)) : Calls Tryz.prog 304 #[pb g, pb s, pb (s + 3)] w (YesNoK (true) w) := by
  have HCK := Lib.hid (fun w' (hk : Kept NoB w w') => anyU64_any w' x)
  have HTEN : Hid (∀ w', Kept NoB w w' → w'.cell? ⟨s, 0, none⟩ = some (.func (.func 193) #[] #[]) ∧ w'.cell? ⟨s + 3, 0, none⟩ = some (.func (.func 194) #[] #[]) ∧ w'.cell? ⟨g, 7, none⟩ = some (.int .u64 x)) := Lib.hid (fun w' hk => ⟨(h1.no hk).cell, (h4.no hk).cell, hk.cell (p := ⟨g, 7, none⟩) (fun h => h) hc⟩)
  have HTO := Lib.hid (fun w' => to_partAt_4 w' g)
  have hent1 : ∀ (args : Array Value) (w : World), Sem.run Tryz.prog (callFunc 193 args) w = .ok (.enter 193 args) w := ent_any_u64
  have hent2 : ∀ (args : Array Value) (w : World), Sem.run Tryz.prog (callFunc 194 args) w = .ok (.enter 194 args) w := ent_partAt_4
  clear h1 h4 hc
  go_enter Tryz.func304, Tryz.ntmps304
  go_wp2_with fail
  have HKe := Lib.hid (Kept.refl NoB w).drew
  have HT := Lib.hid (HTEN.out _ HKe.out)
  go_region_held3 (fun w' => w'.cell? ⟨s, 0, none⟩ = some (.func (.func 193) #[] #[]) ∧ w'.cell? ⟨s + 3, 0, none⟩ = some (.func (.func 194) #[] #[]) ∧ w'.cell? ⟨g, 7, none⟩ = some (.int .u64 x)) (with_reducible exact HT.out)
    (first
      | (go_at_call 194; (with_reducible refine (HTO.out _).mono ?_); rintro e w1 ⟨rfl, rfl⟩)
      | (go_at_call 193; (with_reducible refine (HCK.out _ HKe.out).mono ?_); rintro e w1 ⟨rfl, rfl⟩))
  go_wp2
  go_ret
  exact ⟨rfl, HKe.out⟩
set_option maxRecDepth 100000 in
theorem drop_3 (w : World) (g ba : Nat) (cs : Array Value) (h4 : OneAt 279 ba (.func (.func 194) #[] #[]) w) (hc : w.heap[g]? = some (.cells cs 34 (0, 0))) (hl : cs.size = 25) : Calls Tryz.prog 307 #[pb g, pb ba] w fun e w' => e = .returned (.tuple #[]) ∧ w' = w.setCell ⟨g, 7, none⟩ (.int .u64 0) := by
  have HTO := Lib.hid (fun w' => to_partAt_4 w' g)
  have hent2 : ∀ (args : Array Value) (w : World), Sem.run Tryz.prog (callFunc 194 args) w = .ok (.enter 194 args) w := ent_partAt_4
  have c4 := h4.cell
  have cg : w.cell? ⟨g, 7, none⟩ = some (cs[7]'(by omega)) := by rw [cell_of_row _ _ _ _ _ _ hc]; exact Array.getElem?_eq_getElem (by omega)
  have zg := blkU_frozen hc 7
  clear h4 hc
  go_enter Tryz.func307, Tryz.ntmps307
  go_wp2_with fail
  refine (HTO.out _).mono ?_
  rintro e w1 ⟨rfl, rfl⟩
  go_wp2
  go_end0
  exact ⟨rfl, rfl⟩
set_option maxRecDepth 100000 in
set_option maxHeartbeats 1000000 in
theorem right_4 (w : World) (g s : Nat) (x : Int) (h1 : OneAt 182 s (.func (.func 193) #[] #[]) w) (h4 : OneAt 279 (s + 3) (.func (.func 195) #[] #[]) w) (hc : w.cell? ⟨g, 8, none⟩ = some (.int .u64 x)) : Calls Tryz.prog 304 #[pb g, pb s, pb (s + 3)] w (YesNoK (true) w) := by
  have HCK := Lib.hid (fun w' (hk : Kept NoB w w') => anyU64_any w' x)
  have HTEN : Hid (∀ w', Kept NoB w w' → w'.cell? ⟨s, 0, none⟩ = some (.func (.func 193) #[] #[]) ∧ w'.cell? ⟨s + 3, 0, none⟩ = some (.func (.func 195) #[] #[]) ∧ w'.cell? ⟨g, 8, none⟩ = some (.int .u64 x)) := Lib.hid (fun w' hk => ⟨(h1.no hk).cell, (h4.no hk).cell, hk.cell (p := ⟨g, 8, none⟩) (fun h => h) hc⟩)
  have HTO := Lib.hid (fun w' => to_partAt_5 w' g)
  have hent1 : ∀ (args : Array Value) (w : World), Sem.run Tryz.prog (callFunc 193 args) w = .ok (.enter 193 args) w := ent_any_u64
  have hent2 : ∀ (args : Array Value) (w : World), Sem.run Tryz.prog (callFunc 195 args) w = .ok (.enter 195 args) w := ent_partAt_5
  clear h1 h4 hc
  go_enter Tryz.func304, Tryz.ntmps304
  go_wp2_with fail
  have HKe := Lib.hid (Kept.refl NoB w).drew
  have HT := Lib.hid (HTEN.out _ HKe.out)
  go_region_held3 (fun w' => w'.cell? ⟨s, 0, none⟩ = some (.func (.func 193) #[] #[]) ∧ w'.cell? ⟨s + 3, 0, none⟩ = some (.func (.func 195) #[] #[]) ∧ w'.cell? ⟨g, 8, none⟩ = some (.int .u64 x)) (with_reducible exact HT.out)
    (first
      | (go_at_call 195; (with_reducible refine (HTO.out _).mono ?_); rintro e w1 ⟨rfl, rfl⟩)
      | (go_at_call 193; (with_reducible refine (HCK.out _ HKe.out).mono ?_); rintro e w1 ⟨rfl, rfl⟩))
  go_wp2
  go_ret
  exact ⟨rfl, HKe.out⟩
set_option maxRecDepth 100000 in
theorem drop_4 (w : World) (g ba : Nat) (cs : Array Value) (h4 : OneAt 279 ba (.func (.func 195) #[] #[]) w) (hc : w.heap[g]? = some (.cells cs 34 (0, 0))) (hl : cs.size = 25) : Calls Tryz.prog 307 #[pb g, pb ba] w fun e w' => e = .returned (.tuple #[]) ∧ w' = w.setCell ⟨g, 8, none⟩ (.int .u64 0) := by
  have HTO := Lib.hid (fun w' => to_partAt_5 w' g)
  have hent2 : ∀ (args : Array Value) (w : World), Sem.run Tryz.prog (callFunc 195 args) w = .ok (.enter 195 args) w := ent_partAt_5
  have c4 := h4.cell
  have cg : w.cell? ⟨g, 8, none⟩ = some (cs[8]'(by omega)) := by rw [cell_of_row _ _ _ _ _ _ hc]; exact Array.getElem?_eq_getElem (by omega)
  have zg := blkU_frozen hc 8
  clear h4 hc
  go_enter Tryz.func307, Tryz.ntmps307
  go_wp2_with fail
  refine (HTO.out _).mono ?_
  rintro e w1 ⟨rfl, rfl⟩
  go_wp2
  go_end0
  exact ⟨rfl, rfl⟩
set_option maxRecDepth 100000 in
set_option maxHeartbeats 1000000 in
theorem right_14 (w : World) (g s : Nat) (x : Value) (l : List Up) (F : Nat → Prop) (hx : UsAt w F x l) (h1 : OneAt 310 s (.func (.func 220) #[] #[]) w) (h4 : OneAt 314 (s + 3) (.func (.func 223) #[] #[]) w) (hc : w.cell? ⟨g, 23, none⟩ = some x) : Calls Tryz.prog 276 #[pb g, pb s, pb (s + 3)] w (YesNoK (areUs l) w) := by
  have HCK := Lib.hid (fun w' (hk : Kept NoB w w') => areUpdates_any w' x l F (hx.no hk))
  obtain ⟨xa, xc, rfl⟩ := hx.form
  have HTEN : Hid (∀ w', Kept NoB w w' → w'.cell? ⟨s, 0, none⟩ = some (.func (.func 220) #[] #[]) ∧ w'.cell? ⟨s + 3, 0, none⟩ = some (.func (.func 223) #[] #[]) ∧ w'.cell? ⟨g, 23, none⟩ = some (.slice xa l.length xc)) := Lib.hid (fun w' hk => ⟨(h1.no hk).cell, (h4.no hk).cell, hk.cell (p := ⟨g, 23, none⟩) (fun h => h) hc⟩)
  have HTO := Lib.hid (fun w' => to_partAt_14 w' g)
  have hent1 : ∀ (args : Array Value) (w : World), Sem.run Tryz.prog (callFunc 220 args) w = .ok (.enter 220 args) w := ent_areUpdates
  have hent2 : ∀ (args : Array Value) (w : World), Sem.run Tryz.prog (callFunc 223 args) w = .ok (.enter 223 args) w := ent_partAt_14
  clear h1 h4 hc hx
  go_enter Tryz.func276, Tryz.ntmps276
  go_wp2_with fail
  have HKe := Lib.hid (Kept.refl NoB w).drew
  have HT := Lib.hid (HTEN.out _ HKe.out)
  go_region_held3 (fun w' => w'.cell? ⟨s, 0, none⟩ = some (.func (.func 220) #[] #[]) ∧ w'.cell? ⟨s + 3, 0, none⟩ = some (.func (.func 223) #[] #[]) ∧ w'.cell? ⟨g, 23, none⟩ = some (.slice xa l.length xc)) (with_reducible exact HT.out)
    (first
      | (go_at_call 223; (with_reducible refine (HTO.out _).mono ?_); rintro e w1 ⟨rfl, rfl⟩)
      | (go_at_call 220; (with_reducible refine (HCK.out _ HKe.out).mono ?_); rintro e w1 ⟨rfl, hk1⟩; replace HKe := Lib.hid (HKe.out.trans hk1 (fun _ _ h => h)); replace HT := Lib.hid (HTEN.out _ HKe.out); clear hk1))
  go_wp2
  go_ret
  exact ⟨rfl, HKe.out⟩
set_option maxRecDepth 100000 in
theorem drop_14 (w : World) (g ba : Nat) (cs : Array Value) (h4 : OneAt 314 ba (.func (.func 223) #[] #[]) w) (hc : w.heap[g]? = some (.cells cs 34 (0, 0))) (hl : cs.size = 25) : Calls Tryz.prog 279 #[pb g, pb ba] w fun e w' => e = .returned (.tuple #[]) ∧ w' = w.setCell ⟨g, 23, none⟩ (.slice none 0 0) := by
  have HTO := Lib.hid (fun w' => to_partAt_14 w' g)
  have hent2 : ∀ (args : Array Value) (w : World), Sem.run Tryz.prog (callFunc 223 args) w = .ok (.enter 223 args) w := ent_partAt_14
  have c4 := h4.cell
  have cg : w.cell? ⟨g, 23, none⟩ = some (cs[23]'(by omega)) := by rw [cell_of_row _ _ _ _ _ _ hc]; exact Array.getElem?_eq_getElem (by omega)
  have zg := blkU_frozen hc 23
  clear h4 hc
  go_enter Tryz.func279, Tryz.ntmps279
  go_wp2_with fail
  refine (HTO.out _).mono ?_
  rintro e w1 ⟨rfl, rfl⟩
  go_wp2
  go_end0
  exact ⟨rfl, rfl⟩
set_option maxRecDepth 100000 in
set_option maxHeartbeats 1000000 in
theorem right_15 (w : World) (g s : Nat) (x : Value) (l : List Up) (F : Nat → Prop) (hx : UsAt w F x l) (h1 : OneAt 310 s (.func (.func 224) #[] #[]) w) (h4 : OneAt 314 (s + 3) (.func (.func 225) #[] #[]) w) (hc : w.cell? ⟨g, 23, none⟩ = some x) : Calls Tryz.prog 276 #[pb g, pb s, pb (s + 3)] w (YesNoK (areReq l) w) := by
  have HCK := Lib.hid (fun w' (hk : Kept NoB w w') => areRequest_any w' x l F (hx.no hk))
  obtain ⟨xa, xc, rfl⟩ := hx.form
  have HTEN : Hid (∀ w', Kept NoB w w' → w'.cell? ⟨s, 0, none⟩ = some (.func (.func 224) #[] #[]) ∧ w'.cell? ⟨s + 3, 0, none⟩ = some (.func (.func 225) #[] #[]) ∧ w'.cell? ⟨g, 23, none⟩ = some (.slice xa l.length xc)) := Lib.hid (fun w' hk => ⟨(h1.no hk).cell, (h4.no hk).cell, hk.cell (p := ⟨g, 23, none⟩) (fun h => h) hc⟩)
  have HTO := Lib.hid (fun w' => to_partAt_15 w' g)
  have hent1 : ∀ (args : Array Value) (w : World), Sem.run Tryz.prog (callFunc 224 args) w = .ok (.enter 224 args) w := ent_areRequest
  have hent2 : ∀ (args : Array Value) (w : World), Sem.run Tryz.prog (callFunc 225 args) w = .ok (.enter 225 args) w := ent_partAt_15
  clear h1 h4 hc hx
  go_enter Tryz.func276, Tryz.ntmps276
  go_wp2_with fail
  have HKe := Lib.hid (Kept.refl NoB w).drew
  have HT := Lib.hid (HTEN.out _ HKe.out)
  go_region_held3 (fun w' => w'.cell? ⟨s, 0, none⟩ = some (.func (.func 224) #[] #[]) ∧ w'.cell? ⟨s + 3, 0, none⟩ = some (.func (.func 225) #[] #[]) ∧ w'.cell? ⟨g, 23, none⟩ = some (.slice xa l.length xc)) (with_reducible exact HT.out)
    (first
      | (go_at_call 225; (with_reducible refine (HTO.out _).mono ?_); rintro e w1 ⟨rfl, rfl⟩)
      | (go_at_call 224; (with_reducible refine (HCK.out _ HKe.out).mono ?_); rintro e w1 ⟨rfl, hk1⟩; replace HKe := Lib.hid (HKe.out.trans hk1 (fun _ _ h => h)); replace HT := Lib.hid (HTEN.out _ HKe.out); clear hk1))
  go_wp2
  go_ret
  exact ⟨rfl, HKe.out⟩
set_option maxRecDepth 100000 in
theorem drop_15 (w : World) (g ba : Nat) (cs : Array Value) (h4 : OneAt 314 ba (.func (.func 225) #[] #[]) w) (hc : w.heap[g]? = some (.cells cs 34 (0, 0))) (hl : cs.size = 25) : Calls Tryz.prog 279 #[pb g, pb ba] w fun e w' => e = .returned (.tuple #[]) ∧ w' = w.setCell ⟨g, 23, none⟩ (.slice none 0 0) := by
  have HTO := Lib.hid (fun w' => to_partAt_15 w' g)
  have hent2 : ∀ (args : Array Value) (w : World), Sem.run Tryz.prog (callFunc 225 args) w = .ok (.enter 225 args) w := ent_partAt_15
  have c4 := h4.cell
  have cg : w.cell? ⟨g, 23, none⟩ = some (cs[23]'(by omega)) := by rw [cell_of_row _ _ _ _ _ _ hc]; exact Array.getElem?_eq_getElem (by omega)
  have zg := blkU_frozen hc 23
  clear h4 hc
  go_enter Tryz.func279, Tryz.ntmps279
  go_wp2_with fail
  refine (HTO.out _).mono ?_
  rintro e w1 ⟨rfl, rfl⟩
  go_wp2
  go_end0
  exact ⟨rfl, rfl⟩
end Go.Proofs.YtcbenminaakahaaGreatDoor
