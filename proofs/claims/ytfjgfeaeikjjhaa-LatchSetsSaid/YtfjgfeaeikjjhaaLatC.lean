/-
  The walk of LatchSets.
-/
import Derived.Test.YtfjgfeaeikjjhaaLatB
import Derived.LoopTactic
import Derived.Deep.RegionHeld3
import Derived.Deep.DeepMust
namespace Go.Proofs.Ytfjgfeaeikjjhaa
open Go.RowKit
set_option linter.unusedVariables false

/-- A call: its kind, its value. -/
structure Act' where
  kind : Int
  v : Int
/-- The value is a slice of n calls. -/
def ActsAt (w : World) (v : Value) (n : Nat) (it : Nat → Act') : Prop :=
  ∃ a cap, v = .slice a n cap ∧ n ≤ 9223372036854775807 ∧ (0 < n → ∃ b o, a = some ⟨b, o, none⟩ ∧ b < w.heap.size ∧ ∀ j, j < n → w.cell? ⟨b, o + j * 2, none⟩ = some (.int .i64 (it j).kind) ∧
    w.cell? ⟨b, o + j * 2 + 1, none⟩ = some (.int .u64 (it j).v))

/-- What was kept goes on to be, a draw ahead of the call or none. -/
theorem first_kept {a b c : World} (h : Kept NoB a b) (k : Kept NoB b c) : Kept NoB a c := h.trans k (fun _ _ h => h)

/-- What holds at each round's head. -/
def LsRel (w wr : World) (g r : Nat) : Prop :=
  ∃ b v, LatAtU wr g b v ∧ (b = false → v = 0) ∧ wr.heap[r]? = some (.cells #[.int .u64 v, .bool b] 27 (0, 0)) ∧ Kept NoB w wr

set_option maxRecDepth 100000 in
set_option maxHeartbeats 2000000 in
theorem LatchSets_any (v : Value) (n : Nat) (it : Nat → Act') (w : World) (h : ActsAt w v n it) :
    Calls Try.prog 3 #[v] w fun e w' => e = .returned (.bool true) ∧ Kept NoB w w' := by
  obtain ⟨a, cap, rfl, hn, hc⟩ := h
  have HC := Lib.hid hc
  clear hc
  go_enter Try.func3, Try.ntmps3
  go_wp2_with fail
  refine (NewU_any _).mono ?_
  rintro e w1 ⟨rfl, h1, hk1, hz1⟩
  have H1 := Lib.hid (blk_alloc h1 (.cells #[.int .u64 0, .bool false] 27))
  have H2 := Lib.hid (heap_alloc_new w1 (.cells #[.int .u64 0, .bool false] 27))
  have K1 := Lib.hid (hk1.alloc (.cells #[.int .u64 0, .bool false] 27))
  clear h1 hk1
  go_wp2
  go_loopw [5] (fun i wr => ∃ k : Nat, i = .int .i64 k ∧ k ≤ n ∧ k ≤ 40 ∧ LsRel w wr w.heap.size w1.heap.size) (fun i _ => 40 - (intOf i).toNat)
  case atStart => exact ⟨0, rfl, by omega, by omega, false, 0, H1.out, fun _ => rfl, H2.out, K1.out⟩
  case round =>
    obtain ⟨k, rfl, hk, hk40, bb, vv, hl, h0, hr, hkk⟩ := hrel
    have HL := Lib.hid hl
    have H0 := Lib.hid h0
    have HR := Lib.hid hr
    have HK := Lib.hid hkk
    clear hl h0 hr hkk
    by_cases hlt : k < n
    · by_cases h40 : k < 40
      · obtain ⟨b, o, rfl, hb, hcell⟩ := HC.out (by omega)
        have HB := Lib.hid hb
        obtain ⟨e0, e1⟩ := hcell k hlt
        have c0 := HK.out.cell (p := ⟨b, o + k * 2, none⟩) (fun h => h) e0
        have c1 := HK.out.cell (p := ⟨b, o + k * 2 + 1, none⟩) (fun h => h) e1
        clear hcell e0 e1 hb
        obtain ⟨kd, hkd⟩ : ∃ kd, kd = (it k).kind := ⟨_, rfl⟩
        obtain ⟨x, hx⟩ : ∃ x, x = (it k).v := ⟨_, rfl⟩
        rw [← hkd] at c0
        rw [← hx] at c1
        clear hkd hx
        have r0 : wr.cell? ⟨w1.heap.size, 0, none⟩ = some (.int .u64 vv) := cell_of_row wr _ 0 _ _ _ HR.out
        have r1 : wr.cell? ⟨w1.heap.size, 1, none⟩ = some (.bool bb) := cell_of_row wr _ 1 _ _ _ HR.out
        have rz := heap_lt HR.out
        have ra : wr.heap.size < (wr.alloc (.cells #[.int .i64 kd, .int .u64 x] 29)).heap.size := by simp
        have KA := Lib.hid ((Kept.refl NoB wr).alloc (.cells #[.int .i64 kd, .int .u64 x] 29))
        have BA := Lib.hid (heap_alloc_new wr (.cells #[.int .i64 kd, .int .u64 x] 29))
        by_cases hk0 : kd = 0
        · subst hk0
          cases bb
          · obtain rfl := H0.out rfl
            go_wp2_with fail
            refine (RSet_no _ _ _).mono ?_
            rintro e w2 ⟨rfl, hk2⟩
            have K2 := Lib.hid (KA.out.trans hk2 (fun _ _ h => h))
            have B2 := Lib.hid (hk2.heap (fun h => h) BA.out)
            have r20 : w2.cell? ⟨w1.heap.size, 0, none⟩ = some (.int .u64 0) := cell_of_row _ _ 0 _ _ _ (K2.out.heap (fun h => h) HR.out)
            have r21 : w2.cell? ⟨w1.heap.size, 1, none⟩ = some (.bool false) := cell_of_row _ _ 1 _ _ _ (K2.out.heap (fun h => h) HR.out)
            have z20 : w2.frozen? ⟨w1.heap.size, 0, none⟩ = false := blk_frozen0 (K2.out.heap (fun h => h) HR.out) 0
            have z21 : w2.frozen? ⟨w1.heap.size, 1, none⟩ = false := blk_frozen0 (K2.out.heap (fun h => h) HR.out) 1
            have a21 : w2.cell? ⟨wr.heap.size, 1, none⟩ = some (.int .u64 x) := cell_of_row _ _ 1 _ _ _ B2.out
            have s2 : w1.heap.size < w2.heap.size := Nat.lt_of_lt_of_le rz K2.out.size
            have B3 := Lib.hid (heap_alloc_new w2 (.cells #[.int .u64 x, .bool true] 27))
            have G3 := Lib.hid (blk_alloc (K2.out.heap (fun h => h) HR.out) (.cells #[.int .u64 x, .bool true] 27))
            have q30 : (w2.alloc (.cells #[.int .u64 x, .bool true] 27)).frozen? ⟨w1.heap.size, 0, none⟩ = false := blk_frozen0 G3.out 0
            have q31 : (w2.alloc (.cells #[.int .u64 x, .bool true] 27)).frozen? ⟨w1.heap.size, 1, none⟩ = false := blk_frozen0 G3.out 1
            have a31 : ((w2.setCell ⟨w1.heap.size, 0, none⟩ (.int .u64 x)).setCell ⟨w1.heap.size, 1, none⟩ (.bool true)).cell? ⟨wr.heap.size, 1, none⟩ = some (.int .u64 x) :=
              cell_of_row _ _ 1 _ _ _ (blk_set_other (blk_set_other B2.out 0 _ (by omega)) 1 _ (by omega))
            have a32 : (((w2.setCell ⟨w1.heap.size, 0, none⟩ (.int .u64 x)).setCell ⟨w1.heap.size, 1, none⟩ (.bool true)).alloc (.cells #[.int .u64 x, .bool true] 27)).cell? ⟨wr.heap.size, 1, none⟩ = some (.int .u64 x) := cell_alloc a31 _
            have L3 := Lib.hid (blk_alloc (blk_set_other (blk_set_other (K2.out.heap (fun h => h) HL.out) 0 (.int .u64 x) (k := w1.heap.size) (by omega)) 1 (.bool true) (k := w1.heap.size) (by omega)) (.cells #[.int .u64 x, .bool true] 27))
            have R3 := Lib.hid (blk_alloc (blk_set (blk_set (K2.out.heap (fun h => h) HR.out) 0 (.int .u64 x)) 1 (.bool true)) (.cells #[.int .u64 x, .bool true] 27))
            have K3 := Lib.hid ((((HK.out.trans K2.out (fun _ _ h => h)).setCell (p := ⟨w1.heap.size, 0, none⟩) (.inr (by show w.heap.size ≤ w1.heap.size; omega)) (.int .u64 x)).setCell (p := ⟨w1.heap.size, 1, none⟩) (.inr (by show w.heap.size ≤ w1.heap.size; omega)) (.bool true)).alloc (.cells #[.int .u64 x, .bool true] 27))
            clear hk2
            go_wp2_with fail
            refine (SetU_first _ x _ L3.out).mono ?_
            rintro e w4 ⟨rfl, hl4, hk4⟩
            have L4 := Lib.hid hl4
            have R4 := Lib.hid (hk4.heap (fun h => by have h : w1.heap.size = w.heap.size := h; omega) R3.out)
            have K4 := Lib.hid (K3.out.trans hk4 (fun i hi h => by have h : i = w.heap.size := h; omega))
            clear hl4 hk4 a31 a32 a21 r20 r21 z20 z21 q30 q31 c0 c1 r0 r1
            go_wp2
            exact ⟨⟨k + 1, by go_num, by omega, by omega, true, x, L4.out, (fun h => by cases h), R4.out, K4.out⟩, by simp [intOf]; omega⟩
          · clear H0
            go_wp2_with fail
            refine (RSet_yes _ _ _).mono ?_
            rintro e w2 ⟨rfl, hk2⟩
            have K2 := Lib.hid (KA.out.trans hk2 (fun _ _ h => h))
            have B2 := Lib.hid (hk2.heap (fun h => h) BA.out)
            have r20 : w2.cell? ⟨w1.heap.size, 0, none⟩ = some (.int .u64 vv) := cell_of_row _ _ 0 _ _ _ (K2.out.heap (fun h => h) HR.out)
            have r21 : w2.cell? ⟨w1.heap.size, 1, none⟩ = some (.bool true) := cell_of_row _ _ 1 _ _ _ (K2.out.heap (fun h => h) HR.out)
            have z20 : w2.frozen? ⟨w1.heap.size, 0, none⟩ = false := blk_frozen0 (K2.out.heap (fun h => h) HR.out) 0
            have z21 : w2.frozen? ⟨w1.heap.size, 1, none⟩ = false := blk_frozen0 (K2.out.heap (fun h => h) HR.out) 1
            have a21 : w2.cell? ⟨wr.heap.size, 1, none⟩ = some (.int .u64 x) := cell_of_row _ _ 1 _ _ _ B2.out
            have s2 : w1.heap.size < w2.heap.size := Nat.lt_of_lt_of_le rz K2.out.size
            have B3 := Lib.hid (heap_alloc_new w2 (.cells #[.int .u64 vv, .bool true] 27))
            have G3 := Lib.hid (blk_alloc (K2.out.heap (fun h => h) HR.out) (.cells #[.int .u64 vv, .bool true] 27))
            have q30 : (w2.alloc (.cells #[.int .u64 vv, .bool true] 27)).frozen? ⟨w1.heap.size, 0, none⟩ = false := blk_frozen0 G3.out 0
            have q31 : (w2.alloc (.cells #[.int .u64 vv, .bool true] 27)).frozen? ⟨w1.heap.size, 1, none⟩ = false := blk_frozen0 G3.out 1
            have a31 : ((w2.setCell ⟨w1.heap.size, 0, none⟩ (.int .u64 vv)).setCell ⟨w1.heap.size, 1, none⟩ (.bool true)).cell? ⟨wr.heap.size, 1, none⟩ = some (.int .u64 x) :=
              cell_of_row _ _ 1 _ _ _ (blk_set_other (blk_set_other B2.out 0 _ (by omega)) 1 _ (by omega))
            have a32 : (((w2.setCell ⟨w1.heap.size, 0, none⟩ (.int .u64 vv)).setCell ⟨w1.heap.size, 1, none⟩ (.bool true)).alloc (.cells #[.int .u64 vv, .bool true] 27)).cell? ⟨wr.heap.size, 1, none⟩ = some (.int .u64 x) := cell_alloc a31 _
            have L3 := Lib.hid (blk_alloc (blk_set_other (blk_set_other (K2.out.heap (fun h => h) HL.out) 0 (.int .u64 vv) (k := w1.heap.size) (by omega)) 1 (.bool true) (k := w1.heap.size) (by omega)) (.cells #[.int .u64 vv, .bool true] 27))
            have R3 := Lib.hid (blk_alloc (blk_set (blk_set (K2.out.heap (fun h => h) HR.out) 0 (.int .u64 vv)) 1 (.bool true)) (.cells #[.int .u64 vv, .bool true] 27))
            have K3 := Lib.hid ((((HK.out.trans K2.out (fun _ _ h => h)).setCell (p := ⟨w1.heap.size, 0, none⟩) (.inr (by show w.heap.size ≤ w1.heap.size; omega)) (.int .u64 vv)).setCell (p := ⟨w1.heap.size, 1, none⟩) (.inr (by show w.heap.size ≤ w1.heap.size; omega)) (.bool true)).alloc (.cells #[.int .u64 vv, .bool true] 27))
            clear hk2
            go_wp2_with fail
            refine (SetU_again _ vv x _ L3.out).mono ?_
            rintro e w4 ⟨rfl, hk4⟩
            have L4 := Lib.hid (hk4.heap (fun h => h) L3.out)
            have R4 := Lib.hid (hk4.heap (fun h => h) R3.out)
            have K4 := Lib.hid (K3.out.trans hk4 (fun _ _ h => h))
            clear hk4 a31 a32 a21 r20 r21 z20 z21 q30 q31 c0 c1 r0 r1
            go_wp2
            exact ⟨⟨k + 1, by go_num, by omega, by omega, true, vv, L4.out, (fun h => by cases h), R4.out, K4.out⟩, by simp [intOf]; omega⟩
        · have hk0b : (kd == 0) = false := by simpa using hk0
          by_cases hk1 : kd = 1
          · subst hk1
            clear hk0 hk0b
            have LA := Lib.hid (LatAtU.alloc HL.out (.cells #[.int .i64 1, .int .u64 x] 29))
            cases bb
            · obtain rfl := H0.out rfl
              go_wp2_with fail
              refine (GetU_any _ false 0 _ LA.out (fun _ => rfl)).mono ?_
              rintro e w2 ⟨rfl, rfl⟩
              go_wp2
              exact ⟨⟨k + 1, by go_num, by omega, by omega, false, 0, LA.out, (fun _ => rfl), blk_alloc HR.out _, HK.out.alloc _⟩, by simp [intOf]; omega⟩
            · clear H0
              go_wp2_with fail
              refine (GetU_any _ true vv _ LA.out (fun h => by cases h)).mono ?_
              rintro e w2 ⟨rfl, rfl⟩
              go_wp2
              exact ⟨⟨k + 1, by go_num, by omega, by omega, true, vv, LA.out, (fun h => by cases h), blk_alloc HR.out _, HK.out.alloc _⟩, by simp [intOf]; omega⟩
          · have hk1b : (kd == 1) = false := by simpa using hk1
            have LA := Lib.hid (LatAtU.alloc HL.out (.cells #[.int .i64 kd, .int .u64 x] 29))
            have HKc := Lib.hid (Kept.refl NoB (wr.alloc (.cells #[.int .i64 kd, .int .u64 x] 29)))
            have p0 := cell_alloc r0 (.cells #[.int .i64 kd, .int .u64 x] 29)
            have p1 := cell_alloc r1 (.cells #[.int .i64 kd, .int .u64 x] 29)
            have p2 : (wr.alloc (.cells #[.int .i64 kd, .int .u64 x] 29)).cell? ⟨wr.heap.size, 1, none⟩ = some (.int .u64 x) := cell_of_row _ _ 1 _ _ _ BA.out
            clear hk0 hk1
            cases bb
            · obtain rfl := H0.out rfl
              go_wp2_with fail
              go_region_held3 (fun w' => w'.cell? ⟨w1.heap.size, 0, none⟩ = some (.int .u64 0) ∧ w'.cell? ⟨w1.heap.size, 1, none⟩ = some (.bool false) ∧ w'.cell? ⟨wr.heap.size, 1, none⟩ = some (.int .u64 x))
                (first
                  | exact ⟨HKc.out.cell (p := ⟨w1.heap.size, 0, none⟩) (fun h => h) p0, HKc.out.cell (p := ⟨w1.heap.size, 1, none⟩) (fun h => h) p1, HKc.out.cell (p := ⟨wr.heap.size, 1, none⟩) (fun h => h) p2⟩
                  | exact ⟨cell_drew (HKc.out.cell (p := ⟨w1.heap.size, 0, none⟩) (fun h => h) p0), cell_drew (HKc.out.cell (p := ⟨w1.heap.size, 1, none⟩) (fun h => h) p1), cell_drew (HKc.out.cell (p := ⟨wr.heap.size, 1, none⟩) (fun h => h) p2)⟩
                  | go_keep)
                (first
                  | (go_at_call 9; refine (OrU_no _ x _ (LA.out.kept HKc.out (fun h => h))).mono ?_; rintro e w6 ⟨rfl, rfl⟩)
                  | (go_at_call 9; refine (OrU_no _ x _ (LA.out.kept HKc.out.drew (fun h => h))).mono ?_; rintro e w6 ⟨rfl, rfl⟩; replace HKc := Lib.hid HKc.out.drew)
                  | (go_at_call 10; refine (ROr_no _ _ _).mono ?_; rintro e w6 ⟨rfl, hk6⟩; replace HKc := Lib.hid (first_kept HKc.out hk6); clear hk6))
              all_goals go_wp2
              all_goals first
                | exact ⟨⟨k + 1, by go_num, by omega, by omega, false, 0, LatAtU.kept LA.out HKc.out (fun h => h), (fun _ => rfl), HKc.out.heap (fun h => h) (blk_alloc HR.out _), first_kept (HK.out.alloc _) HKc.out⟩, by simp [intOf]; omega⟩
                | exact ⟨⟨k + 1, by go_num, by omega, by omega, false, 0, LatAtU.kept LA.out HKc.out.drew (fun h => h), (fun _ => rfl), HKc.out.drew.heap (fun h => h) (blk_alloc HR.out _), first_kept (HK.out.alloc _) HKc.out.drew⟩, by simp [intOf]; omega⟩
            · clear H0
              go_wp2_with fail
              go_region_held3 (fun w' => w'.cell? ⟨w1.heap.size, 0, none⟩ = some (.int .u64 vv) ∧ w'.cell? ⟨w1.heap.size, 1, none⟩ = some (.bool true) ∧ w'.cell? ⟨wr.heap.size, 1, none⟩ = some (.int .u64 x))
                (first
                  | exact ⟨HKc.out.cell (p := ⟨w1.heap.size, 0, none⟩) (fun h => h) p0, HKc.out.cell (p := ⟨w1.heap.size, 1, none⟩) (fun h => h) p1, HKc.out.cell (p := ⟨wr.heap.size, 1, none⟩) (fun h => h) p2⟩
                  | exact ⟨cell_drew (HKc.out.cell (p := ⟨w1.heap.size, 0, none⟩) (fun h => h) p0), cell_drew (HKc.out.cell (p := ⟨w1.heap.size, 1, none⟩) (fun h => h) p1), cell_drew (HKc.out.cell (p := ⟨wr.heap.size, 1, none⟩) (fun h => h) p2)⟩
                  | go_keep)
                (first
                  | (go_at_call 9; refine (OrU_yes _ vv x _ (LA.out.kept HKc.out (fun h => h))).mono ?_; rintro e w6 ⟨rfl, rfl⟩)
                  | (go_at_call 9; refine (OrU_yes _ vv x _ (LA.out.kept HKc.out.drew (fun h => h))).mono ?_; rintro e w6 ⟨rfl, rfl⟩; replace HKc := Lib.hid HKc.out.drew)
                  | (go_at_call 10; refine (ROr_yes _ _ _).mono ?_; rintro e w6 ⟨rfl, hk6⟩; replace HKc := Lib.hid (first_kept HKc.out hk6); clear hk6))
              all_goals go_wp2
              all_goals first
                | exact ⟨⟨k + 1, by go_num, by omega, by omega, true, vv, LatAtU.kept LA.out HKc.out (fun h => h), (fun h => by cases h), HKc.out.heap (fun h => h) (blk_alloc HR.out _), first_kept (HK.out.alloc _) HKc.out⟩, by simp [intOf]; omega⟩
                | exact ⟨⟨k + 1, by go_num, by omega, by omega, true, vv, LatAtU.kept LA.out HKc.out.drew (fun h => h), (fun h => by cases h), HKc.out.drew.heap (fun h => h) (blk_alloc HR.out _), first_kept (HK.out.alloc _) HKc.out.drew⟩, by simp [intOf]; omega⟩
      · obtain rfl : k = 40 := by omega
        go_wp2_with fail
        refine (awake5_any _).mono ?_
        rintro e w2 ⟨rfl, hk2⟩
        go_wp2
        go_ret
        exact ⟨rfl, HK.out.trans hk2 (fun _ _ h => h)⟩
    · obtain rfl : k = n := by omega
      go_wp2_with fail
      refine (awake5_any _).mono ?_
      rintro e w2 ⟨rfl, hk2⟩
      go_wp2
      go_ret
      exact ⟨rfl, HK.out.trans hk2 (fun _ _ h => h)⟩
end Go.Proofs.Ytfjgfeaeikjjhaa
