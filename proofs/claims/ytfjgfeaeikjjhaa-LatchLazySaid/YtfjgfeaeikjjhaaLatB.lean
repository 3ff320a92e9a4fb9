/-
  Package latch: Set, Get, Or; calls at no latch.
-/
import Derived.Test.YtfjgfeaeikjjhaaLatA
namespace Go.Proofs.Ytfjgfeaeikjjhaa
open Go.RowKit Go.MuLone
set_option linter.unusedVariables false

theorem three (w : World) (A B C : Obj) : (((w.alloc A).alloc B).alloc C).heap[w.heap.size]? = some A ∧ (((w.alloc A).alloc B).alloc C).heap[w.heap.size + 1]? = some B ∧ (((w.alloc A).alloc B).alloc C).heap[w.heap.size + 1 + 1]? = some C := by
  have e1 : (w.alloc A).heap.size = w.heap.size + 1 := by simp
  have e2 : ((w.alloc A).alloc B).heap.size = w.heap.size + 1 + 1 := by simp
  have h1 := heap_alloc_new (w.alloc A) B
  have h2 := heap_alloc_new ((w.alloc A).alloc B) C
  rw [e1] at h1
  rw [e2] at h2
  exact ⟨blk_alloc (blk_alloc (heap_alloc_new w A) B) C, blk_alloc h1 C, h2⟩

set_option maxRecDepth 100000 in
set_option maxHeartbeats 1600000 in
/-- Set of a latch without a value. -/
theorem SetU_first (g : Nat) (v : Int) (w : World) (h : LatAtU w g false 0) :
    Calls Try.prog 7 #[.pointer (some ⟨g, 0, none⟩), .int .u64 v] w fun e w' => e = .returned (.bool true) ∧ LatAtU w' g true v ∧ Kept (One g) w w' := by
  have hg := heap_lt h
  have h3 := three w (.cells #[.pointer (some ⟨g, 0, none⟩)] 23) (.cells #[.int .u64 v] 25) (.cells #[.bool false] 4)
  have hk := (((Kept.refl (One g) w).alloc (.cells #[.pointer (some ⟨g, 0, none⟩)] 23)).alloc (.cells #[.int .u64 v] 25)).alloc (.cells #[.bool false] 4)
  have hgW := blk_alloc (blk_alloc (blk_alloc h (.cells #[.pointer (some ⟨g, 0, none⟩)] 23)) (.cells #[.int .u64 v] 25)) (.cells #[.bool false] 4)
  obtain ⟨W, hW⟩ : ∃ W, W = ((w.alloc (.cells #[.pointer (some ⟨g, 0, none⟩)] 23)).alloc (.cells #[.int .u64 v] 25)).alloc (.cells #[.bool false] 4) := ⟨_, rfl⟩
  rw [← hW] at h3 hk hgW
  obtain ⟨hA, hB, hC⟩ := h3
  have hdo := do_litU (w.heap.size + 1) w.heap.size (w.heap.size + 1 + 1) g W (fun w2 => w2.heap[g]? = some (.cells #[.int .u32 0, .int .i32 1, .int .u32 0, .int .u32 1, .int .u64 v] 57 (0, 0)) ∧ w2.cell? ⟨w.heap.size + 1 + 1, 0, none⟩ = some (.bool true) ∧ Kept (One g) w w2)
    (cell_of_row W g 0 _ _ _ hgW) (cell_of_row W g 1 _ _ _ hgW) (blk_frozen0 hgW 0) (blk_frozen0 hgW 1) ((litU_any g (w.heap.size + 1) w.heap.size (w.heap.size + 1 + 1) v 0 (.bool false) (W.setCell ⟨g, 1, none⟩ (.int .i32 1))
      (cell_of_row _ _ 0 _ _ _ (blk_set_other hB 1 _ (by omega))) (cell_of_row _ _ 0 _ _ _ (blk_set_other hA 1 _ (by omega))) (cell_of_row _ _ 0 _ _ _ (blk_set_other hC 1 _ (by omega))) (blk_frozen0 (blk_set_other hC 1 _ (by omega)) 0)
      (blk_set hgW 1 _) (by omega) (by omega) (by omega)).mono ?_)
  · rw [hW] at hdo
    have HD := Lib.hid hdo
    clear h hW hA hB hC hk hgW hdo
    go_enter Try.func7, Try.ntmps7
    go_wp2_with fail
    refine HD.out.mono ?_
    rintro e w' ⟨rfl, w2, ⟨hl, hc, hk⟩, rfl⟩
    have HL := Lib.hid (blk_set (blk_set (g := g) (w := w2.drew) hl 0 (.int .u32 1)) 1 (.int .i32 0))
    have HK := Lib.hid (((hk.drew).one 0 (.int .u32 1)).one 1 (.int .i32 0))
    clear hl hk
    have c1 := (World.cell?_setCell_other w2 ⟨g, 0, none⟩ ⟨w.heap.size + 1 + 1, 0, none⟩ (.int .u32 1) (by simp <;> omega)).trans hc
    have c2 := (World.cell?_setCell_other _ ⟨g, 1, none⟩ ⟨w.heap.size + 1 + 1, 0, none⟩ (.int .i32 0) (by simp)).trans c1
    clear c1 hc
    go_wp2
    go_ret
    exact ⟨rfl, HL.out, HK.out⟩
  · rintro e w' ⟨rfl, rfl⟩
    have hl := blk_set_other (blk_set (g := g) (w := ((W.setCell ⟨g, 1, none⟩ (.int .i32 1)).setCell ⟨g, 4, none⟩ (.int .u64 v)).drew) (blk_set (blk_set hgW 1 (.int .i32 1)) 4 (.int .u64 v)) 3 (.int .u32 1)) 0 (.bool true) (k := w.heap.size + 1 + 1) (by omega)
    have hk1 := ((((hk.one 1 (.int .i32 1)).one 4 (.int .u64 v)).drew).one 3 (.int .u32 1)).setCell (p := ⟨w.heap.size + 1 + 1, 0, none⟩) (.inr (by show w.heap.size ≤ w.heap.size + 1 + 1; omega)) (.bool true)
    have hc := blk_set (blk_set_other (w := ((W.setCell ⟨g, 1, none⟩ (.int .i32 1)).setCell ⟨g, 4, none⟩ (.int .u64 v)).drew) (blk_set_other (blk_set_other hC 1 (.int .i32 1) (k := g) (by omega)) 4 (.int .u64 v) (k := g) (by omega)) 3 (.int .u32 1) (k := g) (by omega)) 0 (.bool true)
    exact ⟨rfl, cell_of_row _ _ 0 _ _ _ hl, cell_of_row _ _ 1 _ _ _ hl, blk_frozen0 hl 0, blk_frozen0 hl 1, hl, cell_of_row _ _ 0 _ _ _ hc, hk1⟩

set_option maxRecDepth 100000 in
/-- Set of a latch with a value. -/
theorem SetU_again (g : Nat) (u v : Int) (w : World) (h : LatAtU w g true u) :
    Calls Try.prog 7 #[.pointer (some ⟨g, 0, none⟩), .int .u64 v] w fun e w' => e = .returned (.bool false) ∧ Kept NoB w w' := by
  have hg := heap_lt h
  have hgW := blk_alloc (blk_alloc (blk_alloc h (.cells #[.pointer (some ⟨g, 0, none⟩)] 23)) (.cells #[.int .u64 v] 25)) (.cells #[.bool false] 4)
  have HD := Lib.hid (cell_of_row _ g 0 _ _ _ hgW)
  clear h hgW
  go_enter Try.func7, Try.ntmps7
  go_wp2_with fail
  refine (do_done g _ _ HD.out).mono ?_
  rintro e w' ⟨rfl, rfl⟩
  go_wp2
  go_ret
  exact ⟨rfl, (((Kept.refl _ _).alloc _).alloc _).alloc _⟩
theorem GetU_any (g : Nat) (b : Bool) (v : Int) (w : World) (h : LatAtU w g b v) (h0 : b = false → v = 0) :
    Calls Try.prog 8 #[.pointer (some ⟨g, 0, none⟩)] w fun e w' => e = .returned (.tuple #[.int .u64 v, .bool b]) ∧ w = w' := by
  have c3 : w.cell? ⟨g, 3, none⟩ = some (.int .u32 (if b then 1 else 0)) := cell_of_row w g 3 _ _ _ h
  have c4 : w.cell? ⟨g, 4, none⟩ = some (.int .u64 v) := cell_of_row w g 4 _ _ _ h
  have HL := Lib.hid (Load_any ⟨g, 3, none⟩ b w c3)
  clear c3 h
  cases b
  · obtain rfl := h0 rfl
    clear h0 c4
    go_enter Try.func8, Try.ntmps8
    go_wp2_with fail
    refine HL.out.mono ?_
    rintro e w' ⟨rfl, rfl⟩
    go_wp2
    go_ret2
    exact ⟨rfl, rfl⟩
  · clear h0
    go_enter Try.func8, Try.ntmps8
    go_wp2_with fail
    refine HL.out.mono ?_
    rintro e w' ⟨rfl, rfl⟩
    go_wp2
    go_ret2
    exact ⟨rfl, rfl⟩

set_option maxRecDepth 100000 in
set_option maxHeartbeats 1600000 in
/-- Set of a latch without a value. -/
theorem SetI_first (g : Nat) (v : Int) (w : World) (h : LatAtI w g false 0) :
    Calls Try.prog 21 #[.pointer (some ⟨g, 0, none⟩), .int .i64 v] w fun e w' => e = .returned (.bool true) ∧ LatAtI w' g true v ∧ Kept (One g) w w' := by
  have hg := heap_lt h
  have h3 := three w (.cells #[.pointer (some ⟨g, 0, none⟩)] 60) (.cells #[.int .i64 v] 3) (.cells #[.bool false] 4)
  have hk := (((Kept.refl (One g) w).alloc (.cells #[.pointer (some ⟨g, 0, none⟩)] 60)).alloc (.cells #[.int .i64 v] 3)).alloc (.cells #[.bool false] 4)
  have hgW := blk_alloc (blk_alloc (blk_alloc h (.cells #[.pointer (some ⟨g, 0, none⟩)] 60)) (.cells #[.int .i64 v] 3)) (.cells #[.bool false] 4)
  obtain ⟨W, hW⟩ : ∃ W, W = ((w.alloc (.cells #[.pointer (some ⟨g, 0, none⟩)] 60)).alloc (.cells #[.int .i64 v] 3)).alloc (.cells #[.bool false] 4) := ⟨_, rfl⟩
  rw [← hW] at h3 hk hgW
  obtain ⟨hA, hB, hC⟩ := h3
  have hdo := do_litI (w.heap.size + 1) w.heap.size (w.heap.size + 1 + 1) g W (fun w2 => w2.heap[g]? = some (.cells #[.int .u32 0, .int .i32 1, .int .u32 0, .int .u32 1, .int .i64 v] 74 (0, 0)) ∧ w2.cell? ⟨w.heap.size + 1 + 1, 0, none⟩ = some (.bool true) ∧ Kept (One g) w w2)
    (cell_of_row W g 0 _ _ _ hgW) (cell_of_row W g 1 _ _ _ hgW) (blk_frozen0 hgW 0) (blk_frozen0 hgW 1) ((litI_any g (w.heap.size + 1) w.heap.size (w.heap.size + 1 + 1) v 0 (.bool false) (W.setCell ⟨g, 1, none⟩ (.int .i32 1))
      (cell_of_row _ _ 0 _ _ _ (blk_set_other hB 1 _ (by omega))) (cell_of_row _ _ 0 _ _ _ (blk_set_other hA 1 _ (by omega))) (cell_of_row _ _ 0 _ _ _ (blk_set_other hC 1 _ (by omega))) (blk_frozen0 (blk_set_other hC 1 _ (by omega)) 0)
      (blk_set hgW 1 _) (by omega) (by omega) (by omega)).mono ?_)
  · rw [hW] at hdo
    have HD := Lib.hid hdo
    clear h hW hA hB hC hk hgW hdo
    go_enter Try.func21, Try.ntmps21
    go_wp2_with fail
    refine HD.out.mono ?_
    rintro e w' ⟨rfl, w2, ⟨hl, hc, hk⟩, rfl⟩
    have HL := Lib.hid (blk_set (blk_set (g := g) (w := w2.drew) hl 0 (.int .u32 1)) 1 (.int .i32 0))
    have HK := Lib.hid (((hk.drew).one 0 (.int .u32 1)).one 1 (.int .i32 0))
    clear hl hk
    have c1 := (World.cell?_setCell_other w2 ⟨g, 0, none⟩ ⟨w.heap.size + 1 + 1, 0, none⟩ (.int .u32 1) (by simp <;> omega)).trans hc
    have c2 := (World.cell?_setCell_other _ ⟨g, 1, none⟩ ⟨w.heap.size + 1 + 1, 0, none⟩ (.int .i32 0) (by simp)).trans c1
    clear c1 hc
    go_wp2
    go_ret
    exact ⟨rfl, HL.out, HK.out⟩
  · rintro e w' ⟨rfl, rfl⟩
    have hl := blk_set_other (blk_set (g := g) (w := ((W.setCell ⟨g, 1, none⟩ (.int .i32 1)).setCell ⟨g, 4, none⟩ (.int .i64 v)).drew) (blk_set (blk_set hgW 1 (.int .i32 1)) 4 (.int .i64 v)) 3 (.int .u32 1)) 0 (.bool true) (k := w.heap.size + 1 + 1) (by omega)
    have hk1 := ((((hk.one 1 (.int .i32 1)).one 4 (.int .i64 v)).drew).one 3 (.int .u32 1)).setCell (p := ⟨w.heap.size + 1 + 1, 0, none⟩) (.inr (by show w.heap.size ≤ w.heap.size + 1 + 1; omega)) (.bool true)
    have hc := blk_set (blk_set_other (w := ((W.setCell ⟨g, 1, none⟩ (.int .i32 1)).setCell ⟨g, 4, none⟩ (.int .i64 v)).drew) (blk_set_other (blk_set_other hC 1 (.int .i32 1) (k := g) (by omega)) 4 (.int .i64 v) (k := g) (by omega)) 3 (.int .u32 1) (k := g) (by omega)) 0 (.bool true)
    exact ⟨rfl, cell_of_row _ _ 0 _ _ _ hl, cell_of_row _ _ 1 _ _ _ hl, blk_frozen0 hl 0, blk_frozen0 hl 1, hl, cell_of_row _ _ 0 _ _ _ hc, hk1⟩

set_option maxRecDepth 100000 in
/-- Set of a latch with a value. -/
theorem SetI_again (g : Nat) (u v : Int) (w : World) (h : LatAtI w g true u) :
    Calls Try.prog 21 #[.pointer (some ⟨g, 0, none⟩), .int .i64 v] w fun e w' => e = .returned (.bool false) ∧ Kept NoB w w' := by
  have hg := heap_lt h
  have hgW := blk_alloc (blk_alloc (blk_alloc h (.cells #[.pointer (some ⟨g, 0, none⟩)] 60)) (.cells #[.int .i64 v] 3)) (.cells #[.bool false] 4)
  have HD := Lib.hid (cell_of_row _ g 0 _ _ _ hgW)
  clear h hgW
  go_enter Try.func21, Try.ntmps21
  go_wp2_with fail
  refine (do_done g _ _ HD.out).mono ?_
  rintro e w' ⟨rfl, rfl⟩
  go_wp2
  go_ret
  exact ⟨rfl, (((Kept.refl _ _).alloc _).alloc _).alloc _⟩
theorem GetI_any (g : Nat) (b : Bool) (v : Int) (w : World) (h : LatAtI w g b v) (h0 : b = false → v = 0) :
    Calls Try.prog 22 #[.pointer (some ⟨g, 0, none⟩)] w fun e w' => e = .returned (.tuple #[.int .i64 v, .bool b]) ∧ w = w' := by
  have c3 : w.cell? ⟨g, 3, none⟩ = some (.int .u32 (if b then 1 else 0)) := cell_of_row w g 3 _ _ _ h
  have c4 : w.cell? ⟨g, 4, none⟩ = some (.int .i64 v) := cell_of_row w g 4 _ _ _ h
  have HL := Lib.hid (Load_any ⟨g, 3, none⟩ b w c3)
  clear c3 h
  cases b
  · obtain rfl := h0 rfl
    clear h0 c4
    go_enter Try.func22, Try.ntmps22
    go_wp2_with fail
    refine HL.out.mono ?_
    rintro e w' ⟨rfl, rfl⟩
    go_wp2
    go_ret2
    exact ⟨rfl, rfl⟩
  · clear h0
    go_enter Try.func22, Try.ntmps22
    go_wp2_with fail
    refine HL.out.mono ?_
    rintro e w' ⟨rfl, rfl⟩
    go_wp2
    go_ret2
    exact ⟨rfl, rfl⟩

theorem OrU_any (g : Nat) (b : Bool) (v x : Int) (w : World) (h : LatAtU w g b v) (h0 : b = false → v = 0) :
    Calls Try.prog 9 #[.pointer (some ⟨g, 0, none⟩), .int .u64 x] w fun e w' => e = .returned (.int .u64 (if b then v else x)) ∧ w = w' := by
  have HG := Lib.hid (GetU_any g b v w h h0)
  clear h h0
  cases b
  all_goals
    go_enter Try.func9, Try.ntmps9
    go_wp2_with fail
    refine HG.out.mono ?_
    rintro e w' ⟨rfl, rfl⟩
    go_wp2
    go_ret
    exact ⟨rfl, rfl⟩
/-! ### no latch -/
theorem NSet (v : Int) (w : World) : Calls Try.prog 7 #[.pointer none, .int .u64 v] w fun e w' => e = .returned (.bool false) ∧ Kept NoB w w' := by
  go_enter Try.func7, Try.ntmps7
  go_wp2
  go_ret
  exact ⟨rfl, ((Kept.refl _ _).alloc _).alloc _⟩
theorem NGet (w : World) : Calls Try.prog 8 #[.pointer none] w fun e w' => e = .returned (.tuple #[.int .u64 0, .bool false]) ∧ w = w' := by
  go_enter Try.func8, Try.ntmps8
  go_wp2
  go_ret2
  exact ⟨rfl, rfl⟩
theorem NOr (x : Int) (w : World) : Calls Try.prog 9 #[.pointer none, .int .u64 x] w fun e w' => e = .returned (.int .u64 0) ∧ w = w' := by
  go_enter Try.func9, Try.ntmps9
  go_wp2_with fail
  refine (NGet _).mono ?_
  rintro e w' ⟨rfl, rfl⟩
  go_wp2
  go_ret
  exact ⟨rfl, rfl⟩
/-! ### the chapter's answers -/
theorem RSet_any (v x : Int) (b : Bool) (w : World) : Calls Try.prog 6 #[.agg #[.int .u64 v, .bool b], .int .u64 x] w fun e w' =>
    e = .returned (.tuple #[.agg #[.int .u64 (if b then v else x), .bool true], .bool (!b)]) ∧ Kept NoB w w' := by
  cases b
  all_goals
    go_enter Try.func6, Try.ntmps6
    go_wp2
  · exact bodyPost_ret (v := .tuple #[.agg #[.int .u64 x, .bool true], .bool true]) (by simp [results, Try.results6, go_sem]) rfl ⟨rfl, by first | exact ((Kept.refl _ _).alloc _).alloc _ | exact (((Kept.refl _ _).alloc _).alloc _).setCell (.inr (by show w.heap.size ≤ w.heap.size + 1; omega)) _⟩
  · exact bodyPost_ret (v := .tuple #[.agg #[.int .u64 v, .bool true], .bool false]) (by simp [results, Try.results6, go_sem]) rfl ⟨rfl, by first | exact ((Kept.refl _ _).alloc _).alloc _ | exact (((Kept.refl _ _).alloc _).alloc _).setCell (.inr (by show w.heap.size ≤ w.heap.size + 1; omega)) _⟩
theorem ROr_any (v x : Int) (b : Bool) (w : World) : Calls Try.prog 10 #[.agg #[.int .u64 v, .bool b], .int .u64 x] w fun e w' =>
    e = .returned (.int .u64 (if b then v else x)) ∧ Kept NoB w w' := by
  cases b
  all_goals
    go_enter Try.func10, Try.ntmps10
    go_wp2
    go_ret
    exact ⟨rfl, (Kept.refl _ _).alloc _⟩
theorem RSet_no (v x : Int) (w : World) : Calls Try.prog 6 #[.agg #[.int .u64 v, .bool false], .int .u64 x] w fun e w' => e = .returned (.tuple #[.agg #[.int .u64 x, .bool true], .bool true]) ∧ Kept NoB w w' := RSet_any v x false w
theorem RSet_yes (v x : Int) (w : World) : Calls Try.prog 6 #[.agg #[.int .u64 v, .bool true], .int .u64 x] w fun e w' => e = .returned (.tuple #[.agg #[.int .u64 v, .bool true], .bool false]) ∧ Kept NoB w w' := RSet_any v x true w
theorem ROr_no (v x : Int) (w : World) : Calls Try.prog 10 #[.agg #[.int .u64 v, .bool false], .int .u64 x] w fun e w' => e = .returned (.int .u64 x) ∧ Kept NoB w w' := ROr_any v x false w
theorem ROr_yes (v x : Int) (w : World) : Calls Try.prog 10 #[.agg #[.int .u64 v, .bool true], .int .u64 x] w fun e w' => e = .returned (.int .u64 v) ∧ Kept NoB w w' := ROr_any v x true w
theorem OrU_no (g : Nat) (x : Int) (w : World) (h : LatAtU w g false 0) : Calls Try.prog 9 #[.pointer (some ⟨g, 0, none⟩), .int .u64 x] w fun e w' => e = .returned (.int .u64 x) ∧ w = w' := OrU_any g false 0 x w h (fun _ => rfl)
theorem OrU_yes (g : Nat) (v x : Int) (w : World) (h : LatAtU w g true v) : Calls Try.prog 9 #[.pointer (some ⟨g, 0, none⟩), .int .u64 x] w fun e w' => e = .returned (.int .u64 v) ∧ w = w' := OrU_any g true v x w h (fun h => by cases h)
/-- The page's example of layer 5 holds. -/
theorem awake5_any (w : World) : Calls Try.prog 11 #[] w fun e w' => e = .returned (.bool true) ∧ Kept NoB w w' := by
  go_enter Try.func11, Try.ntmps11
  go_wp2_with fail
  refine (NewI_any _).mono ?_
  rintro e w1 ⟨rfl, h1, hk1, hz1⟩
  have H1 := Lib.hid h1
  have K1 := Lib.hid hk1
  clear h1 hk1
  go_wp2_with fail
  refine (SetI_first _ 3 _ H1.out).mono ?_
  rintro e w2 ⟨rfl, h2, hk2⟩
  have H2 := Lib.hid h2
  have K2 := Lib.hid (K1.out.trans hk2 (fun i hi h => by have h : i = w.heap.size := h; omega))
  clear h2 hk2
  go_wp2_with fail
  refine (SetI_again _ 3 4 _ H2.out).mono ?_
  rintro e w3 ⟨rfl, hk3⟩
  have H3 := Lib.hid (H2.out.kept hk3 (fun h => h))
  have K3 := Lib.hid (K2.out.trans hk3 (fun _ _ h => h))
  clear hk3
  go_wp2_with fail
  refine (GetI_any _ true 3 _ H3.out (fun h => by cases h)).mono ?_
  rintro e w4 ⟨rfl, rfl⟩
  go_wp2
  go_ret
  exact ⟨rfl, K3.out⟩
end Go.Proofs.Ytfjgfeaeikjjhaa
