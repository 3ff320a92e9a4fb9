/-
  Layer 26: the latch of a reply: Set, Get. Layer 26: what a caller takes. Layer 26: what a caller takes, 2: the result. Layer 26: what a caller takes, 3: the note of an answer. Layer 26: what a caller takes, 4: Take of an answer. Layer 26: the calls of no caller; the walk of CallerNil. Layer 26: what a caller takes, 5: the two kinds of answers. Layer 26: the walk of CallerOnce.
-/
import Derived.Test.YtclfecninhipnaaGreatDoorCal1
import Derived.Test.YtclfecninhipnaaGreatDoorLck2
import Derived.Test.YtclfecninhipnaaGreatDoorLtr2
namespace Go.Proofs.YtclfecninhipnaaGreatDoor
open Go.RowKit Go.MuLone
set_option linter.unusedVariables false
set_option linter.unusedSimpArgs false

def set456 (w : World) (g : Nat) (x y z : Value) : World := ((w.setCell ⟨g, 4, none⟩ x).setCell ⟨g, 5, none⟩ y).setCell ⟨g, 6, none⟩ z
theorem set456_at {w : World} {g : Nat} {x0 x1 x2 x3 x4 x5 x6 : Value} {t : TypeId} (h : w.heap[g]? = some (.cells #[x0, x1, x2, x3, x4, x5, x6] t (0, 0))) (x y z : Value) : (set456 w g x y z).heap[g]? = some (.cells #[x0, x1, x2, x3, x, y, z] t (0, 0)) :=
  bset25 (bset25 (bset25 h 4 x) 5 y) 6 z
theorem set456_other {w : World} {g b i : Nat} (h : b ≠ g) (x y z : Value) : (set456 w g x y z).cell? ⟨b, i, none⟩ = w.cell? ⟨b, i, none⟩ := by
  unfold set456
  rw [World.cell?_setCell_other _ _ _ _ (by simp), World.cell?_setCell_other _ _ _ _ (by simp), World.cell?_setCell_other _ _ _ _ (by simp)]
theorem Kept.set456 {S : Nat → Prop} {a w : World} (h : Kept S a w) {g : Nat} (hg : S g ∨ a.heap.size ≤ g) (x y z : Value) : Kept S a (Go.Proofs.YtclfecninhipnaaGreatDoor.set456 w g x y z) :=
  ((h.setCell (p := ⟨g, 4, none⟩) hg x).setCell (p := ⟨g, 5, none⟩) hg y).setCell (p := ⟨g, 6, none⟩) hg z
set_option maxRecDepth 100000 in
set_option maxHeartbeats 1600000 in
theorem litR_any (g a b c : Nat) (co ve : Int) (sa : Option Addr) (sn sc : Nat) (y0 y1 y2 : Value) (d : Value) (w : World) (ha : w.heap[a]? = some (.cells #[.int .i64 co, .int .u64 ve, (.slice sa sn sc)] 51 (0, 0))) (hb : w.cell? ⟨b, 0, none⟩ = some (.pointer (some ⟨g, 0, none⟩))) (hc : w.cell? ⟨c, 0, none⟩ = some d)
    (hcz : w.frozen? ⟨c, 0, none⟩ = false) (hg : w.heap[g]? = some (.cells #[.int .u32 0, .int .i32 1, .int .u32 0, .int .u32 0, y0, y1, y2] 100 (0, 0))) (hga : a ≠ g) (hgb : b ≠ g) (hgc : c ≠ g) :
    Calls Tryz.prog 72 #[.pointer (some ⟨a, 0, none⟩), .pointer (some ⟨b, 0, none⟩), .pointer (some ⟨c, 0, none⟩)] w fun e w' => e = .returned (.tuple #[]) ∧
      w' = (((set456 w g (.int .i64 co) (.int .u64 ve) (.slice sa sn sc)).drew).setCell ⟨g, 3, none⟩ (.int .u32 1)).setCell ⟨c, 0, none⟩ (.bool true) := by
  obtain ⟨a0, a1, a2⟩ := cells3c ha
  have e4 : w.cell? ⟨g, 4, none⟩ = some y0 := cell_of_row w g 4 _ _ _ hg
  have e5 : w.cell? ⟨g, 5, none⟩ = some y1 := cell_of_row w g 5 _ _ _ hg
  have e6 : w.cell? ⟨g, 6, none⟩ = some y2 := cell_of_row w g 6 _ _ _ hg
  have z4 : w.frozen? ⟨g, 4, none⟩ = false := frz25 hg 4
  have z5 : w.frozen? ⟨g, 5, none⟩ = false := frz25 hg 5
  have z6 : w.frozen? ⟨g, 6, none⟩ = false := frz25 hg 6
  have h2 := set456_at hg (.int .i64 co) (.int .u64 ve) (.slice sa sn sc)
  have b1 := (set456_other (w := w) (i := 0) hgb (.int .i64 co) (.int .u64 ve) (.slice sa sn sc)).trans hb
  have c1 := (set456_other (w := w) (i := 0) hgc (.int .i64 co) (.int .u64 ve) (.slice sa sn sc)).trans hc
  have HS := Lib.hid (Store_any ⟨g, 3, none⟩ (.int .u32 0) (set456 w g (.int .i64 co) (.int .u64 ve) (.slice sa sn sc)) (cell_of_row _ _ 3 _ _ _ h2) (frz25 h2 3))
  have c2 : (((set456 w g (.int .i64 co) (.int .u64 ve) (.slice sa sn sc)).drew).setCell ⟨g, 3, none⟩ (.int .u32 1)).cell? ⟨c, 0, none⟩ = some d := (World.cell?_setCell_other _ ⟨g, 3, none⟩ ⟨c, 0, none⟩ _ (by simp)).trans c1
  have z2 : (((set456 w g (.int .i64 co) (.int .u64 ve) (.slice sa sn sc)).drew).setCell ⟨g, 3, none⟩ (.int .u32 1)).frozen? ⟨c, 0, none⟩ = false := by simp [set456, hcz]
  have HC2 := Lib.hid c2
  have HZ4 : Hid ((set456 w g (.int .i64 co) (.int .u64 ve) (.slice sa sn sc)).frozen? ⟨c, 0, none⟩ = false) := Lib.hid (by simp [set456, hcz])
  have HZ2 := Lib.hid z2
  obtain ⟨V, hV⟩ : ∃ V, V = set456 w g (.int .i64 co) (.int .u64 ve) (.slice sa sn sc) := ⟨_, rfl⟩
  have HV : Hid (V = ((w.setCell ⟨g, 4, none⟩ (.int .i64 co)).setCell ⟨g, 5, none⟩ (.int .u64 ve)).setCell ⟨g, 6, none⟩ (.slice sa sn sc)) := Lib.hid hV
  rw [← hV] at HS HC2 HZ2 HZ4 b1 c1 ⊢
  clear c2 z2 h2 ha hg hV
  go_enter Tryz.func72, Tryz.ntmps72
  go_upto_region 2 with fail
  rw [← HV.out]
  clear a0 a1 a2 e4 e5 e6 z4 z5 z6
  go_wp2_with fail
  refine HS.out.mono ?_
  rintro e w1 ⟨rfl, rfl⟩
  have c3 := HC2.out
  have z3 := HZ2.out
  have z4 := HZ4.out
  go_wp2
  go_end0
  exact ⟨rfl, rfl⟩
set_option maxRecDepth 100000 in
set_option maxHeartbeats 1600000 in
/-- doSlow at the literal that sets the value (Reply): nothing has been done yet. -/
theorem slow_litR (x y z : Nat) (g : Nat) (w : World) (Q : World → Prop) (c0 : w.cell? ⟨g, 0, none⟩ = some (.int .u32 0)) (c1 : w.cell? ⟨g, 1, none⟩ = some (.int .i32 0)) (f0 : w.frozen? ⟨g, 0, none⟩ = false) (f1 : w.frozen? ⟨g, 1, none⟩ = false)
    (hf : Calls Tryz.prog 72 #[.pointer (some ⟨x, 0, none⟩), .pointer (some ⟨y, 0, none⟩), .pointer (some ⟨z, 0, none⟩)] (w.setCell ⟨g, 1, none⟩ (.int .i32 1)) fun e w' => e = .returned (.tuple #[]) ∧ w'.cell? ⟨g, 0, none⟩ = some (.int .u32 0) ∧ w'.cell? ⟨g, 1, none⟩ = some (.int .i32 1) ∧ w'.frozen? ⟨g, 0, none⟩ = false ∧ w'.frozen? ⟨g, 1, none⟩ = false ∧ Q w') :
    Calls Tryz.prog 124 #[.pointer (some ⟨g, 0, none⟩), .func (.func 72) #[] #[.pointer (some ⟨x, 0, none⟩), .pointer (some ⟨y, 0, none⟩), .pointer (some ⟨z, 0, none⟩)]] w fun e w' => e = .returned (.tuple #[]) ∧ ∃ w2, Q w2 ∧ w' = ((w2.drew).setCell ⟨g, 0, none⟩ (.int .u32 1)).setCell ⟨g, 1, none⟩ (.int .i32 0) := by
  have hl := run_call_load (P := Tryz.prog) Tryz.func60 (by kernel_rfl) (by kernel_rfl) (by kernel_rfl) .u32 (by kernel_rfl) (w := w.setCell ⟨g, 1, none⟩ (.int .i32 1)) (a := ⟨g, 0, none⟩) (x := 0) ((World.cell?_setCell_other _ ⟨g, 1, none⟩ ⟨g, 0, none⟩ _ (by simp)).trans c0)
  have hnot : ∀ (x : Bool) (w : World), (Op.unary .not (.bool x)).run Tryz.prog w = .ok (.bool (!x)) w := fun _ _ => rfl
  go_enter_defers Tryz.func124, Tryz.ntmps124
  go_wp2_with (go_at_call 180; refine (lock_free muLib ⟨g, 1, none⟩ _ (by go_simp) (by go_simp)).mono ?_; rintro e w' ⟨rfl, rfl⟩)
  go_in
  go_wp2_with fail
  refine hf.mono ?_
  rintro e w2 ⟨rfl, d0, d1, g0, g1, hq⟩
  go_wp2
  refine leaves_cons (f := 73) (args := #[.pointer (some ⟨g, 0, none⟩), .bool true]) (by simp) (by simp [go_sem]) ?_
  refine (store_done ⟨g, 0, none⟩ (.int .u32 0) .returning _ d0 g0).mono ?_
  rintro e u' w'' ⟨rfl, rfl, rfl⟩
  refine leaves_cons (f := 181) (args := #[.pointer (some ⟨g, 1, none⟩)]) (by simp [settle]) (by simp [go_sem]) ?_
  refine (unlock_deferred muLib ⟨g, 1, none⟩ _ _ ?_ (by simp [g1])).mono ?_
  · refine (World.cell?_setCell_other _ ⟨g, 0, none⟩ ⟨g, 1, none⟩ _ (by simp)).trans ?_
    rw [World.cell?_drew]
    exact d1
  rintro e u' w'' ⟨rfl, rfl, rfl⟩
  simp [Leaves, settle, results, Tryz.results124]
  exact ⟨w2, hq, rfl⟩
/-- Do at the literal that sets the value (Reply), nothing done yet. -/
theorem do_litR (x y z : Nat) (g : Nat) (w : World) (Q : World → Prop) (c0 : w.cell? ⟨g, 0, none⟩ = some (.int .u32 0)) (c1 : w.cell? ⟨g, 1, none⟩ = some (.int .i32 0)) (f0 : w.frozen? ⟨g, 0, none⟩ = false) (f1 : w.frozen? ⟨g, 1, none⟩ = false)
    (hf : Calls Tryz.prog 72 #[.pointer (some ⟨x, 0, none⟩), .pointer (some ⟨y, 0, none⟩), .pointer (some ⟨z, 0, none⟩)] (w.setCell ⟨g, 1, none⟩ (.int .i32 1)) fun e w' => e = .returned (.tuple #[]) ∧ w'.cell? ⟨g, 0, none⟩ = some (.int .u32 0) ∧ w'.cell? ⟨g, 1, none⟩ = some (.int .i32 1) ∧ w'.frozen? ⟨g, 0, none⟩ = false ∧ w'.frozen? ⟨g, 1, none⟩ = false ∧ Q w') :
    Calls Tryz.prog 71 #[.pointer (some ⟨g, 0, none⟩), .func (.func 72) #[] #[.pointer (some ⟨x, 0, none⟩), .pointer (some ⟨y, 0, none⟩), .pointer (some ⟨z, 0, none⟩)]] w fun e w' => e = .returned (.tuple #[]) ∧ ∃ w2, Q w2 ∧ w' = ((w2.drew).setCell ⟨g, 0, none⟩ (.int .u32 1)).setCell ⟨g, 1, none⟩ (.int .i32 0) := by
  have HS := Lib.hid (slow_litR x y z g w Q c0 c1 f0 f1 hf)
  have HL := Lib.hid (Load_any ⟨g, 0, none⟩ false w c0)
  clear hf c1 f0 f1 c0
  go_enter Tryz.func71, Tryz.ntmps71
  go_wp2_with fail
  refine HL.out.mono ?_
  rintro e w1 ⟨rfl, rfl⟩
  go_wp2_with fail
  refine HS.out.mono ?_
  rintro e w' ⟨rfl, w2, hq, rfl⟩
  have HQ := Lib.hid hq
  clear hq
  go_wp2
  go_end0
  exact ⟨rfl, w2, HQ.out, rfl⟩

theorem three26a (w : World) (A B C : Obj) : (((w.alloc A).alloc B).alloc C).heap[w.heap.size]? = some A ∧ (((w.alloc A).alloc B).alloc C).heap[w.heap.size + 1]? = some B ∧ (((w.alloc A).alloc B).alloc C).heap[w.heap.size + 1 + 1]? = some C := by
  have e1 : (w.alloc A).heap.size = w.heap.size + 1 := by simp
  have e2 : ((w.alloc A).alloc B).heap.size = w.heap.size + 1 + 1 := by simp
  have h1 := heap_alloc_new (w.alloc A) B
  have h2 := heap_alloc_new ((w.alloc A).alloc B) C
  rw [e1] at h1
  rw [e2] at h2
  exact ⟨blk_alloc (blk_alloc (heap_alloc_new w A) B) C, blk_alloc h1 C, h2⟩

set_option maxRecDepth 100000 in
set_option maxHeartbeats 1600000 in
/-- Set of a latch without a value. -/
theorem SetR_first (g : Nat) (co ve : Int) (sa : Option Addr) (sn sc : Nat) (w : World) (h : RLat w g false 0 0 (.slice none 0 0)) :
    Calls Tryz.prog 43 #[.pointer (some ⟨g, 0, none⟩), .agg #[.int .i64 co, .int .u64 ve, (.slice sa sn sc)]] w fun e w' => e = .returned (.bool true) ∧ RLat w' g true co ve (.slice sa sn sc) ∧ Kept (fun b => b = g) w w' := by
  have hg := heap_lt h
  have h3 := three26a w (.cells #[.pointer (some ⟨g, 0, none⟩)] 60) (.cells #[.int .i64 co, .int .u64 ve, (.slice sa sn sc)] 51) (.cells #[.bool false] 4)
  have hk := (((Kept.refl (fun b => b = g) w).alloc (.cells #[.pointer (some ⟨g, 0, none⟩)] 60)).alloc (.cells #[.int .i64 co, .int .u64 ve, (.slice sa sn sc)] 51)).alloc (.cells #[.bool false] 4)
  have hgW := blk_alloc (blk_alloc (blk_alloc h (.cells #[.pointer (some ⟨g, 0, none⟩)] 60)) (.cells #[.int .i64 co, .int .u64 ve, (.slice sa sn sc)] 51)) (.cells #[.bool false] 4)
  obtain ⟨W, hW⟩ : ∃ W, W = ((w.alloc (.cells #[.pointer (some ⟨g, 0, none⟩)] 60)).alloc (.cells #[.int .i64 co, .int .u64 ve, (.slice sa sn sc)] 51)).alloc (.cells #[.bool false] 4) := ⟨_, rfl⟩
  rw [← hW] at h3 hk hgW
  obtain ⟨hA, hB, hC⟩ := h3
  have hdo := do_litR (w.heap.size + 1) w.heap.size (w.heap.size + 1 + 1) g W (fun w2 => w2.heap[g]? = some (.cells #[.int .u32 0, .int .i32 1, .int .u32 0, .int .u32 1, .int .i64 co, .int .u64 ve, (.slice sa sn sc)] 100 (0, 0)) ∧ w2.cell? ⟨w.heap.size + 1 + 1, 0, none⟩ = some (.bool true) ∧ Kept (fun b => b = g) w w2)
    (cell_of_row W g 0 _ _ _ hgW) (cell_of_row W g 1 _ _ _ hgW) (blk_frozen0 hgW 0) (blk_frozen0 hgW 1) ((litR_any g (w.heap.size + 1) w.heap.size (w.heap.size + 1 + 1) co ve sa sn sc _ _ _ (.bool false) (W.setCell ⟨g, 1, none⟩ (.int .i32 1))
      (blk_set_other hB 1 _ (by omega)) (cell_of_row _ _ 0 _ _ _ (blk_set_other hA 1 _ (by omega))) (cell_of_row _ _ 0 _ _ _ (blk_set_other hC 1 _ (by omega))) (blk_frozen0 (blk_set_other hC 1 _ (by omega)) 0)
      (blk_set hgW 1 _) (by omega) (by omega) (by omega)).mono ?_)
  · rw [hW] at hdo
    have HD := Lib.hid hdo
    clear h hW hA hB hC hk hgW hdo
    go_enter Tryz.func43, Tryz.ntmps43
    go_wp2_with fail
    refine HD.out.mono ?_
    rintro e w' ⟨rfl, w2, ⟨hl, hc, hk⟩, rfl⟩
    have HL := Lib.hid (blk_set (blk_set (g := g) (w := w2.drew) hl 0 (.int .u32 1)) 1 (.int .i32 0))
    have HK := Lib.hid (((hk.drew).setCell (p := ⟨g, 0, none⟩) (.inl rfl) (.int .u32 1)).setCell (p := ⟨g, 1, none⟩) (.inl rfl) (.int .i32 0))
    clear hl hk
    have c1 := (World.cell?_setCell_other w2 ⟨g, 0, none⟩ ⟨w.heap.size + 1 + 1, 0, none⟩ (.int .u32 1) (by simp <;> omega)).trans hc
    have c2 := (World.cell?_setCell_other _ ⟨g, 1, none⟩ ⟨w.heap.size + 1 + 1, 0, none⟩ (.int .i32 0) (by simp)).trans c1
    clear c1 hc
    go_wp2
    go_ret
    exact ⟨rfl, HL.out, HK.out⟩
  · rintro e w' ⟨rfl, rfl⟩
    have h0 := blk_set hgW 1 (.int .i32 1)
    have h1 : (set456 (W.setCell ⟨g, 1, none⟩ (.int .i32 1)) g (.int .i64 co) (.int .u64 ve) (.slice sa sn sc)).drew.heap[g]? = some (.cells #[.int .u32 0, .int .i32 1, .int .u32 0, .int .u32 0, .int .i64 co, .int .u64 ve, (.slice sa sn sc)] 100 (0, 0)) := set456_at h0 _ _ _
    have hl := blk_set_other (blk_set h1 3 (.int .u32 1)) 0 (.bool true) (k := w.heap.size + 1 + 1) (by omega)
    have hk1 := (((((hk.setCell (p := ⟨g, 1, none⟩) (.inl rfl) (.int .i32 1)).set456 (g := g) (.inl rfl) (.int .i64 co) (.int .u64 ve) (.slice sa sn sc)).drew).setCell (p := ⟨g, 3, none⟩) (.inl rfl) (.int .u32 1))).setCell (p := ⟨w.heap.size + 1 + 1, 0, none⟩) (.inr (by show w.heap.size ≤ w.heap.size + 1 + 1; omega)) (.bool true)
    have hc0 : (set456 (W.setCell ⟨g, 1, none⟩ (.int .i32 1)) g (.int .i64 co) (.int .u64 ve) (.slice sa sn sc)).drew.heap[w.heap.size + 1 + 1]? = some (.cells #[.bool false] 4 (0, 0)) := blk_set_other (blk_set_other (blk_set_other (blk_set_other hC 1 (.int .i32 1) (k := g) (by omega)) 4 (.int .i64 co) (k := g) (by omega)) 5 (.int .u64 ve) (k := g) (by omega)) 6 (.slice sa sn sc) (k := g) (by omega)
    have hc := blk_set (blk_set_other hc0 3 (.int .u32 1) (k := g) (by omega)) 0 (.bool true)
    exact ⟨rfl, cell_of_row _ _ 0 _ _ _ hl, cell_of_row _ _ 1 _ _ _ hl, blk_frozen0 hl 0, blk_frozen0 hl 1, hl, cell_of_row _ _ 0 _ _ _ hc, hk1⟩
set_option maxRecDepth 100000 in
/-- Set of a latch with a value. -/
theorem SetR_again (g : Nat) (co ve co2 ve2 : Int) (dv dv2 : Value) (w : World) (h : RLat w g true co ve dv) :
    Calls Tryz.prog 43 #[.pointer (some ⟨g, 0, none⟩), .agg #[.int .i64 co2, .int .u64 ve2, dv2]] w fun e w' => e = .returned (.bool false) ∧ Kept NoB w w' := by
  have hg := heap_lt h
  have hgW := blk_alloc (blk_alloc (blk_alloc h (.cells #[.pointer (some ⟨g, 0, none⟩)] 60)) (.cells #[.int .i64 co2, .int .u64 ve2, dv2] 51)) (.cells #[.bool false] 4)
  have HD := Lib.hid (cell_of_row _ g 0 _ _ _ hgW)
  clear h hgW
  go_enter Tryz.func43, Tryz.ntmps43
  go_wp2_with fail
  refine (do_done g _ _ HD.out).mono ?_
  rintro e w' ⟨rfl, rfl⟩
  go_wp2
  go_ret
  exact ⟨rfl, (((Kept.refl _ _).alloc _).alloc _).alloc _⟩
end Go.Proofs.YtclfecninhipnaaGreatDoor
namespace Go.Proofs.YtclfecninhipnaaGreatDoor
open Go.RowKit
set_option linter.unusedVariables false
set_option linter.unusedSimpArgs false

set_option maxRecDepth 100000 in
/-- Get of a latch that is set. -/
theorem LGet26_set (w : World) (q : Nat) (co ve : Int) (sa : Option Addr) (sn sc : Nat) (h : RLat w q true co ve (.slice sa sn sc)) : Calls Tryz.prog 19 #[.pointer (some ⟨q, 0, none⟩)] w fun e w' => e = .returned (.tuple #[.agg #[.int .i64 co, .int .u64 ve, .slice sa sn sc], .bool true]) ∧ Kept NoB w w' := by
  have hk1 := (Kept.refl NoB w).alloc (.cells #[.int .i64 0, .int .u64 0, .slice none 0 0] 51)
  have hq := h.no hk1
  have HL := Lib.hid (Load_any ⟨q, 3, none⟩ true _ (cell_of_row _ _ 3 _ _ _ hq))
  have hb1 := heap_alloc_new w (.cells #[.int .i64 0, .int .u64 0, .slice none 0 0] 51)
  have HB1 := Lib.hid hb1
  have HQ := Lib.hid hq
  have HK1 := Lib.hid hk1
  obtain ⟨W, hW⟩ : ∃ W, W = (w.alloc (.cells #[.int .i64 0, .int .u64 0, .slice none 0 0] 51)) := ⟨_, rfl⟩
  have HWW := Lib.hid hW
  rw [← hW] at HL HB1 HK1 HQ
  clear h hk1 hb1 hW hq
  go_enter Tryz.func19, Tryz.ntmps19
  go_upto_region 1 with fail
  rw [← HWW.out]
  go_wp2_with fail
  refine HL.out.mono ?_
  rintro e w1 ⟨rfl, rfl⟩
  obtain ⟨c0, c1, c2⟩ := cells3c HB1.out
  obtain ⟨f0, f1, f2⟩ := And.intro (frz25 HB1.out 0) (And.intro (frz25 HB1.out 1) (frz25 HB1.out 2))
  have q4 := cell_of_row _ _ 4 _ _ _ HQ.out
  have q5 := cell_of_row _ _ 5 _ _ _ HQ.out
  have q6 := cell_of_row _ _ 6 _ _ _ HQ.out
  go_wp2
  clear c0 c1 c2 f0 f1 f2 q4 q5 q6
  have hF := three26_at HB1.out (.int .i64 co) (.int .u64 ve) (.slice sa sn sc)
  obtain ⟨r0, r1, r2⟩ := cells3c hF
  have hK := HK1.out.three26 (b := w.heap.size) (.inr (Nat.le_refl _)) (.int .i64 co) (.int .u64 ve) (.slice sa sn sc)
  clear hF
  unfold three26 at r0 r1 r2 hK
  generalize hW : World.setCell _ _ _ = W2 at r0 r1 r2 hK ⊢
  exact bodyPost_ret (v := .tuple #[.agg #[.int .i64 co, .int .u64 ve, .slice sa sn sc], .bool true]) (by simp [results, Tryz.results19, go_sem, r0, r1, r2]) rfl ⟨rfl, hK⟩
set_option maxRecDepth 100000 in
/-- Busy: where the last operation was answered. -/
theorem Busy26_no (w : World) (g q : Nat) (x : CS) (h : CaAt w g x) (h0 : 1 ≤ x.nu) (hl : x.lp = .pointer (some ⟨q, 0, none⟩)) (co ve : Int) (sa : Option Addr) (sn sc : Nat) (hr : RLat w q true co ve (.slice sa sn sc)) : Calls Tryz.prog 8 #[.pointer (some ⟨g, 0, none⟩)] w fun e w' => e = .returned (.bool false) ∧ Kept NoB w w' := by
  have c4 := h.c.2.2.2.2.1
  have c10 := h.c.2.2.2.2.2.2.2.2.2.2.1
  rw [hl] at c10
  have HL := Lib.hid (LGet26_set w q co ve sa sn sc hr)
  obtain ⟨nu, hn⟩ : ∃ nu, nu = x.nu := ⟨_, rfl⟩
  rw [← hn] at c4 h0
  have hne : (nu == 0) = false := beq_eq_false_iff_ne.2 (by omega)
  clear h hl hr hn
  go_enter Tryz.func8, Tryz.ntmps8
  go_wp2_with fail
  refine HL.out.mono ?_
  rintro e w1 ⟨rfl, hk⟩
  have HK := Lib.hid hk
  clear hk
  go_wp2
  go_ret
  exact ⟨rfl, HK.out.alloc _⟩
set_option maxRecDepth 100000 in
/-- Tick: where the last operation was answered. -/
theorem Tick26_no (w : World) (g q : Nat) (x : CS) (h : CaAt w g x) (h0 : 1 ≤ x.nu) (hl : x.lp = .pointer (some ⟨q, 0, none⟩)) (hqg : q ≠ g) (co ve : Int) (sa : Option Addr) (sn sc : Nat) (hr : RLat w q true co ve (.slice sa sn sc)) (ht : x.tk = 0) : Calls Tryz.prog 12 #[.pointer (some ⟨g, 0, none⟩)] w fun e w' => e = .returned (.slice none 0 0) ∧ Kept (fun b => b = g) w w' := by
  have c2 := h.c.2.2.1
  rw [ht] at c2
  have f2 := h.frz 2
  have h1 : CaAt (w.setCell ⟨g, 2, none⟩ (.int .i64 1)) g { x with tk := 1 } := bset25 h 2 (.int .i64 1)
  have HK := Lib.hid ((Kept.refl (fun b => b = g) w).setCell (p := ⟨g, 2, none⟩) (.inl rfl) (.int .i64 1))
  have HB := Lib.hid (Busy26_no _ g q _ h1 h0 hl co ve sa sn sc (hr.kept26 HK.out hqg))
  clear h h0 hl hr ht h1
  go_enter Tryz.func12, Tryz.ntmps12
  go_wp2_with fail
  refine HB.out.mono ?_
  rintro e w1 ⟨rfl, hk⟩
  have HE := Lib.hid (HK.out.trans hk (fun _ _ h => h.elim))
  clear hk
  go_wp2
  go_ret
  exact ⟨rfl, HE.out⟩
set_option maxRecDepth 100000 in
set_option maxHeartbeats 1000000 in
theorem Answers26_write (w : World) (g : Nat) (x : CS) (h : CaAt w g x) (kd fr tq ch ep ba nu se dn ve sl ke co ck cc ce cn gc ge gj : Int) (gf : Bool) (ga va ua dda : Option Addr) (gm gcp vm vcp um ucp dm dcp : Nat) (hk : x.k ≠ 1) (hfr : nodeB fr = true) (hnu : nu = x.nu) (hkd : kd = 18) :
    Calls Tryz.prog 23 #[.pointer (some ⟨g, 0, none⟩), .agg #[.int .i64 kd, .int .i64 fr, .int .i64 tq, .int .i64 ch, .int .u64 ep, .int .u64 ba, .int .u64 nu, .int .u64 se, .int .u64 dn, .int .u64 ve, .int .i64 sl, .int .u32 ke, .int .i64 co, .int .i64 ck, .int .i64 cc, .int .u64 ce, .int .i64 cn, .int .i64 gc, .int .u64 ge, .slice ga gm gcp, .bool gf, .int .i64 gj, .slice va vm vcp, .slice ua um ucp, .slice dda dm dcp]] w fun e w' => e = .returned (.bool true) ∧ Kept NoB w w' := by
  subst hkd hnu
  have HN := Lib.hid (fun w' => LNode_any w' fr)
  rw [hfr] at HN
  have HCC : Hid (∀ w', Kept NoB w w' → w'.cell? ⟨g, 4, none⟩ = some (.int .u64 x.nu) ∧ w'.cell? ⟨g, 5, none⟩ = some (.int .i64 x.k)) := Lib.hid (fun w' hk' => by
    obtain ⟨_, _, _, _, c4, c5, _⟩ := (h.no hk').c
    exact ⟨c4, c5⟩)
  obtain ⟨k, hk'⟩ : ∃ k, k = x.k := ⟨_, rfl⟩
  rw [← hk'] at HCC hk
  have hkb : (k == 1) = false := beq_eq_false_iff_ne.2 hk
  clear hk'
  obtain ⟨nu, hn⟩ : ∃ nu, nu = x.nu := ⟨_, rfl⟩
  rw [← hn] at HCC ⊢
  obtain ⟨W, hW⟩ : ∃ W, W = w.alloc (.cells #[.int .i64 18, .int .i64 fr, .int .i64 tq, .int .i64 ch, .int .u64 ep, .int .u64 ba, .int .u64 nu, .int .u64 se, .int .u64 dn, .int .u64 ve, .int .i64 sl, .int .u32 ke, .int .i64 co, .int .i64 ck, .int .i64 cc, .int .u64 ce, .int .i64 cn, .int .i64 gc, .int .u64 ge, .slice ga gm gcp, .bool gf, .int .i64 gj, .slice va vm vcp, .slice ua um ucp, .slice dda dm dcp] 48) := ⟨_, rfl⟩
  have HW := Lib.hid hW
  have HB : Hid (W.heap[w.heap.size]? = some (.cells #[.int .i64 18, .int .i64 fr, .int .i64 tq, .int .i64 ch, .int .u64 ep, .int .u64 ba, .int .u64 nu, .int .u64 se, .int .u64 dn, .int .u64 ve, .int .i64 sl, .int .u32 ke, .int .i64 co, .int .i64 ck, .int .i64 cc, .int .u64 ce, .int .i64 cn, .int .i64 gc, .int .u64 ge, .slice ga gm gcp, .bool gf, .int .i64 gj, .slice va vm vcp, .slice ua um ucp, .slice dda dm dcp] 48 (0, 0))) := Lib.hid (by rw [hW]; exact heap_alloc_new w _)
  have HK : Hid (Kept NoB w W) := Lib.hid (by rw [hW]; exact (Kept.refl NoB w).alloc _)
  obtain ⟨b, hb⟩ : ∃ b, b = w.heap.size := ⟨_, rfl⟩
  rw [← hb] at HB
  clear h hn hfr hW
  go_enter Tryz.func23, Tryz.ntmps23
  go_upto_region 1 with fail
  rw [← hb, ← HW.out]
  clear hb
  have HTEN : Hid (∀ w', Kept NoB W w' → w'.cell? ⟨b, 1, none⟩ = some (.int .i64 fr) ∧ w'.cell? ⟨b, 6, none⟩ = some (.int .u64 nu) ∧ w'.cell? ⟨g, 4, none⟩ = some (.int .u64 nu)) := Lib.hid (fun w' hk => ⟨cell_of_row _ _ 1 _ _ _ (hk.heap (fun h => h) HB.out), cell_of_row _ _ 6 _ _ _ (hk.heap (fun h => h) HB.out), (HCC.out w' (HK.out.trans hk (fun _ _ h => h))).1⟩)
  have HKc := Lib.hid (Kept.refl NoB W).drew
  have HT := Lib.hid (HTEN.out _ HKc.out)
  go_region_held3 (fun w' => w'.cell? ⟨b, 1, none⟩ = some (.int .i64 fr) ∧ w'.cell? ⟨b, 6, none⟩ = some (.int .u64 nu) ∧ w'.cell? ⟨g, 4, none⟩ = some (.int .u64 nu))
    (first | (with_reducible exact HT.out) | go_keep)
    ((first
      | (go_at_call 42; (with_reducible refine (HN.out _).mono ?_); rintro e w3 ⟨rfl, rfl⟩)
      | fail))
  have b0 : World.cell? _ ⟨b, 0, none⟩ = some (.int .i64 18) := cell_of_row _ _ 0 _ _ _ (HKc.out.heap (fun h => h) HB.out)
  have b11 : World.cell? _ ⟨b, 11, none⟩ = some (.int .u32 ke) := cell_of_row _ _ 11 _ _ _ (HKc.out.heap (fun h => h) HB.out)
  have hc := (HCC.out _ (HK.out.trans HKc.out (fun _ _ h => h)))
  obtain ⟨g4, g5⟩ := hc
  go_wp2
  go_ret
  exact ⟨rfl, HK.out.trans HKc.out (fun _ _ h => h)⟩
set_option maxRecDepth 100000 in
set_option maxHeartbeats 1000000 in
theorem Answers26_read (w : World) (g : Nat) (x : CS) (h : CaAt w g x) (kd fr tq ch ep ba nu se dn ve sl ke co ck cc ce cn gc ge gj : Int) (gf : Bool) (ga va ua dda : Option Addr) (gm gcp vm vcp um ucp dm dcp : Nat) (hk : x.k = 1) (hke : ke = x.y) (hfr : nodeB fr = true) (hnu : nu = x.nu) (hkd : kd = 20) :
    Calls Tryz.prog 23 #[.pointer (some ⟨g, 0, none⟩), .agg #[.int .i64 kd, .int .i64 fr, .int .i64 tq, .int .i64 ch, .int .u64 ep, .int .u64 ba, .int .u64 nu, .int .u64 se, .int .u64 dn, .int .u64 ve, .int .i64 sl, .int .u32 ke, .int .i64 co, .int .i64 ck, .int .i64 cc, .int .u64 ce, .int .i64 cn, .int .i64 gc, .int .u64 ge, .slice ga gm gcp, .bool gf, .int .i64 gj, .slice va vm vcp, .slice ua um ucp, .slice dda dm dcp]] w fun e w' => e = .returned (.bool true) ∧ Kept NoB w w' := by
  subst hkd hnu
  have HN := Lib.hid (fun w' => LNode_any w' fr)
  rw [hfr] at HN
  obtain ⟨y, hy⟩ : ∃ y, y = ke := ⟨_, rfl⟩
  rw [← hy] at hke ⊢
  have HCC : Hid (∀ w', Kept NoB w w' → w'.cell? ⟨g, 4, none⟩ = some (.int .u64 x.nu) ∧ w'.cell? ⟨g, 5, none⟩ = some (.int .i64 1) ∧ w'.cell? ⟨g, 6, none⟩ = some (.int .u32 y)) := Lib.hid (fun w' hk' => by
    obtain ⟨_, _, _, _, c4, c5, c6, _⟩ := (h.no hk').c
    rw [hk] at c5
    rw [← hke] at c6
    exact ⟨c4, c5, c6⟩)
  clear hke hy
  obtain ⟨nu, hn⟩ : ∃ nu, nu = x.nu := ⟨_, rfl⟩
  rw [← hn] at HCC ⊢
  obtain ⟨W, hW⟩ : ∃ W, W = w.alloc (.cells #[.int .i64 20, .int .i64 fr, .int .i64 tq, .int .i64 ch, .int .u64 ep, .int .u64 ba, .int .u64 nu, .int .u64 se, .int .u64 dn, .int .u64 ve, .int .i64 sl, .int .u32 y, .int .i64 co, .int .i64 ck, .int .i64 cc, .int .u64 ce, .int .i64 cn, .int .i64 gc, .int .u64 ge, .slice ga gm gcp, .bool gf, .int .i64 gj, .slice va vm vcp, .slice ua um ucp, .slice dda dm dcp] 48) := ⟨_, rfl⟩
  have HW := Lib.hid hW
  have HB : Hid (W.heap[w.heap.size]? = some (.cells #[.int .i64 20, .int .i64 fr, .int .i64 tq, .int .i64 ch, .int .u64 ep, .int .u64 ba, .int .u64 nu, .int .u64 se, .int .u64 dn, .int .u64 ve, .int .i64 sl, .int .u32 y, .int .i64 co, .int .i64 ck, .int .i64 cc, .int .u64 ce, .int .i64 cn, .int .i64 gc, .int .u64 ge, .slice ga gm gcp, .bool gf, .int .i64 gj, .slice va vm vcp, .slice ua um ucp, .slice dda dm dcp] 48 (0, 0))) := Lib.hid (by rw [hW]; exact heap_alloc_new w _)
  have HK : Hid (Kept NoB w W) := Lib.hid (by rw [hW]; exact (Kept.refl NoB w).alloc _)
  obtain ⟨b, hb⟩ : ∃ b, b = w.heap.size := ⟨_, rfl⟩
  rw [← hb] at HB
  clear h hn hfr hW
  go_enter Tryz.func23, Tryz.ntmps23
  go_upto_region 1 with fail
  rw [← hb, ← HW.out]
  clear hb
  have HTEN : Hid (∀ w', Kept NoB W w' → w'.cell? ⟨b, 1, none⟩ = some (.int .i64 fr) ∧ w'.cell? ⟨b, 6, none⟩ = some (.int .u64 nu) ∧ w'.cell? ⟨g, 4, none⟩ = some (.int .u64 nu)) := Lib.hid (fun w' hk => ⟨cell_of_row _ _ 1 _ _ _ (hk.heap (fun h => h) HB.out), cell_of_row _ _ 6 _ _ _ (hk.heap (fun h => h) HB.out), (HCC.out w' (HK.out.trans hk (fun _ _ h => h))).1⟩)
  have HKc := Lib.hid (Kept.refl NoB W).drew
  have HT := Lib.hid (HTEN.out _ HKc.out)
  go_region_held3 (fun w' => w'.cell? ⟨b, 1, none⟩ = some (.int .i64 fr) ∧ w'.cell? ⟨b, 6, none⟩ = some (.int .u64 nu) ∧ w'.cell? ⟨g, 4, none⟩ = some (.int .u64 nu))
    (first | (with_reducible exact HT.out) | go_keep)
    ((first
      | (go_at_call 42; (with_reducible refine (HN.out _).mono ?_); rintro e w3 ⟨rfl, rfl⟩)
      | fail))
  have b0 : World.cell? _ ⟨b, 0, none⟩ = some (.int .i64 20) := cell_of_row _ _ 0 _ _ _ (HKc.out.heap (fun h => h) HB.out)
  have b11 : World.cell? _ ⟨b, 11, none⟩ = some (.int .u32 y) := cell_of_row _ _ 11 _ _ _ (HKc.out.heap (fun h => h) HB.out)
  have hc := (HCC.out _ (HK.out.trans HKc.out (fun _ _ h => h)))
  obtain ⟨g4, g5, g6⟩ := id hc
  clear b0 b11 g4 g6 hc
  go_upto_region 4 with fail
  clear g5
  have HTEN2 : Hid (∀ w', Kept NoB W w' → w'.cell? ⟨b, 0, none⟩ = some (.int .i64 20) ∧ w'.cell? ⟨b, 11, none⟩ = some (.int .u32 y) ∧ w'.cell? ⟨g, 6, none⟩ = some (.int .u32 y)) := Lib.hid (fun w' hk => ⟨cell_of_row _ _ 0 _ _ _ (hk.heap (fun h => h) HB.out), cell_of_row _ _ 11 _ _ _ (hk.heap (fun h => h) HB.out), (HCC.out w' (HK.out.trans hk (fun _ _ h => h))).2.2⟩)
  have HKd := Lib.hid HKc.out.drew
  have HT2 := Lib.hid (HTEN2.out _ HKd.out)
  go_region_held3 (fun w' => w'.cell? ⟨b, 0, none⟩ = some (.int .i64 20) ∧ w'.cell? ⟨b, 11, none⟩ = some (.int .u32 y) ∧ w'.cell? ⟨g, 6, none⟩ = some (.int .u32 y))
    (first | (with_reducible exact HT2.out) | go_keep)
    (fail)
  replace HKc := HKd
  go_wp2
  go_ret
  exact ⟨rfl, HK.out.trans HKc.out (fun _ _ h => h)⟩
end Go.Proofs.YtclfecninhipnaaGreatDoor
namespace Go.Proofs.YtclfecninhipnaaGreatDoor
open Go.RowKit
set_option linter.unusedVariables false
set_option linter.unusedSimpArgs false

set_option maxRecDepth 100000 in
set_option maxHeartbeats 1000000 in
theorem Result26_set (w : World) (nu k y v p : Int) (d : Value) (q : Nat) (co ve : Int) (sa : Option Addr) (sc : Nat) (od : List Int) (F : Nat → Prop) (hr : RLat w q true co ve (.slice sa od.length sc)) (hd : BSl w F (.slice sa od.length sc) od) (hl : od.length ≤ 1000000) :
    Calls Tryz.prog 25 #[.agg #[.int .u64 nu, .int .i64 k, .int .u32 y, .int .u64 v, d, .int .i64 p, .pointer (some ⟨q, 0, none⟩)]] w fun e w' => ∃ a' c', e = .returned (.tuple #[.agg #[.int .i64 co, .int .u64 ve, .slice a' od.length c'], .bool true]) ∧ Own w' (fun b => w.heap.size ≤ b) (.slice a' od.length c') od ∧ Kept NoB w w' := by
  have HCL := Lib.hid (fun w' (hk : Kept NoB w w') => Clone_own17 _ od F w' (hd.kept hk (fun _ _ h => h)) hl)
  have HGT := Lib.hid (fun w' (hk : Kept NoB w w') => LGet26_set w' q co ve sa od.length sc (hr.no hk))
  obtain ⟨n, hn⟩ : ∃ n, n = od.length := ⟨_, rfl⟩
  have HN : Hid (n = od.length) := Lib.hid hn
  rw [← hn] at HCL HGT ⊢
  have HK := Lib.hid (((Kept.refl NoB w).alloc (.cells #[.int .u64 nu, .int .i64 k, .int .u32 y, .int .u64 v, d, .int .i64 p, .pointer (some ⟨q, 0, none⟩)] 62)).alloc (.cells #[.int .i64 0, .int .u64 0, .slice none 0 0] 51))
  have hb1 := blk_old25 (heap_alloc_new w (.cells #[.int .u64 nu, .int .i64 k, .int .u32 y, .int .u64 v, d, .int .i64 p, .pointer (some ⟨q, 0, none⟩)] 62)) (.cells #[.int .i64 0, .int .u64 0, .slice none 0 0] 51)
  have hb2 := heap_alloc_new (w.alloc (.cells #[.int .u64 nu, .int .i64 k, .int .u32 y, .int .u64 v, d, .int .i64 p, .pointer (some ⟨q, 0, none⟩)] 62)) (.cells #[.int .i64 0, .int .u64 0, .slice none 0 0] 51)
  rw [show (w.alloc (.cells #[.int .u64 nu, .int .i64 k, .int .u32 y, .int .u64 v, d, .int .i64 p, .pointer (some ⟨q, 0, none⟩)] 62)).heap.size = w.heap.size + 1 by simp] at hb2
  obtain ⟨W, hW⟩ : ∃ W, W = (w.alloc (.cells #[.int .u64 nu, .int .i64 k, .int .u32 y, .int .u64 v, d, .int .i64 p, .pointer (some ⟨q, 0, none⟩)] 62)).alloc (.cells #[.int .i64 0, .int .u64 0, .slice none 0 0] 51) := ⟨_, rfl⟩
  have HW := Lib.hid hW
  have HSZ : Hid (W.heap.size = w.heap.size + 2) := Lib.hid (by rw [hW]; simp)
  rw [← hW] at HK hb1 hb2
  have HB1 := Lib.hid hb1
  have HB2 := Lib.hid hb2
  clear hW hd hl hb1 hb2 hn hr
  go_enter Tryz.func25, Tryz.ntmps25
  go_upto_region 1 with fail
  rw [← HW.out]
  have o6 := cell_of_row _ _ 6 _ _ _ HB1.out
  go_wp2_with fail
  refine (HGT.out _ HK.out).mono ?_
  rintro e w1 ⟨rfl, hk1⟩
  have HK1 := Lib.hid (HK.out.trans hk1 (fun _ _ h => h))
  have HKW := Lib.hid (hk1)
  have HKA := Lib.hid (hk1.alloc (.cells #[.int .i64 co, .int .u64 ve, .slice sa n sc] 51))
  have HB3 := Lib.hid (heap_alloc_new w1 (.cells #[.int .i64 co, .int .u64 ve, .slice sa n sc] 51))
  have HS1 : Hid (w.heap.size + 2 ≤ w1.heap.size) := Lib.hid (by rw [← HSZ.out]; exact hk1.size)
  obtain ⟨V, hV⟩ : ∃ V, V = w1.alloc (.cells #[.int .i64 co, .int .u64 ve, .slice sa n sc] 51) := ⟨_, rfl⟩
  have HV := Lib.hid hV
  rw [← hV] at HKA HB3
  clear o6 hk1 hV
  go_upto_region 2 with fail
  rw [← HV.out]
  obtain ⟨b3, hb3⟩ : ∃ b3, b3 = w1.heap.size := ⟨_, rfl⟩
  rw [← hb3] at HB3 HS1 ⊢
  obtain ⟨b2, hb2⟩ : ∃ b2, b2 = w.heap.size + 1 := ⟨_, rfl⟩
  rw [← hb2] at HB2 ⊢
  have HBB : Hid (b2 = w.heap.size + 1) := Lib.hid hb2
  have hq1 : ¬ b3 = b2 := by have := HS1.out; omega
  have hq2 : ¬ b2 = b3 := fun h => hq1 h.symm
  clear hb3 hb2
  obtain ⟨c0, c1, c2⟩ := cells3c HB3.out
  go_wp2_with fail
  refine (HCL.out _ (HK.out.trans HKA.out (fun _ _ h => h))).mono ?_
  rintro e w2 ⟨v1, rfl, hown, hk2⟩
  have HO := Lib.hid hown
  have HK2 := Lib.hid ((HK.out.trans HKA.out (fun _ _ h => h)).trans hk2 (fun _ _ h => h))
  have HC3 := Lib.hid (hk2.heap (fun h => h) HB3.out)
  have HC2 := Lib.hid (hk2.heap (fun h => h) (HKA.out.heap (fun h => h) HB2.out))
  have HS2 : Hid (b3 < V.heap.size) := Lib.hid (heap_lt HB3.out)
  obtain ⟨va, vc, rfl⟩ := own_form hown.2.1
  rw [← HN.out] at HO ⊢
  clear c0 c1 c2 hown hk2
  obtain ⟨c0, c1, c2⟩ := cells3c HC3.out
  have f2 := frz25 HC3.out 2
  obtain ⟨d0, d1, d2⟩ := cells3c HC2.out
  obtain ⟨z0, z1, z2⟩ := And.intro (frz25 HC2.out 0) (And.intro (frz25 HC2.out 1) (frz25 HC2.out 2))
  go_wp2
  clear c0 c1 c2 d0 d1 d2 z0 z1 z2 f2
  have hC2 := blk_other25 HC2.out (k := b3) 2 (.slice va n vc) hq1
  have hF : (three26 (w2.setCell ⟨b3, 2, none⟩ (.slice va n vc)) b2 (.int .i64 co) (.int .u64 ve) (.slice va n vc)).heap[b2]? = some (.cells #[.int .i64 co, .int .u64 ve, .slice va n vc] 51 (0, 0)) := three26_at hC2 _ _ _
  have hw1 := (HK2.out.setCell (p := ⟨b3, 2, none⟩) (.inr (by show w.heap.size ≤ b3; have := HS1.out; omega)) (.slice va n vc)).three26 (b := b2) (.inr (by have := HBB.out; omega)) (.int .i64 co) (.int .u64 ve) (.slice va n vc)
  have hN := (HO.out.mono (G := fun b => V.heap.size ≤ b) (fun b _ h => h)).kept (((Kept.refl (fun b => b < V.heap.size) w2).setCell (p := ⟨b3, 2, none⟩) (.inl HS2.out) (.slice va n vc)).three26 (b := b2) (.inl (by have := HBB.out; have := HS1.out; have := HS2.out; omega)) (.int .i64 co) (.int .u64 ve) (.slice va n vc)) (fun b hF h => by have hF : V.heap.size ≤ b := hF; omega)
  have hN := hN.mono (G := fun b => w.heap.size ≤ b) (fun b _ h => by have := HS1.out; have := HS2.out; omega)
  obtain ⟨r0, r1, r2⟩ := cells3c hF
  clear hF hC2
  unfold three26 at r0 r1 r2 hw1 hN
  generalize hW : World.setCell _ _ _ = W2 at r0 r1 r2 hw1 hN ⊢
  exact bodyPost_ret (v := .tuple #[.agg #[.int .i64 co, .int .u64 ve, .slice va n vc], .bool true]) (by simp [results, Tryz.results25, go_sem, r0, r1, r2]) rfl ⟨va, vc, rfl, hN, hw1⟩
set_option maxRecDepth 100000 in
set_option maxHeartbeats 1000000 in
theorem Reply26_set (w : World) (g q : Nat) (x : CS) (h : CaAt w g x) (hlp : x.lp = .pointer (some ⟨q, 0, none⟩)) (co ve : Int) (sa : Option Addr) (sc : Nat) (od : List Int) (F : Nat → Prop) (hr : RLat w q true co ve (.slice sa od.length sc)) (hd : BSl w F (.slice sa od.length sc) od) (hl : od.length ≤ 1000000) :
    Calls Tryz.prog 11 #[.pointer (some ⟨g, 0, none⟩)] w fun e w' => ∃ a' c', e = .returned (.tuple #[.agg #[.int .i64 co, .int .u64 ve, .slice a' od.length c'], .bool true]) ∧ Own w' (fun b => w.heap.size ≤ b) (.slice a' od.length c') od ∧ Kept NoB w w' := by
  have HRS := Lib.hid (fun w' (hk : Kept NoB w w') => Result26_set w' x.nu x.k x.y x.v x.p x.d q co ve sa sc od F (hr.no hk) (hd.kept hk (fun _ _ h => h)) hl)
  have HK := Lib.hid ((Kept.refl NoB w).alloc (.cells #[.int .i64 0, .int .u64 0, .slice none 0 0] 51))
  have HB := Lib.hid (heap_alloc_new w (.cells #[.int .i64 0, .int .u64 0, .slice none 0 0] 51))
  have HG := Lib.hid (h.no HK.out)
  obtain ⟨n, hn⟩ : ∃ n, n = od.length := ⟨_, rfl⟩
  have HN : Hid (n = od.length) := Lib.hid hn
  rw [← hn] at HRS ⊢
  obtain ⟨W, hW⟩ : ∃ W, W = w.alloc (.cells #[.int .i64 0, .int .u64 0, .slice none 0 0] 51) := ⟨_, rfl⟩
  have HW := Lib.hid hW
  rw [← hW] at HB HK HG
  obtain ⟨_, _, _, _, c4, c5, c6, c7, c8, c9, c10, _⟩ := HG.out.c
  rw [hlp] at c10
  obtain ⟨b, hb⟩ : ∃ b, b = w.heap.size := ⟨_, rfl⟩
  have HBB : Hid (b = w.heap.size) := Lib.hid hb
  rw [← hb] at HB
  have HSW : Hid (b < W.heap.size) := Lib.hid (heap_lt HB.out)
  clear hW h hr hd hl hn
  go_enter Tryz.func11, Tryz.ntmps11
  go_upto_region 1 with fail
  rw [← hb, ← HW.out]
  clear hb
  go_wp2_with fail
  refine (HRS.out _ HK.out).mono ?_
  rintro e w1 ⟨va, vc, rfl, hown, hk1⟩
  have HO := Lib.hid hown
  have HK1 := Lib.hid (HK.out.trans hk1 (fun _ _ h => h))
  have HB1 := Lib.hid (hk1.heap (fun h => h) HB.out)
  clear hown hk1 c4 c5 c6 c7 c8 c9 c10
  obtain ⟨c0, c1, c2⟩ := cells3c HB1.out
  obtain ⟨f0, f1, f2⟩ := And.intro (frz25 HB1.out 0) (And.intro (frz25 HB1.out 1) (frz25 HB1.out 2))
  go_wp2
  clear c0 c1 c2 f0 f1 f2
  have hF := three26_at HB1.out (.int .i64 co) (.int .u64 ve) (.slice va n vc)
  obtain ⟨r0, r1, r2⟩ := cells3c hF
  have hK := HK1.out.three26 (b := b) (.inr (by rw [HBB.out]; exact Nat.le_refl _)) (.int .i64 co) (.int .u64 ve) (.slice va n vc)
  have hN := HO.out.kept ((Kept.refl (fun i => i = b) w1).three26 (b := b) (.inl rfl) (.int .i64 co) (.int .u64 ve) (.slice va n vc)) (fun i h e => by have h : W.heap.size ≤ i := h; have e : i = b := e; have := HSW.out; omega)
  have hN := hN.mono (G := fun b => w.heap.size ≤ b) (fun i _ h => by have h : W.heap.size ≤ i := h; have := HSW.out; have := HBB.out; omega)
  clear hF
  unfold three26 at r0 r1 r2 hK hN
  generalize hW : World.setCell _ _ _ = W2 at r0 r1 r2 hK hN ⊢
  exact bodyPost_ret (v := .tuple #[.agg #[.int .i64 co, .int .u64 ve, .slice va n vc], .bool true]) (by simp [results, Tryz.results11, go_sem, r0, r1, r2]) rfl ⟨va, vc, rfl, hN, hK⟩
end Go.Proofs.YtclfecninhipnaaGreatDoor
namespace Go.Proofs.YtclfecninhipnaaGreatDoor
open Go.RowKit
set_option linter.unusedVariables false
set_option linter.unusedSimpArgs false

def csAns (x : CS) : CS := { x with nu2 := x.nu, k2 := x.k, y2 := x.y, v2 := x.v, d2 := x.d, p2 := x.p, lp2 := x.lp }
def ans26 (w : World) (g : Nat) (nu k y v : Int) (d : Value) (p : Int) (lp : Value) : World := ((((((w.setCell ⟨g, 11, none⟩ (.int .u64 nu)).setCell ⟨g, 12, none⟩ (.int .i64 k)).setCell ⟨g, 13, none⟩ (.int .u32 y)).setCell ⟨g, 14, none⟩ (.int .u64 v)).setCell ⟨g, 15, none⟩ d).setCell ⟨g, 16, none⟩ (.int .i64 p)).setCell ⟨g, 17, none⟩ lp
set_option maxHeartbeats 2000000 in
theorem ans26_at {w : World} {g : Nat} {x : CS} (h : CaAt w g x) : CaAt (ans26 w g x.nu x.k x.y x.v x.d x.p x.lp) g (csAns x) := by
  have h1 := bset25 (bset25 (bset25 (bset25 (bset25 (bset25 (bset25 h 11 (.int .u64 x.nu)) 12 (.int .i64 x.k)) 13 (.int .u32 x.y)) 14 (.int .u64 x.v)) 15 x.d) 16 (.int .i64 x.p)) 17 x.lp
  exact h1
theorem Kept.ans26 {S : Nat → Prop} {a w : World} (h : Kept S a w) {g : Nat} (hg : S g ∨ a.heap.size ≤ g) (nu k y v : Int) (d : Value) (p : Int) (lp : Value) : Kept S a (Go.Proofs.YtclfecninhipnaaGreatDoor.ans26 w g nu k y v d p lp) :=
  ((((((h.setCell (p := ⟨g, 11, none⟩) hg _).setCell (p := ⟨g, 12, none⟩) hg _).setCell (p := ⟨g, 13, none⟩) hg _).setCell (p := ⟨g, 14, none⟩) hg _).setCell (p := ⟨g, 15, none⟩) hg _).setCell (p := ⟨g, 16, none⟩) hg _).setCell (p := ⟨g, 17, none⟩) hg _
set_option maxRecDepth 100000 in
set_option maxHeartbeats 2000000 in
theorem Note26_first (w : World) (g q : Nat) (x : CS) (h : CaAt w g x) (hlp : x.lp = .pointer (some ⟨q, 0, none⟩)) (hqg : q ≠ g) (hr : RLat w q false 0 0 (.slice none 0 0)) (xa : Option Addr) (xn xc : Nat) (hxd : x.d = .slice xa xn xc) (kd fr tq ch ep ba nu se dn ve sl ke co ck cc ce cn gc ge gj : Int) (gf : Bool) (ga va ua dda : Option Addr) (gm gcp vm vcp um ucp dm dcp : Nat) (od : List Int) (F : Nat → Prop) (hdm : dm = od.length) (hd : BSl w F (.slice dda dm dcp) od) (hl : od.length ≤ 1000000) :
    Calls Tryz.prog 24 #[.pointer (some ⟨g, 0, none⟩), .agg #[.int .i64 kd, .int .i64 fr, .int .i64 tq, .int .i64 ch, .int .u64 ep, .int .u64 ba, .int .u64 nu, .int .u64 se, .int .u64 dn, .int .u64 ve, .int .i64 sl, .int .u32 ke, .int .i64 co, .int .i64 ck, .int .i64 cc, .int .u64 ce, .int .i64 cn, .int .i64 gc, .int .u64 ge, .slice ga gm gcp, .bool gf, .int .i64 gj, .slice va vm vcp, .slice ua um ucp, .slice dda dm dcp]] w fun e w' => ∃ a' c', e = .returned (.tuple #[]) ∧ CaAt w' g (csAns x) ∧ RLat w' q true co ve (.slice a' dm c') ∧ Own w' (fun b => w.heap.size ≤ b) (.slice a' dm c') od ∧ Kept (fun b => b = g ∨ b = q) w w' := by
  have HCL := Lib.hid (fun w' (hk : Kept NoB w w') => Clone_own17 _ od F w' (hd.kept hk (fun _ _ h => h)) hl)
  obtain ⟨W, hW⟩ : ∃ W, W = w.alloc (.cells #[.int .i64 kd, .int .i64 fr, .int .i64 tq, .int .i64 ch, .int .u64 ep, .int .u64 ba, .int .u64 nu, .int .u64 se, .int .u64 dn, .int .u64 ve, .int .i64 sl, .int .u32 ke, .int .i64 co, .int .i64 ck, .int .i64 cc, .int .u64 ce, .int .i64 cn, .int .i64 gc, .int .u64 ge, .slice ga gm gcp, .bool gf, .int .i64 gj, .slice va vm vcp, .slice ua um ucp, .slice dda dm dcp] 48) := ⟨_, rfl⟩
  have HW := Lib.hid hW
  have HB : Hid (W.heap[w.heap.size]? = some (.cells #[.int .i64 kd, .int .i64 fr, .int .i64 tq, .int .i64 ch, .int .u64 ep, .int .u64 ba, .int .u64 nu, .int .u64 se, .int .u64 dn, .int .u64 ve, .int .i64 sl, .int .u32 ke, .int .i64 co, .int .i64 ck, .int .i64 cc, .int .u64 ce, .int .i64 cn, .int .i64 gc, .int .u64 ge, .slice ga gm gcp, .bool gf, .int .i64 gj, .slice va vm vcp, .slice ua um ucp, .slice dda dm dcp] 48 (0, 0))) := Lib.hid (by rw [hW]; exact heap_alloc_new w _)
  have HK : Hid (Kept NoB w W) := Lib.hid (by rw [hW]; exact (Kept.refl NoB w).alloc _)
  have HG := Lib.hid (h.no HK.out)
  have HR := Lib.hid (hr.no HK.out)
  have hql : q < w.heap.size := heap_lt hr
  have hgl : g < w.heap.size := heap_lt h
  have HDM : Hid (dm = od.length) := Lib.hid hdm
  have HLP := Lib.hid hlp
  obtain ⟨b, hb⟩ : ∃ b, b = w.heap.size := ⟨_, rfl⟩
  have HBB : Hid (b = w.heap.size) := Lib.hid hb
  rw [← hb] at HB
  have hbq : ¬ b = q := by omega
  have hgq : ¬ g = q := fun h => hqg h.symm
  have HTEN : Hid (∀ w', Kept (fun i => i = q) W w' → w'.cell? ⟨g, 10, none⟩ = some (.pointer (some ⟨q, 0, none⟩)) ∧ w'.cell? ⟨b, 12, none⟩ = some (.int .i64 co) ∧ w'.cell? ⟨b, 9, none⟩ = some (.int .u64 ve) ∧ w'.cell? ⟨b, 24, none⟩ = some (.slice dda dm dcp)) := Lib.hid (fun w' hk => by
    have hg := hk.heap hgq HG.out
    have hb := hk.heap hbq HB.out
    have c10 : w'.cell? ⟨g, 10, none⟩ = some x.lp := cell_of_row _ _ 10 _ _ _ hg
    rw [HLP.out] at c10
    exact ⟨c10, cell_of_row _ _ 12 _ _ _ hb, cell_of_row _ _ 9 _ _ _ hb, cell_of_row _ _ 24 _ _ _ hb⟩)
  clear hW h hr hd hl hdm hlp
  go_enter Tryz.func24, Tryz.ntmps24
  go_upto_region 1 with fail
  rw [← hb, ← HW.out]
  clear hb
  have HKc := Lib.hid (Kept.refl (fun i => i = q) W).drew
  have HKn := Lib.hid (Kept.refl NoB W).drew
  have HT := Lib.hid (HTEN.out _ HKc.out)
  go_region_held3 (fun w' => w'.cell? ⟨g, 10, none⟩ = some (.pointer (some ⟨q, 0, none⟩)) ∧ w'.cell? ⟨b, 12, none⟩ = some (.int .i64 co) ∧ w'.cell? ⟨b, 9, none⟩ = some (.int .u64 ve) ∧ w'.cell? ⟨b, 24, none⟩ = some (.slice dda dm dcp))
    (first | (with_reducible exact HT.out) | go_keep)
    ((first
      | (go_at_call 32; (with_reducible refine (HCL.out _ (HK.out.trans HKn.out (fun _ _ h => h))).mono ?_); rintro e w3 ⟨v1, rfl, hown, hk3⟩; obtain ⟨va', vc', rfl⟩ := own_form hown.2.1; (have HO := Lib.hid hown); rw [← HDM.out] at HO ⊢; replace HKn := Lib.hid (HKn.out.trans hk3 (fun _ _ h => h)); replace HKc := Lib.hid (HKn.out.mono (T := fun i => i = q) (fun _ _ h => h.elim)); replace HT := Lib.hid (HTEN.out _ HKc.out); clear hk3 hown)
      | (go_at_call 43; (with_reducible refine (SetR_first q co ve va' dm vc' _ (HR.out.no HKn.out)).mono ?_); rintro e w4 ⟨rfl, hr4, hk4⟩; (have HR4 := Lib.hid hr4); (have HO4 := Lib.hid (HO.out.kept hk4 (fun i h e => by have h : W.drew.heap.size ≤ i := h; have e : i = q := e; have : W.drew.heap.size = W.heap.size := rfl; have := HK.out.size; omega))); replace HKc := Lib.hid (HKc.out.trans hk4 (fun _ _ h => h)); replace HT := Lib.hid (HTEN.out _ HKc.out); clear hk4 hr4)
      | fail))
  have HG4 : Hid (CaAt w4 g x) := Lib.hid (HKc.out.heap hgq HG.out)
  obtain ⟨_, _, _, _, c4, c5, c6, c7, c8, c9, c10, c11, c12, c13, c14, c15, c16, c17⟩ := HG4.out.c
  have HA := Lib.hid (ans26_at HG4.out)
  have HKA := Lib.hid (Kept.ans26 (S := fun i => i = g) (Kept.refl _ w4) (g := g) (.inl rfl) x.nu x.k x.y x.v x.d x.p x.lp)
  obtain ⟨V, hV⟩ : ∃ V, V = ans26 w4 g x.nu x.k x.y x.v x.d x.p x.lp := ⟨_, rfl⟩
  rw [← hV] at HA HKA
  rw [hxd, HLP.out] at hV
  unfold ans26 at hV
  have HV := Lib.hid hV
  rw [hxd] at c8
  rw [HLP.out] at c10
  have f11 := HG4.out.frz 11
  have f12 := HG4.out.frz 12
  have f13 := HG4.out.frz 13
  have f14 := HG4.out.frz 14
  have f15 := HG4.out.frz 15
  have f16 := HG4.out.frz 16
  have f17 := HG4.out.frz 17
  have HRV := Lib.hid (RLat.kept26 HR4.out HKA.out hqg)
  have HOV := Lib.hid ((HO4.out.mono (G := fun i => w.heap.size ≤ i) (fun i _ h => by have h : W.heap.size ≤ i := h; have := HK.out.size; omega)).kept HKA.out (fun i h e => by have h : w.heap.size ≤ i := h; have e : i = g := e; omega))
  have HKV : Hid (Kept (fun i => i = g ∨ i = q) w V) := Lib.hid (((HK.out.mono (T := fun i => i = g ∨ i = q) (fun _ _ h => h.elim)).trans (HKc.out.mono (T := fun i => i = g ∨ i = q) (fun _ _ h => .inr h)) (fun _ _ h => h)).trans (HKA.out.mono (T := fun i => i = g ∨ i = q) (fun _ _ h => .inl h)) (fun _ _ h => h))
  clear hV hxd
  go_wp2
  rw [← HV.out]
  go_end0
  exact ⟨va', vc', rfl, HA.out, HRV.out, HOV.out, HKV.out⟩
set_option maxRecDepth 100000 in
set_option maxHeartbeats 2000000 in
theorem Note26_again (w : World) (g q : Nat) (x : CS) (h : CaAt w g x) (hlp : x.lp = .pointer (some ⟨q, 0, none⟩)) (cz vz : Int) (dz : Value) (hr : RLat w q true cz vz dz) (kd fr tq ch ep ba nu se dn ve sl ke co ck cc ce cn gc ge gj : Int) (gf : Bool) (ga va ua dda : Option Addr) (gm gcp vm vcp um ucp dm dcp : Nat) (od : List Int) (F : Nat → Prop) (hdm : dm = od.length) (hd : BSl w F (.slice dda dm dcp) od) (hl : od.length ≤ 1000000) :
    Calls Tryz.prog 24 #[.pointer (some ⟨g, 0, none⟩), .agg #[.int .i64 kd, .int .i64 fr, .int .i64 tq, .int .i64 ch, .int .u64 ep, .int .u64 ba, .int .u64 nu, .int .u64 se, .int .u64 dn, .int .u64 ve, .int .i64 sl, .int .u32 ke, .int .i64 co, .int .i64 ck, .int .i64 cc, .int .u64 ce, .int .i64 cn, .int .i64 gc, .int .u64 ge, .slice ga gm gcp, .bool gf, .int .i64 gj, .slice va vm vcp, .slice ua um ucp, .slice dda dm dcp]] w fun e w' => e = .returned (.tuple #[]) ∧ Kept NoB w w' := by
  have HCL := Lib.hid (fun w' (hk : Kept NoB w w') => Clone_own17 _ od F w' (hd.kept hk (fun _ _ h => h)) hl)
  obtain ⟨W, hW⟩ : ∃ W, W = w.alloc (.cells #[.int .i64 kd, .int .i64 fr, .int .i64 tq, .int .i64 ch, .int .u64 ep, .int .u64 ba, .int .u64 nu, .int .u64 se, .int .u64 dn, .int .u64 ve, .int .i64 sl, .int .u32 ke, .int .i64 co, .int .i64 ck, .int .i64 cc, .int .u64 ce, .int .i64 cn, .int .i64 gc, .int .u64 ge, .slice ga gm gcp, .bool gf, .int .i64 gj, .slice va vm vcp, .slice ua um ucp, .slice dda dm dcp] 48) := ⟨_, rfl⟩
  have HW := Lib.hid hW
  have HB : Hid (W.heap[w.heap.size]? = some (.cells #[.int .i64 kd, .int .i64 fr, .int .i64 tq, .int .i64 ch, .int .u64 ep, .int .u64 ba, .int .u64 nu, .int .u64 se, .int .u64 dn, .int .u64 ve, .int .i64 sl, .int .u32 ke, .int .i64 co, .int .i64 ck, .int .i64 cc, .int .u64 ce, .int .i64 cn, .int .i64 gc, .int .u64 ge, .slice ga gm gcp, .bool gf, .int .i64 gj, .slice va vm vcp, .slice ua um ucp, .slice dda dm dcp] 48 (0, 0))) := Lib.hid (by rw [hW]; exact heap_alloc_new w _)
  have HK : Hid (Kept NoB w W) := Lib.hid (by rw [hW]; exact (Kept.refl NoB w).alloc _)
  have HG := Lib.hid (h.no HK.out)
  have HR := Lib.hid (hr.no HK.out)
  have HDM : Hid (dm = od.length) := Lib.hid hdm
  have HLP := Lib.hid hlp
  obtain ⟨b, hb⟩ : ∃ b, b = w.heap.size := ⟨_, rfl⟩
  rw [← hb] at HB
  have HTEN : Hid (∀ w', Kept NoB W w' → w'.cell? ⟨g, 10, none⟩ = some (.pointer (some ⟨q, 0, none⟩)) ∧ w'.cell? ⟨b, 12, none⟩ = some (.int .i64 co) ∧ w'.cell? ⟨b, 9, none⟩ = some (.int .u64 ve) ∧ w'.cell? ⟨b, 24, none⟩ = some (.slice dda dm dcp)) := Lib.hid (fun w' hk => by
    have hg := hk.heap (fun h => h) HG.out
    have hb := hk.heap (fun h => h) HB.out
    have c10 : w'.cell? ⟨g, 10, none⟩ = some x.lp := cell_of_row _ _ 10 _ _ _ hg
    rw [HLP.out] at c10
    exact ⟨c10, cell_of_row _ _ 12 _ _ _ hb, cell_of_row _ _ 9 _ _ _ hb, cell_of_row _ _ 24 _ _ _ hb⟩)
  clear hW h hr hd hl hdm hlp
  go_enter Tryz.func24, Tryz.ntmps24
  go_upto_region 1 with fail
  rw [← hb, ← HW.out]
  clear hb
  have HKn := Lib.hid (Kept.refl NoB W).drew
  have HT := Lib.hid (HTEN.out _ HKn.out)
  go_region_held3 (fun w' => w'.cell? ⟨g, 10, none⟩ = some (.pointer (some ⟨q, 0, none⟩)) ∧ w'.cell? ⟨b, 12, none⟩ = some (.int .i64 co) ∧ w'.cell? ⟨b, 9, none⟩ = some (.int .u64 ve) ∧ w'.cell? ⟨b, 24, none⟩ = some (.slice dda dm dcp))
    (first | (with_reducible exact HT.out) | go_keep)
    ((first
      | (go_at_call 32; (with_reducible refine (HCL.out _ (HK.out.trans HKn.out (fun _ _ h => h))).mono ?_); rintro e w3 ⟨v1, rfl, hown, hk3⟩; obtain ⟨va', vc', rfl⟩ := own_form hown.2.1; rw [← HDM.out]; replace HKn := Lib.hid (HKn.out.trans hk3 (fun _ _ h => h)); replace HT := Lib.hid (HTEN.out _ HKn.out); clear hk3 hown)
      | (go_at_call 43; (with_reducible refine (SetR_again q cz vz co ve dz (.slice va' dm vc') _ (HR.out.no HKn.out)).mono ?_); rintro e w4 ⟨rfl, hk4⟩; replace HKn := Lib.hid (HKn.out.trans hk4 (fun _ _ h => h)); replace HT := Lib.hid (HTEN.out _ HKn.out); clear hk4)
      | fail))
  go_wp2
  go_end0
  exact ⟨rfl, HK.out.trans HKn.out (fun _ _ h => h)⟩
end Go.Proofs.YtclfecninhipnaaGreatDoor
namespace Go.Proofs.YtclfecninhipnaaGreatDoor
open Go.RowKit
set_option linter.unusedVariables false
set_option linter.unusedSimpArgs false

set_option maxRecDepth 100000 in
set_option maxHeartbeats 4000000 in
/-- Take of a letter that is valid, comes to this caller and answers. -/
theorem Take26_go (w : World) (g : Nat) (x : CS) (h : CaAt w g x) (c1 : 1 ≤ x.cl) (c6 : x.cl ≤ 6) (kd fr tq ch ep ba nu se dn ve sl ke co ck cc ce cn gc ge gj : Int) (gf : Bool) (ga va ua dda : Option Addr) (gm gcp vm vcp um ucp dm dcp : Nat) (htq : tq = 200 + x.cl) (hkd : kd ≠ 11) (R : World → Prop)
    (hch : ∀ w', Kept NoB w w' → Calls Tryz.prog 20 #[.agg #[.int .i64 kd, .int .i64 fr, .int .i64 tq, .int .i64 ch, .int .u64 ep, .int .u64 ba, .int .u64 nu, .int .u64 se, .int .u64 dn, .int .u64 ve, .int .i64 sl, .int .u32 ke, .int .i64 co, .int .i64 ck, .int .i64 cc, .int .u64 ce, .int .i64 cn, .int .i64 gc, .int .u64 ge, .slice ga gm gcp, .bool gf, .int .i64 gj, .slice va vm vcp, .slice ua um ucp, .slice dda dm dcp]] w' fun e w'' => e = .returned (.int .i64 0) ∧ Kept NoB w' w'')
    (han : ∀ w', Kept NoB w w' → Calls Tryz.prog 23 #[.pointer (some ⟨g, 0, none⟩), .agg #[.int .i64 kd, .int .i64 fr, .int .i64 tq, .int .i64 ch, .int .u64 ep, .int .u64 ba, .int .u64 nu, .int .u64 se, .int .u64 dn, .int .u64 ve, .int .i64 sl, .int .u32 ke, .int .i64 co, .int .i64 ck, .int .i64 cc, .int .u64 ce, .int .i64 cn, .int .i64 gc, .int .u64 ge, .slice ga gm gcp, .bool gf, .int .i64 gj, .slice va vm vcp, .slice ua um ucp, .slice dda dm dcp]] w' fun e w'' => e = .returned (.bool true) ∧ Kept NoB w' w'')
    (hno : ∀ w', Kept NoB w w' → Calls Tryz.prog 24 #[.pointer (some ⟨g, 0, none⟩), .agg #[.int .i64 kd, .int .i64 fr, .int .i64 tq, .int .i64 ch, .int .u64 ep, .int .u64 ba, .int .u64 nu, .int .u64 se, .int .u64 dn, .int .u64 ve, .int .i64 sl, .int .u32 ke, .int .i64 co, .int .i64 ck, .int .i64 cc, .int .u64 ce, .int .i64 cn, .int .i64 gc, .int .u64 ge, .slice ga gm gcp, .bool gf, .int .i64 gj, .slice va vm vcp, .slice ua um ucp, .slice dda dm dcp]] w' fun e w'' => e = .returned (.tuple #[]) ∧ R w'') :
    Calls Tryz.prog 10 #[.pointer (some ⟨g, 0, none⟩), .agg #[.int .i64 kd, .int .i64 fr, .int .i64 tq, .int .i64 ch, .int .u64 ep, .int .u64 ba, .int .u64 nu, .int .u64 se, .int .u64 dn, .int .u64 ve, .int .i64 sl, .int .u32 ke, .int .i64 co, .int .i64 ck, .int .i64 cc, .int .u64 ce, .int .i64 cn, .int .i64 gc, .int .u64 ge, .slice ga gm gcp, .bool gf, .int .i64 gj, .slice va vm vcp, .slice ua um ucp, .slice dda dm dcp]] w fun e w'' => e = .returned (.slice none 0 0) ∧ R w'' := by
  have HCH := Lib.hid hch
  have HAN := Lib.hid han
  have HNO := Lib.hid hno
  have HAD := Lib.hid (fun w' (hk : Kept NoB w w') => CAddr_any w' g x (h.no hk) c1 c6)
  rw [← htq] at HAD
  have hkb : (kd == 11) = false := beq_eq_false_iff_ne.2 hkd
  obtain ⟨W, hW⟩ : ∃ W, W = w.alloc (.cells #[.int .i64 kd, .int .i64 fr, .int .i64 tq, .int .i64 ch, .int .u64 ep, .int .u64 ba, .int .u64 nu, .int .u64 se, .int .u64 dn, .int .u64 ve, .int .i64 sl, .int .u32 ke, .int .i64 co, .int .i64 ck, .int .i64 cc, .int .u64 ce, .int .i64 cn, .int .i64 gc, .int .u64 ge, .slice ga gm gcp, .bool gf, .int .i64 gj, .slice va vm vcp, .slice ua um ucp, .slice dda dm dcp] 48) := ⟨_, rfl⟩
  have HW := Lib.hid hW
  have HB : Hid (W.heap[w.heap.size]? = some (.cells #[.int .i64 kd, .int .i64 fr, .int .i64 tq, .int .i64 ch, .int .u64 ep, .int .u64 ba, .int .u64 nu, .int .u64 se, .int .u64 dn, .int .u64 ve, .int .i64 sl, .int .u32 ke, .int .i64 co, .int .i64 ck, .int .i64 cc, .int .u64 ce, .int .i64 cn, .int .i64 gc, .int .u64 ge, .slice ga gm gcp, .bool gf, .int .i64 gj, .slice va vm vcp, .slice ua um ucp, .slice dda dm dcp] 48 (0, 0))) := Lib.hid (by rw [hW]; exact heap_alloc_new w _)
  have HK : Hid (Kept NoB w W) := Lib.hid (by rw [hW]; exact (Kept.refl NoB w).alloc _)
  obtain ⟨b, hb⟩ : ∃ b, b = w.heap.size := ⟨_, rfl⟩
  rw [← hb] at HB
  have HROW : Hid (∀ w', Kept NoB W w' → w'.heap[b]? = some (.cells #[.int .i64 kd, .int .i64 fr, .int .i64 tq, .int .i64 ch, .int .u64 ep, .int .u64 ba, .int .u64 nu, .int .u64 se, .int .u64 dn, .int .u64 ve, .int .i64 sl, .int .u32 ke, .int .i64 co, .int .i64 ck, .int .i64 cc, .int .u64 ce, .int .i64 cn, .int .i64 gc, .int .u64 ge, .slice ga gm gcp, .bool gf, .int .i64 gj, .slice va vm vcp, .slice ua um ucp, .slice dda dm dcp] 48 (0, 0))) := Lib.hid (fun w' hk => hk.heap (fun h => h) HB.out)
  have HTEN : Hid (∀ w', Kept NoB W w' → w'.cell? ⟨b, 2, none⟩ = some (.int .i64 tq)) := Lib.hid (fun w' hk => cell_of_row _ _ 2 _ _ _ (HROW.out w' hk))
  clear hW h hch han hno htq hkd
  go_enter Tryz.func10, Tryz.ntmps10
  go_upto_region 1 with fail
  rw [← hb, ← HW.out]
  clear hb
  have HKn := Lib.hid (Kept.refl NoB W).drew
  have HBD := Lib.hid (HROW.out _ HKn.out)
  have HT := Lib.hid (HTEN.out _ HKn.out)
  refine wp_region_noPanic ?_
  refine wp_region_held_drew (S := (fun w' => w'.cell? ⟨b, 2, none⟩ = some (.int .i64 tq))) (by kernel_rfl) ?_ (fun hHeld => ?_)
  · (try dsimp only); with_reducible exact HT.out
  refine wpAnyH_take (i := 0) (oi := { dst := some 5, op := Op.move (Operand.tmp 0), type := 32, pos := "caller.go:61", after := #[], guard := none }) (v := ?_) rfl (by kernel_rfl) (by kernel_rfl) (by kernel_rfl) (fun _ _ _ h => h) (Or.inl ⟨by rfl, ?_⟩) (by assumption) ?_
  rotate_left
  · (intro w hSw; (try dsimp only at hSw); go_simp; try with_reducible rfl)
  try simp only [Act.put, List.setIfInBounds_toArray, List.set_cons_zero, List.set_cons_succ]
  refine wpAnyH_take (i := 1) (oi := { dst := some 6, op := Op.binOp BinOp.eql 32 (Operand.tmp 5) (Operand.const (Value.pointer none)) 32, type := 4, pos := "caller.go:61", after := #[{ on := 0, ground := Ground.data }], guard := none }) (v := ?_) rfl (by kernel_rfl) (by kernel_rfl) (by kernel_rfl) (fun _ _ _ h => h) (Or.inl ⟨by rfl, ?_⟩) (by assumption) ?_
  rotate_left
  · (intro w hSw; (try dsimp only at hSw); go_simp; try with_reducible rfl)
  try simp only [Act.put, List.setIfInBounds_toArray, List.set_cons_zero, List.set_cons_succ]
  refine wpAnyH_take (i := 2) (oi := { dst := some 7, op := Op.move (Operand.tmp 6), type := 4, pos := "caller.go:61", after := #[{ on := 1, ground := Ground.data }], guard := none }) (v := ?_) rfl (by kernel_rfl) (by kernel_rfl) (by kernel_rfl) (fun _ _ _ h => h) (Or.inl ⟨by rfl, ?_⟩) (by assumption) ?_
  rotate_left
  · (intro w hSw; (try dsimp only at hSw); go_simp; try with_reducible rfl)
  try simp only [Act.put, List.setIfInBounds_toArray, List.set_cons_zero, List.set_cons_succ]
  refine wpAnyH_ready (rs := [3]) (by kernel_rfl) (by simp) ?_
  refine AllReadyH.cons (o := { dst := some 8, op := Op.load 48 (Operand.tmp 3), type := 48, pos := "caller.go:61", after := #[{ on := 2, ground := Ground.guard }], guard := some (2, false) }) rfl (fun K hK => ?_) AllReadyH.nil
  rw [if_pos (by rfl)]
  refine wp_load_row 48 (Operand.tmp 3) rfl b rfl 48 #[.int .i64 kd, .int .i64 fr, .int .i64 tq, .int .i64 ch, .int .u64 ep, .int .u64 ba, .int .u64 nu, .int .u64 se, .int .u64 dn, .int .u64 ve, .int .i64 sl, .int .u32 ke, .int .i64 co, .int .i64 ck, .int .i64 cc, .int .u64 ce, .int .i64 cn, .int .i64 gc, .int .u64 ge, .slice ga gm gcp, .bool gf, .int .i64 gj, .slice va vm vcp, .slice ua um ucp, .slice dda dm dcp] (0, 0) _ HBD.out Tryz.underlying48 rfl (by kernel_rfl) ?_
  try dsimp only
  refine hK.out _ _ ?_ (fun hHeld => ?_)
  · (try dsimp only); with_reducible exact HT.out
  clear hK K
  try simp only [Act.put, List.setIfInBounds_toArray, List.set_cons_zero, List.set_cons_succ]
  refine wpAnyH_ready (rs := [4]) (by kernel_rfl) (by simp) ?_
  refine AllReadyH.cons (o := { dst := some 9, op := Op.call { callee := Callee.value (Operand.func 20), args := #[Operand.tmp 8], argTypes := #[48] }, type := 29, pos := "caller.go:61", after := #[{ on := 3, ground := Ground.data }, { on := 2, ground := Ground.chain }, { on := 2, ground := Ground.guard }], guard := some (2, false) }) rfl (fun K hK => ?_) AllReadyH.nil
  rw [if_pos (by rfl)]
  go_simp
  refine (HCH.out _ (HK.out.trans HKn.out (fun _ _ h => h))).mono ?_
  rintro e w3 ⟨rfl, hk3⟩
  replace HKn := Lib.hid (HKn.out.trans hk3 (fun _ _ h => h))
  replace HT := Lib.hid (HTEN.out _ HKn.out)
  clear hk3
  try dsimp only
  refine hK.out _ _ ?_ (fun hHeld => ?_)
  · (try dsimp only); with_reducible exact HT.out
  clear hK K
  try simp only [Act.put, List.setIfInBounds_toArray, List.set_cons_zero, List.set_cons_succ]
  refine wpAnyH_take (i := 5) (oi := { dst := some 10, op := Op.binOp BinOp.neq 29 (Operand.tmp 9) (Operand.const (Value.int IntKind.i64 0)) 29, type := 4, pos := "caller.go:61", after := #[{ on := 4, ground := Ground.data }, { on := 2, ground := Ground.guard }], guard := some (2, false) }) (v := ?_) rfl (by kernel_rfl) (by kernel_rfl) (by kernel_rfl) (fun _ _ _ h => h) (Or.inl ⟨by rfl, ?_⟩) (by assumption) ?_
  rotate_left
  · (intro w hSw; (try dsimp only at hSw); go_simp; try with_reducible rfl)
  try simp only [Act.put, List.setIfInBounds_toArray, List.set_cons_zero, List.set_cons_succ]
  refine wpAnyH_take (i := 6) (oi := { dst := some 11, op := Op.pick (Operand.tmp 7) (Operand.const (Value.bool true)) (Operand.tmp 10), type := 4, pos := "caller.go:61", after := #[{ on := 2, ground := Ground.data }, { on := 5, ground := Ground.data }], guard := none }) (v := ?_) rfl (by kernel_rfl) (by kernel_rfl) (by kernel_rfl) (fun _ _ _ h => h) (Or.inl ⟨by rfl, ?_⟩) (by assumption) ?_
  rotate_left
  · (intro w hSw; (try dsimp only at hSw); go_simp; try with_reducible rfl)
  try simp only [Act.put, List.setIfInBounds_toArray, List.set_cons_zero, List.set_cons_succ]
  refine wpAnyH_take (i := 7) (oi := { dst := some 12, op := Op.move (Operand.tmp 11), type := 4, pos := "caller.go:61", after := #[{ on := 6, ground := Ground.data }, { on := 4, ground := Ground.chain }], guard := none }) (v := ?_) rfl (by kernel_rfl) (by kernel_rfl) (by kernel_rfl) (fun _ _ _ h => h) (Or.inl ⟨by rfl, ?_⟩) (by assumption) ?_
  rotate_left
  · (intro w hSw; (try dsimp only at hSw); go_simp; try with_reducible rfl)
  try simp only [Act.put, List.setIfInBounds_toArray, List.set_cons_zero, List.set_cons_succ]
  refine wpAnyH_take (i := 8) (oi := { dst := some 13, op := Op.fieldAddr 48 (Operand.tmp 3) 2, type := 0, pos := "caller.go:61", after := #[{ on := 7, ground := Ground.guard }], guard := some (7, false) }) (v := ?_) rfl (by kernel_rfl) (by kernel_rfl) (by kernel_rfl) (fun _ _ _ h => h) (Or.inl ⟨by rfl, ?_⟩) (by assumption) ?_
  rotate_left
  · (intro w hSw; (try dsimp only at hSw); go_simp; try with_reducible rfl)
  try simp only [Act.put, List.setIfInBounds_toArray, List.set_cons_zero, List.set_cons_succ]
  refine wpAnyH_take (i := 9) (oi := { dst := some 14, op := Op.load 3 (Operand.tmp 13), type := 3, pos := "caller.go:61", after := #[{ on := 8, ground := Ground.data }, { on := 7, ground := Ground.guard }], guard := some (7, false) }) (v := ?_) rfl (by kernel_rfl) (by kernel_rfl) (by kernel_rfl) (fun _ _ _ h => h) (Or.inl ⟨by rfl, ?_⟩) (by assumption) ?_
  rotate_left
  · (intro w hSw; (try dsimp only at hSw); go_simp; try with_reducible rfl)
  try simp only [Act.put, List.setIfInBounds_toArray, List.set_cons_zero, List.set_cons_succ]
  refine wpAnyH_take (i := 10) (oi := { dst := some 15, op := Op.move (Operand.tmp 0), type := 32, pos := "caller.go:61", after := #[{ on := 7, ground := Ground.guard }], guard := some (7, false) }) (v := ?_) rfl (by kernel_rfl) (by kernel_rfl) (by kernel_rfl) (fun _ _ _ h => h) (Or.inl ⟨by rfl, ?_⟩) (by assumption) ?_
  rotate_left
  · (intro w hSw; (try dsimp only at hSw); go_simp; try with_reducible rfl)
  try simp only [Act.put, List.setIfInBounds_toArray, List.set_cons_zero, List.set_cons_succ]
  refine wpAnyH_ready (rs := [11]) (by kernel_rfl) (by simp) ?_
  refine AllReadyH.cons (o := { dst := some 16, op := Op.call { callee := Callee.value (Operand.func 21), args := #[Operand.tmp 15], argTypes := #[32] }, type := 3, pos := "caller.go:61", after := #[{ on := 10, ground := Ground.data }, { on := 7, ground := Ground.chain }, { on := 7, ground := Ground.guard }], guard := some (7, false) }) rfl (fun K hK => ?_) AllReadyH.nil
  rw [if_pos (by rfl)]
  go_simp
  refine (HAD.out _ (HK.out.trans HKn.out (fun _ _ h => h))).mono ?_
  rintro e w4 ⟨rfl, rfl⟩
  try dsimp only
  refine hK.out _ _ ?_ (fun hHeld => ?_)
  · (try dsimp only); with_reducible exact HT.out
  clear hK K
  try simp only [Act.put, List.setIfInBounds_toArray, List.set_cons_zero, List.set_cons_succ]
  refine wpAnyH_take (i := 12) (oi := { dst := some 17, op := Op.binOp BinOp.neq 3 (Operand.tmp 14) (Operand.tmp 16) 3, type := 4, pos := "caller.go:61", after := #[{ on := 9, ground := Ground.data }, { on := 11, ground := Ground.data }, { on := 7, ground := Ground.guard }], guard := some (7, false) }) (v := ?_) rfl (by kernel_rfl) (by kernel_rfl) (by kernel_rfl) (fun _ _ _ h => h) (Or.inl ⟨by rfl, ?_⟩) (by assumption) ?_
  rotate_left
  · (intro w hSw; (try dsimp only at hSw); go_simp; try with_reducible rfl)
  try simp only [Act.put, List.setIfInBounds_toArray, List.set_cons_zero, List.set_cons_succ]
  refine wpAnyH_take (i := 13) (oi := { dst := some 18, op := Op.pick (Operand.tmp 12) (Operand.const (Value.bool true)) (Operand.tmp 17), type := 4, pos := "caller.go:61", after := #[{ on := 7, ground := Ground.data }, { on := 12, ground := Ground.data }], guard := none }) (v := ?_) rfl (by kernel_rfl) (by kernel_rfl) (by kernel_rfl) (fun _ _ _ h => h) (Or.inl ⟨by rfl, ?_⟩) (by assumption) ?_
  rotate_left
  · (intro w hSw; (try dsimp only at hSw); go_simp; try with_reducible rfl)
  try simp only [Act.put, List.setIfInBounds_toArray, List.set_cons_zero, List.set_cons_succ]
  refine wpAnyH_done (by kernel_rfl) ?_ _
  refine NoPanic.normal ?_
  have b0 : World.cell? _ ⟨b, 0, none⟩ = some (.int .i64 kd) := cell_of_row _ _ 0 _ _ _ (HROW.out _ HKn.out)
  go_wp2_with (refine wpList_load_row rfl 48 _ rfl b rfl 48 #[.int .i64 kd, .int .i64 fr, .int .i64 tq, .int .i64 ch, .int .u64 ep, .int .u64 ba, .int .u64 nu, .int .u64 se, .int .u64 dn, .int .u64 ve, .int .i64 sl, .int .u32 ke, .int .i64 co, .int .i64 ck, .int .i64 cc, .int .u64 ce, .int .i64 cn, .int .i64 gc, .int .u64 ge, .slice ga gm gcp, .bool gf, .int .i64 gj, .slice va vm vcp, .slice ua um ucp, .slice dda dm dcp] (0, 0) _ (HROW.out _ HKn.out) Tryz.underlying48 rfl (by kernel_rfl) ?_)
  refine (HAN.out _ (HK.out.trans HKn.out (fun _ _ h => h))).mono ?_
  rintro e w5 ⟨rfl, hk5⟩
  replace HKn := Lib.hid (HKn.out.trans hk5 (fun _ _ h => h))
  clear hk5 b0
  go_wp2_with (refine wpList_load_row rfl 48 _ rfl b rfl 48 #[.int .i64 kd, .int .i64 fr, .int .i64 tq, .int .i64 ch, .int .u64 ep, .int .u64 ba, .int .u64 nu, .int .u64 se, .int .u64 dn, .int .u64 ve, .int .i64 sl, .int .u32 ke, .int .i64 co, .int .i64 ck, .int .i64 cc, .int .u64 ce, .int .i64 cn, .int .i64 gc, .int .u64 ge, .slice ga gm gcp, .bool gf, .int .i64 gj, .slice va vm vcp, .slice ua um ucp, .slice dda dm dcp] (0, 0) _ (HROW.out _ HKn.out) Tryz.underlying48 rfl (by kernel_rfl) ?_)
  refine (HNO.out _ (HK.out.trans HKn.out (fun _ _ h => h))).mono ?_
  rintro e w6 ⟨rfl, hR⟩
  have HRR := Lib.hid hR
  clear hR
  go_wp2
  go_ret
  exact ⟨rfl, HRR.out⟩
end Go.Proofs.YtclfecninhipnaaGreatDoor
namespace Go.Proofs.YtclfecninhipnaaGreatDoor
open Go.RowKit
set_option linter.unusedVariables false
set_option linter.unusedSimpArgs false

set_option maxRecDepth 100000 in
theorem CTick_nil (w : World) : Calls Tryz.prog 12 #[.pointer none] w fun e w' => e = .returned (.slice none 0 0) ∧ Kept NoB w w' := by
  go_enter Tryz.func12, Tryz.ntmps12
  go_wp2
  go_ret
  exact ⟨rfl, Kept.refl _ _⟩
set_option maxRecDepth 100000 in
theorem CBusy_nil (w : World) : Calls Tryz.prog 8 #[.pointer none] w fun e w' => e = .returned (.bool false) ∧ Kept NoB w w' := by
  go_enter Tryz.func8, Tryz.ntmps8
  go_wp2
  go_ret
  exact ⟨rfl, Kept.refl _ _⟩
set_option maxRecDepth 100000 in
theorem CNum_nil (w : World) : Calls Tryz.prog 9 #[.pointer none] w fun e w' => e = .returned (.int .u64 0) ∧ Kept NoB w w' := by
  go_enter Tryz.func9, Tryz.ntmps9
  go_wp2
  go_ret
  exact ⟨rfl, Kept.refl _ _⟩
set_option maxRecDepth 100000 in
theorem CAddr_nil (w : World) : Calls Tryz.prog 21 #[.pointer none] w fun e w' => e = .returned (.int .i64 0) ∧ Kept NoB w w' := by
  go_enter Tryz.func21, Tryz.ntmps21
  go_wp2
  go_ret
  exact ⟨rfl, Kept.refl _ _⟩
set_option maxRecDepth 100000 in
theorem CBegin_nil (w : World) (k y v p : Int) (a : Option Addr) (n c : Nat) : Calls Tryz.prog 7 #[.pointer none, .agg #[.int .i64 k, .int .u32 y, .int .u64 v, .slice a n c, .int .i64 p]] w fun e w' => e = .returned (.tuple #[.slice none 0 0, .int .i64 2]) ∧ Kept NoB w w' := by
  go_enter Tryz.func7, Tryz.ntmps7
  go_wp2
  go_ret2
  exact ⟨rfl, (Kept.refl _ _).alloc _⟩
set_option maxRecDepth 100000 in
set_option maxHeartbeats 1000000 in
theorem CTake_nil (w : World) (kd fr tq ch ep ba nu se dn ve sl ke co ck cc ce cn gc ge gj : Int) (gf : Bool) (ga va' ua dda : Option Addr) (gm gcp vm vcp um ucp dm dcp : Nat) : Calls Tryz.prog 10 #[.pointer none, .agg #[.int .i64 kd, .int .i64 fr, .int .i64 tq, .int .i64 ch, .int .u64 ep, .int .u64 ba, .int .u64 nu, .int .u64 se, .int .u64 dn, .int .u64 ve, .int .i64 sl, .int .u32 ke, .int .i64 co, .int .i64 ck, .int .i64 cc, .int .u64 ce, .int .i64 cn, .int .i64 gc, .int .u64 ge, .slice ga gm gcp, .bool gf, .int .i64 gj, .slice va' vm vcp, .slice ua um ucp, .slice dda dm dcp]] w fun e w' => e = .returned (.slice none 0 0) ∧ Kept NoB w w' := by
  go_enter Tryz.func10, Tryz.ntmps10
  go_wp2_with fail
  go_quiet (fail)
  go_wp2
  go_ret
  exact ⟨rfl, ((Kept.refl _ _).alloc _).drewN _⟩
set_option maxRecDepth 100000 in
set_option maxHeartbeats 1000000 in
theorem CReply_nil (w : World) : Calls Tryz.prog 11 #[.pointer none] w fun e w' => e = .returned (.tuple #[.agg #[.int .i64 0, .int .u64 0, .slice none 0 0], .bool false]) ∧ Kept NoB w w' := by
  have HB := Lib.hid (heap_alloc_new w (.cells #[.int .i64 0, .int .u64 0, .slice none 0 0] 51))
  have HK := Lib.hid ((Kept.refl NoB w).alloc (.cells #[.int .i64 0, .int .u64 0, .slice none 0 0] 51))
  obtain ⟨W, hW⟩ : ∃ W, W = w.alloc (.cells #[.int .i64 0, .int .u64 0, .slice none 0 0] 51) := ⟨_, rfl⟩
  have HW := Lib.hid hW
  rw [← hW] at HB HK
  clear hW
  obtain ⟨c0, c1, c2⟩ := cells3c HB.out
  obtain ⟨f0, f1, f2⟩ := And.intro (frz25 HB.out 0) (And.intro (frz25 HB.out 1) (frz25 HB.out 2))
  go_enter Tryz.func11, Tryz.ntmps11
  go_upto_region 1 with fail
  rw [← HW.out]
  go_wp2
  clear c0 c1 c2 f0 f1 f2
  have hF := three26_at HB.out (.int .i64 0) (.int .u64 0) (.slice none 0 0)
  obtain ⟨r0, r1, r2⟩ := cells3c hF
  have hK := HK.out.three26 (b := w.heap.size) (.inr (Nat.le_refl _)) (.int .i64 0) (.int .u64 0) (.slice none 0 0)
  clear hF
  unfold three26 at r0 r1 r2 hK
  generalize hW : World.setCell _ _ _ = W2 at r0 r1 r2 hK ⊢
  exact bodyPost_ret (v := .tuple #[.agg #[.int .i64 0, .int .u64 0, .slice none 0 0], .bool false]) (by simp [results, Tryz.results11, go_sem, r0, r1, r2]) rfl ⟨rfl, hK⟩
end Go.Proofs.YtclfecninhipnaaGreatDoor
namespace Go.Proofs.YtclfecninhipnaaGreatDoor
open Go.RowKit
set_option linter.unusedVariables false
set_option linter.unusedSimpArgs false

theorem addr26 {fr : Int} (f0 : 1 ≤ fr) (f1 : fr ≤ 24) : nodeB fr = true ∧ addrB fr = true := by
  have h : nodeB fr = true := decide_eq_true ⟨f0, f1⟩
  exact ⟨h, by unfold addrB; rw [h]; rfl⟩
set_option maxRecDepth 100000 in
theorem chk26_w (fr ve co : Int) (f1 : addrB fr = true) (c0 : 0 ≤ co) (c1 : co ≤ 255) : chkE (⟨18, fr, 201, 0, 0, 0, 1, 0, 0, ve, 0, 0, co, 0, 0, 0, 0, 0, 0, .slice none 0 0, false, 0, .slice none 0 0, .slice none 0 0, .slice none 0 0⟩ : LV) ⟨[], [], [], []⟩ = 0 := by
  have h1 : decide (0 ≤ co) = true := decide_eq_true c0
  have h2 : decide (co ≤ 255) = true := decide_eq_true c1
  unfold chkE
  rw [if_pos (by rfl), if_pos f1, if_pos (by rfl), if_pos]
  unfold chkB
  rw [Bool.and_eq_true]
  constructor
  · rw [List.all_eq_true]
    intro i hi
    have hi' : i ∈ (prtK 18) := hi
    have hall : ∀ j ∈ prtK 18, j = 9 ∨ (j ≠ 0 ∧ j ≠ 1 ∧ j ≠ 2 ∧ j ≠ 5 ∧ j ≠ 7 ∧ j ≠ 9 ∧ j ≠ 11 ∧ j ≠ 12 ∧ j ≠ 13 ∧ j ≠ 14 ∧ j ≠ 15) := by decide +kernel
    rcases hall i hi' with rfl | hne
    · simp [rgt, h1, h2, c0, c1]
    · unfold rgt
      split <;> first | simp_all | rfl
  · kernel_rfl
set_option maxRecDepth 100000 in
theorem chk26_r (fr ve ke b0 : Int) (f1 : addrB fr = true) (da : Option Addr) (dc : Nat) : chkE (⟨20, fr, 201, 0, 0, 0, 1, 0, 0, ve, 0, ke, 0, 0, 0, 0, 0, 0, 0, .slice none 0 0, false, 0, .slice none 0 0, .slice none 0 0, .slice da 1 dc⟩ : LV) ⟨[], [], [], [b0]⟩ = 0 := by
  unfold chkE
  rw [if_pos (by rfl), if_pos f1, if_pos (by rfl), if_pos]
  unfold chkB
  rw [Bool.and_eq_true]
  constructor
  · rw [List.all_eq_true]
    intro i hi
    have hi' : i ∈ (prtK 20) := hi
    have hall : ∀ j ∈ prtK 20, (j ≠ 0 ∧ j ≠ 1 ∧ j ≠ 2 ∧ j ≠ 5 ∧ j ≠ 7 ∧ j ≠ 9 ∧ j ≠ 11 ∧ j ≠ 12 ∧ j ≠ 13 ∧ j ≠ 14 ∧ j ≠ 15) := by decide +kernel
    have hne := hall i hi'
    unfold rgt
    split <;> first | simp_all | rfl
  · kernel_rfl
set_option maxRecDepth 100000 in
set_option maxHeartbeats 1000000 in
theorem TakeW_first (w : World) (g q : Nat) (x : CS) (h : CaAt w g x) (hcl : x.cl = 1) (hnu : x.nu = 1) (hk : x.k ≠ 1) (hlp : x.lp = .pointer (some ⟨q, 0, none⟩)) (hqg : q ≠ g) (hr : RLat w q false 0 0 (.slice none 0 0)) (xa : Option Addr) (xn xc : Nat) (hxd : x.d = .slice xa xn xc) (fr ve co : Int) (c0 : 0 ≤ co) (c1 : co ≤ 255)  (f0 : 1 ≤ fr) (f1 : fr ≤ 24) (ht : Tab10 w) :
    Calls Tryz.prog 10 #[.pointer (some ⟨g, 0, none⟩), .agg #[.int .i64 18, .int .i64 fr, .int .i64 201, .int .i64 0, .int .u64 0, .int .u64 0, .int .u64 1, .int .u64 0, .int .u64 0, .int .u64 ve, .int .i64 0, .int .u32 0, .int .i64 co, .int .i64 0, .int .i64 0, .int .u64 0, .int .i64 0, .int .i64 0, .int .u64 0, .slice none 0 0, .bool false, .int .i64 0, .slice none 0 0, .slice none 0 0, .slice none 0 0]] w fun e w'' => ∃ a' c', e = .returned (.slice none 0 0) ∧ CaAt w'' g (csAns x) ∧ RLat w'' q true co ve (.slice a' 0 c') ∧ BSl w'' (fun b => w.heap.size ≤ b) (.slice a' 0 c') [] ∧ Kept (fun b => b = g ∨ b = q) w w'' := by
  obtain ⟨n1, n2⟩ := addr26 f0 f1
  have hch : ∀ w', Kept NoB w w' → Calls Tryz.prog 20 #[.agg #[.int .i64 18, .int .i64 fr, .int .i64 201, .int .i64 0, .int .u64 0, .int .u64 0, .int .u64 1, .int .u64 0, .int .u64 0, .int .u64 ve, .int .i64 0, .int .u32 0, .int .i64 co, .int .i64 0, .int .i64 0, .int .u64 0, .int .i64 0, .int .i64 0, .int .u64 0, .slice none 0 0, .bool false, .int .i64 0, .slice none 0 0, .slice none 0 0, .slice none 0 0]] w' fun e w'' => e = .returned (.int .i64 0) ∧ Kept NoB w' w'' := fun w' hk' => by
    have hm : LtM w' (fun _ => False) (⟨18, fr, 201, 0, 0, 0, 1, 0, 0, ve, 0, 0, co, 0, 0, 0, 0, 0, 0, .slice none 0 0, false, 0, .slice none 0 0, .slice none 0 0, .slice none 0 0⟩ : LV) (⟨[], [], [], []⟩ : LC) := ⟨NSl.nil _ _, VRd.nil _ _, UsAt.nil _ _, (BSl.nil _ _), (fun v hv => by cases hv), (by show (0 : Int) ≤ 0; decide), (by show (0 : Int) ≤ 18446744073709551615; decide), (by show (0 : Int) ≤ 0; decide), (by show (0 : Int) ≤ 0; decide), (by show (0 : Int) ≤ topE; decide)⟩
    have := LCheck_any w' 18 fr 201 0 0 0 1 0 0 ve 0 0 co 0 0 0 0 0 0 0 false none none none none 0 0 0 0 0 0 0 0 (⟨18, fr, 201, 0, 0, 0, 1, 0, 0, ve, 0, 0, co, 0, 0, 0, 0, 0, 0, .slice none 0 0, false, 0, .slice none 0 0, .slice none 0 0, .slice none 0 0⟩ : LV) (⟨[], [], [], []⟩ : LC) (fun _ => False) rfl hm (by show (0 : Nat) ≤ 1000; decide) (fun _ h => h.elim) (ht.kept hk' (fun h => h))
    rw [chk26_w fr ve co n2 c0 c1] at this
    exact this
  refine (Take26_go w g x h (by omega) (by omega) 18 fr 201 0 0 0 1 0 0 ve 0 0 co 0 0 0 0 0 0 0 false none none none none 0 0 0 0 0 0 0 0 (by omega) (by decide) (fun w'' => ∃ a' c', CaAt w'' g (csAns x) ∧ RLat w'' q true co ve (.slice a' 0 c') ∧ BSl w'' (fun b => w.heap.size ≤ b) (.slice a' 0 c') [] ∧ Kept (fun b => b = g ∨ b = q) w w'') hch (fun w' hk' => Answers26_write w' g x (h.no hk') 18 fr 201 0 0 0 1 0 0 ve 0 0 co 0 0 0 0 0 0 0 false none none none none 0 0 0 0 0 0 0 0 hk n1 hnu.symm rfl) (fun w' hk' => (Note26_first w' g q x (h.no hk') hlp hqg (hr.no hk') xa xn xc hxd 18 fr 201 0 0 0 1 0 0 ve 0 0 co 0 0 0 0 0 0 0 false none none none none 0 0 0 0 0 0 0 0 [] (fun _ => False) rfl (BSl.nil _ _) (by show (0 : Nat) ≤ 1000000; decide)).mono ?_)).mono ?_
  · rintro e w'' ⟨a', c', rfl, h1, h2, h3, h4⟩
    exact ⟨rfl, a', c', h1, h2, h3.bsl.mono (fun k _ h => by have h : w'.heap.size ≤ k := h; have := hk'.size; omega), (hk'.mono (fun _ _ h => h.elim)).trans h4 (fun _ _ h => h)⟩
  · rintro e w'' ⟨rfl, a', c', h1, h2, h3, h4⟩
    exact ⟨a', c', rfl, h1, h2, h3, h4⟩
set_option maxRecDepth 100000 in
set_option maxHeartbeats 1000000 in
theorem TakeW_again (w : World) (g q : Nat) (x : CS) (h : CaAt w g x) (hcl : x.cl = 1) (hnu : x.nu = 1) (hk : x.k ≠ 1) (hlp : x.lp = .pointer (some ⟨q, 0, none⟩)) (cz vz : Int) (dz : Value) (hr : RLat w q true cz vz dz) (fr ve co : Int) (c0 : 0 ≤ co) (c1 : co ≤ 255)  (f0 : 1 ≤ fr) (f1 : fr ≤ 24) (ht : Tab10 w) :
    Calls Tryz.prog 10 #[.pointer (some ⟨g, 0, none⟩), .agg #[.int .i64 18, .int .i64 fr, .int .i64 201, .int .i64 0, .int .u64 0, .int .u64 0, .int .u64 1, .int .u64 0, .int .u64 0, .int .u64 ve, .int .i64 0, .int .u32 0, .int .i64 co, .int .i64 0, .int .i64 0, .int .u64 0, .int .i64 0, .int .i64 0, .int .u64 0, .slice none 0 0, .bool false, .int .i64 0, .slice none 0 0, .slice none 0 0, .slice none 0 0]] w fun e w'' => e = .returned (.slice none 0 0) ∧ Kept NoB w w'' := by
  obtain ⟨n1, n2⟩ := addr26 f0 f1
  have hch : ∀ w', Kept NoB w w' → Calls Tryz.prog 20 #[.agg #[.int .i64 18, .int .i64 fr, .int .i64 201, .int .i64 0, .int .u64 0, .int .u64 0, .int .u64 1, .int .u64 0, .int .u64 0, .int .u64 ve, .int .i64 0, .int .u32 0, .int .i64 co, .int .i64 0, .int .i64 0, .int .u64 0, .int .i64 0, .int .i64 0, .int .u64 0, .slice none 0 0, .bool false, .int .i64 0, .slice none 0 0, .slice none 0 0, .slice none 0 0]] w' fun e w'' => e = .returned (.int .i64 0) ∧ Kept NoB w' w'' := fun w' hk' => by
    have hm : LtM w' (fun _ => False) (⟨18, fr, 201, 0, 0, 0, 1, 0, 0, ve, 0, 0, co, 0, 0, 0, 0, 0, 0, .slice none 0 0, false, 0, .slice none 0 0, .slice none 0 0, .slice none 0 0⟩ : LV) (⟨[], [], [], []⟩ : LC) := ⟨NSl.nil _ _, VRd.nil _ _, UsAt.nil _ _, (BSl.nil _ _), (fun v hv => by cases hv), (by show (0 : Int) ≤ 0; decide), (by show (0 : Int) ≤ 18446744073709551615; decide), (by show (0 : Int) ≤ 0; decide), (by show (0 : Int) ≤ 0; decide), (by show (0 : Int) ≤ topE; decide)⟩
    have := LCheck_any w' 18 fr 201 0 0 0 1 0 0 ve 0 0 co 0 0 0 0 0 0 0 false none none none none 0 0 0 0 0 0 0 0 (⟨18, fr, 201, 0, 0, 0, 1, 0, 0, ve, 0, 0, co, 0, 0, 0, 0, 0, 0, .slice none 0 0, false, 0, .slice none 0 0, .slice none 0 0, .slice none 0 0⟩ : LV) (⟨[], [], [], []⟩ : LC) (fun _ => False) rfl hm (by show (0 : Nat) ≤ 1000; decide) (fun _ h => h.elim) (ht.kept hk' (fun h => h))
    rw [chk26_w fr ve co n2 c0 c1] at this
    exact this
  exact Take26_go w g x h (by omega) (by omega) 18 fr 201 0 0 0 1 0 0 ve 0 0 co 0 0 0 0 0 0 0 false none none none none 0 0 0 0 0 0 0 0 (by omega) (by decide) (fun w'' => Kept NoB w w'') hch (fun w' hk' => Answers26_write w' g x (h.no hk') 18 fr 201 0 0 0 1 0 0 ve 0 0 co 0 0 0 0 0 0 0 false none none none none 0 0 0 0 0 0 0 0 hk n1 hnu.symm rfl) (fun w' hk' => (Note26_again w' g q x (h.no hk') hlp cz vz dz (hr.no hk') 18 fr 201 0 0 0 1 0 0 ve 0 0 co 0 0 0 0 0 0 0 false none none none none 0 0 0 0 0 0 0 0 [] (fun _ => False) rfl (BSl.nil _ _) (by show (0 : Nat) ≤ 1000000; decide)).mono (fun e w'' h => ⟨h.1, hk'.trans h.2 (fun _ _ h => h)⟩))
set_option maxRecDepth 100000 in
set_option maxHeartbeats 1000000 in
theorem TakeR_first (w : World) (g q : Nat) (x : CS) (h : CaAt w g x) (hcl : x.cl = 1) (hnu : x.nu = 1)  (hlp : x.lp = .pointer (some ⟨q, 0, none⟩)) (hqg : q ≠ g) (hr : RLat w q false 0 0 (.slice none 0 0)) (xa : Option Addr) (xn xc : Nat) (hxd : x.d = .slice xa xn xc) (fr ve ke b0 : Int) (da : Option Addr) (dc : Nat) (F : Nat → Prop) (hF : ∀ k, F k → k < w.heap.size) (hd : BSl w F (.slice da 1 dc) [b0]) (hk : x.k = 1) (hke : ke = x.y) (f0 : 1 ≤ fr) (f1 : fr ≤ 24) (ht : Tab10 w) :
    Calls Tryz.prog 10 #[.pointer (some ⟨g, 0, none⟩), .agg #[.int .i64 20, .int .i64 fr, .int .i64 201, .int .i64 0, .int .u64 0, .int .u64 0, .int .u64 1, .int .u64 0, .int .u64 0, .int .u64 ve, .int .i64 0, .int .u32 ke, .int .i64 0, .int .i64 0, .int .i64 0, .int .u64 0, .int .i64 0, .int .i64 0, .int .u64 0, .slice none 0 0, .bool false, .int .i64 0, .slice none 0 0, .slice none 0 0, .slice da 1 dc]] w fun e w'' => ∃ a' c', e = .returned (.slice none 0 0) ∧ CaAt w'' g (csAns x) ∧ RLat w'' q true 0 ve (.slice a' 1 c') ∧ BSl w'' (fun b => w.heap.size ≤ b) (.slice a' 1 c') [b0] ∧ Kept (fun b => b = g ∨ b = q) w w'' := by
  obtain ⟨n1, n2⟩ := addr26 f0 f1
  have hch : ∀ w', Kept NoB w w' → Calls Tryz.prog 20 #[.agg #[.int .i64 20, .int .i64 fr, .int .i64 201, .int .i64 0, .int .u64 0, .int .u64 0, .int .u64 1, .int .u64 0, .int .u64 0, .int .u64 ve, .int .i64 0, .int .u32 ke, .int .i64 0, .int .i64 0, .int .i64 0, .int .u64 0, .int .i64 0, .int .i64 0, .int .u64 0, .slice none 0 0, .bool false, .int .i64 0, .slice none 0 0, .slice none 0 0, .slice da 1 dc]] w' fun e w'' => e = .returned (.int .i64 0) ∧ Kept NoB w' w'' := fun w' hk' => by
    have hm : LtM w' F (⟨20, fr, 201, 0, 0, 0, 1, 0, 0, ve, 0, ke, 0, 0, 0, 0, 0, 0, 0, .slice none 0 0, false, 0, .slice none 0 0, .slice none 0 0, .slice da 1 dc⟩ : LV) (⟨[], [], [], [b0]⟩ : LC) := ⟨NSl.nil _ _, VRd.nil _ _, UsAt.nil _ _, (hd.kept hk' (fun _ _ h => h)), (fun v hv => by cases hv), (by show (0 : Int) ≤ 0; decide), (by show (0 : Int) ≤ 18446744073709551615; decide), (by show (0 : Int) ≤ 0; decide), (by show (0 : Int) ≤ 0; decide), (by show (0 : Int) ≤ topE; decide)⟩
    have := LCheck_any w' 20 fr 201 0 0 0 1 0 0 ve 0 ke 0 0 0 0 0 0 0 0 false none none none da 0 0 0 0 0 0 1 dc (⟨20, fr, 201, 0, 0, 0, 1, 0, 0, ve, 0, ke, 0, 0, 0, 0, 0, 0, 0, .slice none 0 0, false, 0, .slice none 0 0, .slice none 0 0, .slice da 1 dc⟩ : LV) (⟨[], [], [], [b0]⟩ : LC) F rfl hm (by show (0 : Nat) ≤ 1000; decide) (fun k h => Nat.lt_of_lt_of_le (hF k h) hk'.size) (ht.kept hk' (fun h => h))
    rw [chk26_r fr ve ke b0 n2 da dc] at this
    exact this
  refine (Take26_go w g x h (by omega) (by omega) 20 fr 201 0 0 0 1 0 0 ve 0 ke 0 0 0 0 0 0 0 0 false none none none da 0 0 0 0 0 0 1 dc (by omega) (by decide) (fun w'' => ∃ a' c', CaAt w'' g (csAns x) ∧ RLat w'' q true 0 ve (.slice a' 1 c') ∧ BSl w'' (fun b => w.heap.size ≤ b) (.slice a' 1 c') [b0] ∧ Kept (fun b => b = g ∨ b = q) w w'') hch (fun w' hk' => Answers26_read w' g x (h.no hk') 20 fr 201 0 0 0 1 0 0 ve 0 ke 0 0 0 0 0 0 0 0 false none none none da 0 0 0 0 0 0 1 dc hk hke n1 hnu.symm rfl) (fun w' hk' => (Note26_first w' g q x (h.no hk') hlp hqg (hr.no hk') xa xn xc hxd 20 fr 201 0 0 0 1 0 0 ve 0 ke 0 0 0 0 0 0 0 0 false none none none da 0 0 0 0 0 0 1 dc [b0] F rfl (hd.kept hk' (fun _ _ h => h)) (by show (1 : Nat) ≤ 1000000; decide)).mono ?_)).mono ?_
  · rintro e w'' ⟨a', c', rfl, h1, h2, h3, h4⟩
    exact ⟨rfl, a', c', h1, h2, h3.bsl.mono (fun k _ h => by have h : w'.heap.size ≤ k := h; have := hk'.size; omega), (hk'.mono (fun _ _ h => h.elim)).trans h4 (fun _ _ h => h)⟩
  · rintro e w'' ⟨rfl, a', c', h1, h2, h3, h4⟩
    exact ⟨a', c', rfl, h1, h2, h3, h4⟩
set_option maxRecDepth 100000 in
set_option maxHeartbeats 1000000 in
theorem TakeR_again (w : World) (g q : Nat) (x : CS) (h : CaAt w g x) (hcl : x.cl = 1) (hnu : x.nu = 1)  (hlp : x.lp = .pointer (some ⟨q, 0, none⟩)) (cz vz : Int) (dz : Value) (hr : RLat w q true cz vz dz) (fr ve ke b0 : Int) (da : Option Addr) (dc : Nat) (F : Nat → Prop) (hF : ∀ k, F k → k < w.heap.size) (hd : BSl w F (.slice da 1 dc) [b0]) (hk : x.k = 1) (hke : ke = x.y) (f0 : 1 ≤ fr) (f1 : fr ≤ 24) (ht : Tab10 w) :
    Calls Tryz.prog 10 #[.pointer (some ⟨g, 0, none⟩), .agg #[.int .i64 20, .int .i64 fr, .int .i64 201, .int .i64 0, .int .u64 0, .int .u64 0, .int .u64 1, .int .u64 0, .int .u64 0, .int .u64 ve, .int .i64 0, .int .u32 ke, .int .i64 0, .int .i64 0, .int .i64 0, .int .u64 0, .int .i64 0, .int .i64 0, .int .u64 0, .slice none 0 0, .bool false, .int .i64 0, .slice none 0 0, .slice none 0 0, .slice da 1 dc]] w fun e w'' => e = .returned (.slice none 0 0) ∧ Kept NoB w w'' := by
  obtain ⟨n1, n2⟩ := addr26 f0 f1
  have hch : ∀ w', Kept NoB w w' → Calls Tryz.prog 20 #[.agg #[.int .i64 20, .int .i64 fr, .int .i64 201, .int .i64 0, .int .u64 0, .int .u64 0, .int .u64 1, .int .u64 0, .int .u64 0, .int .u64 ve, .int .i64 0, .int .u32 ke, .int .i64 0, .int .i64 0, .int .i64 0, .int .u64 0, .int .i64 0, .int .i64 0, .int .u64 0, .slice none 0 0, .bool false, .int .i64 0, .slice none 0 0, .slice none 0 0, .slice da 1 dc]] w' fun e w'' => e = .returned (.int .i64 0) ∧ Kept NoB w' w'' := fun w' hk' => by
    have hm : LtM w' F (⟨20, fr, 201, 0, 0, 0, 1, 0, 0, ve, 0, ke, 0, 0, 0, 0, 0, 0, 0, .slice none 0 0, false, 0, .slice none 0 0, .slice none 0 0, .slice da 1 dc⟩ : LV) (⟨[], [], [], [b0]⟩ : LC) := ⟨NSl.nil _ _, VRd.nil _ _, UsAt.nil _ _, (hd.kept hk' (fun _ _ h => h)), (fun v hv => by cases hv), (by show (0 : Int) ≤ 0; decide), (by show (0 : Int) ≤ 18446744073709551615; decide), (by show (0 : Int) ≤ 0; decide), (by show (0 : Int) ≤ 0; decide), (by show (0 : Int) ≤ topE; decide)⟩
    have := LCheck_any w' 20 fr 201 0 0 0 1 0 0 ve 0 ke 0 0 0 0 0 0 0 0 false none none none da 0 0 0 0 0 0 1 dc (⟨20, fr, 201, 0, 0, 0, 1, 0, 0, ve, 0, ke, 0, 0, 0, 0, 0, 0, 0, .slice none 0 0, false, 0, .slice none 0 0, .slice none 0 0, .slice da 1 dc⟩ : LV) (⟨[], [], [], [b0]⟩ : LC) F rfl hm (by show (0 : Nat) ≤ 1000; decide) (fun k h => Nat.lt_of_lt_of_le (hF k h) hk'.size) (ht.kept hk' (fun h => h))
    rw [chk26_r fr ve ke b0 n2 da dc] at this
    exact this
  exact Take26_go w g x h (by omega) (by omega) 20 fr 201 0 0 0 1 0 0 ve 0 ke 0 0 0 0 0 0 0 0 false none none none da 0 0 0 0 0 0 1 dc (by omega) (by decide) (fun w'' => Kept NoB w w'') hch (fun w' hk' => Answers26_read w' g x (h.no hk') 20 fr 201 0 0 0 1 0 0 ve 0 ke 0 0 0 0 0 0 0 0 false none none none da 0 0 0 0 0 0 1 dc hk hke n1 hnu.symm rfl) (fun w' hk' => (Note26_again w' g q x (h.no hk') hlp cz vz dz (hr.no hk') 20 fr 201 0 0 0 1 0 0 ve 0 ke 0 0 0 0 0 0 0 0 false none none none da 0 0 0 0 0 0 1 dc [b0] F rfl (hd.kept hk' (fun _ _ h => h)) (by show (1 : Nat) ≤ 1000000; decide)).mono (fun e w'' h => ⟨h.1, hk'.trans h.2 (fun _ _ h => h)⟩))
end Go.Proofs.YtclfecninhipnaaGreatDoor
namespace Go.Proofs.YtclfecninhipnaaGreatDoor
open Go.RowKit
set_option linter.unusedVariables false
set_option linter.unusedSimpArgs false

theorem Kept.wide26 {S : Nat → Prop} {W w w' : World} (h : Kept (fun i => W.heap.size ≤ i) W w) (hk : Kept S w w') (hs : ∀ i, S i → W.heap.size ≤ i) : Kept (fun i => W.heap.size ≤ i) W w' := h.trans hk (fun i _ hS => hs i hS)
set_option maxRecDepth 100000 in
set_option maxHeartbeats 4000000 in
theorem Once26_fail (w : World) (k y v p p0 p1 q0 q1 : Int) (da : Option Addr) (n dc : Nat) (od : List Int) (hm : n = od.length) (hn : ¬ 2100 < n) (hd : BSl w (fun i => i < w.heap.size) (.slice da n dc) od) (y0 : 0 ≤ y) (y1 : y ≤ 4294967295) (hp0 : 0 ≤ p0) (hp1 : p0 ≤ 255) (hp2 : 0 ≤ p1) (hp3 : p1 ≤ 255) (hq0 : 0 ≤ q0) (hq1 : q0 ≤ 255) (hq2 : 0 ≤ q1) (hq3 : q1 ≤ 255) (ht : Tab10 w) (E : Int) (hE : E ≠ 0) (hch : ∀ w' g (x : CS), CaAt w' g x → x.cl = 1 → Kept NoB w w' → Calls Tryz.prog 15 #[.pointer (some ⟨g, 0, none⟩), .agg #[.int .i64 k, .int .u32 y, .int .u64 v, .slice da n dc, .int .i64 p], .int .u64 1] w' fun e w'' => e = .returned (.int .i64 E) ∧ Kept NoB w' w'') :
    Calls Tryz.prog 3 #[.agg #[.int .i64 k, .int .u32 y, .int .u64 v, .slice da n dc, .int .i64 p], .agg #[.int .u8 p0, .int .u8 p1], .agg #[.int .u8 q0, .int .u8 q1]] w (BoolE true w) := by
  have HCK := Lib.hid hch
  have hE1 : (E != 0) = true := by simpa using hE
  have hE2 : (E == 0) = false := by simpa using hE
  have HEE := Lib.hid hE
  clear hch hE
  have HB := Lib.hid (fun w => RBegin_any 1 2 w)
  have HOD := Lib.hid hd
  have HM : Hid (n = od.length) := Lib.hid hm
  have HNL : Hid (od.length ≤ 1000000) := Lib.hid (by omega)
  have hd0 : decide (2100 < (n : Int)) = false := decide_eq_false (by omega)
  obtain ⟨W, hW⟩ : ∃ W, W = ((w.alloc (.cells #[.int .i64 k, .int .u32 y, .int .u64 v, .slice da n dc, .int .i64 p] 26)).alloc (.cells #[.int .u8 p0, .int .u8 p1] 27)).alloc (.cells #[.int .u8 q0, .int .u8 q1] 27) := ⟨_, rfl⟩
  have HW := Lib.hid hW
  have HKW : Hid (Kept NoB w W) := Lib.hid (by rw [hW]; exact (((Kept.refl NoB w).alloc _).alloc _).alloc _)
  have HSZ : Hid (W.heap.size = w.heap.size + 3) := Lib.hid (by rw [hW]; simp)
  obtain ⟨h1, h2, h3⟩ := three26a w (.cells #[.int .i64 k, .int .u32 y, .int .u64 v, .slice da n dc, .int .i64 p] 26) (.cells #[.int .u8 p0, .int .u8 p1] 27) (.cells #[.int .u8 q0, .int .u8 q1] 27)
  rw [← hW] at h1 h2 h3
  have HRO : Hid (∀ w', Kept (fun i => W.heap.size ≤ i) W w' → w'.heap[w.heap.size]? = some (.cells #[.int .i64 k, .int .u32 y, .int .u64 v, .slice da n dc, .int .i64 p] 26 (0, 0))) := Lib.hid (fun w' hk => hk.heap (fun h => by have h : W.heap.size ≤ w.heap.size := h; have := HSZ.out; omega) h1)
  have HRP : Hid (∀ w', Kept (fun i => W.heap.size ≤ i) W w' → w'.heap[w.heap.size + 1]? = some (.cells #[.int .u8 p0, .int .u8 p1] 27 (0, 0))) := Lib.hid (fun w' hk => hk.heap (fun h => by have h : W.heap.size ≤ w.heap.size + 1 := h; have := HSZ.out; omega) h2)
  have HRQ : Hid (∀ w', Kept (fun i => W.heap.size ≤ i) W w' → w'.heap[w.heap.size + 1 + 1]? = some (.cells #[.int .u8 q0, .int .u8 q1] 27 (0, 0))) := Lib.hid (fun w' hk => hk.heap (fun h => by have h : W.heap.size ≤ w.heap.size + 1 + 1 := h; have := HSZ.out; omega) h3)
  have HTB := Lib.hid ht
  have HFR : Hid (∀ w', Kept (fun i => W.heap.size ≤ i) W w' → Kept NoB w w') := Lib.hid (fun w' hk => kept_far26 HKW.out hk (fun i h => by have h : W.heap.size ≤ i := h; have := HSZ.out; omega))
  obtain ⟨bo, hbo⟩ : ∃ bo, bo = w.heap.size := ⟨_, rfl⟩
  rw [← hbo] at HRO HRP HRQ
  obtain ⟨bp, hbp⟩ : ∃ bp, bp = bo + 1 := ⟨_, rfl⟩
  rw [← hbp] at HRP HRQ
  obtain ⟨bq, hbq⟩ : ∃ bq, bq = bp + 1 := ⟨_, rfl⟩
  rw [← hbq] at HRQ
  clear hW h1 h2 h3 ht hd hm hn
  go_enter Tryz.func3, Tryz.ntmps3
  go_upto_region 1 with fail
  rw [← hbo, ← hbp, ← hbq, ← HW.out]
  clear hbo hbp hbq
  go_wp2_with fail
  refine (HB.out W).mono ?_
  rintro e w1 ⟨v0, rfl, hc, hk1⟩
  rw [ex26_x]
  have HK1 : Hid (Kept (fun i => W.heap.size ≤ i) W w1) := Lib.hid ((Kept.refl _ W).wide26 hk1 (fun _ h => h.elim))
  have HN := Lib.hid (CNew_good w1 1 1 (by decide) (by decide) (by decide) (by decide) v0 (begC 1 2) _ hc.r25 (by decide) ex26_all)
  obtain ⟨a, cap, rfl, _⟩ := hc
  rw [ex26_len]
  rw [ex26_len] at HN
  clear hk1
  go_wp2_with fail
  refine HN.out.mono ?_
  rintro e w2 ⟨g, ga, r, z, rfl, hca, hat, hg, hk2⟩
  have HK2 := Lib.hid (HK1.out.wide26 hk2 (fun _ h => h.elim))
  have HG2 := Lib.hid hca
  have HAT := Lib.hid hat
  have HGW : Hid (W.heap.size ≤ g) := Lib.hid (Nat.le_trans HK1.out.size hg)
  have HGT : Hid (¬ 0 = g) := Lib.hid (HTB.out.far26 (by have := HGW.out; have := HSZ.out; omega))
  have HT2 := Lib.hid (HTB.out.kept (HFR.out _ HK2.out) (fun h => h))
  have HD2 := Lib.hid (HOD.out.kept (HFR.out _ HK2.out) (fun _ _ h => h))
  have HF2 : Hid (∀ i, i < w.heap.size → i < w2.heap.size) := Lib.hid (fun i h => by have := (HFR.out _ HK2.out).size; omega)
  obtain ⟨c0, c1, c2, c3, c4⟩ := cells5 (HRO.out _ HK2.out)
  clear hca hat hg hk2
  have HBG := Lib.hid (Begin26_fail w2 g (csNew 1 1 ga) HG2.out rfl k y v p E da n dc HEE.out (fun w' hk => HCK.out w' g (csNew 1 1 ga) (HG2.out.no hk) rfl ((HFR.out _ HK2.out).trans hk (fun _ _ h => h))))
  go_wp2_with fail
  refine HBG.out.mono ?_
  rintro e w3 ⟨rfl, hk3⟩
  have HK3 := Lib.hid (HK2.out.wide26 hk3 (fun _ h => h.elim))
  have HBU := Lib.hid (Busy26_none w3 g (csNew 1 1 ga) (HG2.out.no hk3) rfl)
  have HG3 := Lib.hid (HG2.out.no hk3)
  clear hk3 c0 c1 c2 c3 c4
  go_wp2_with fail
  refine HBU.out.mono ?_
  rintro e w4 ⟨rfl, hk4⟩
  have HK4 := Lib.hid (HK3.out.wide26 hk4 (fun _ h => h.elim))
  have HNU := Lib.hid (CNum_any w4 g _ (HG3.out.no hk4))
  have HAW := Lib.hid (awake26 w4 (HTB.out.kept (HFR.out _ HK4.out) (fun h => h)))
  clear hk4
  go_wp2_with fail
  refine HNU.out.mono ?_
  rintro e w5 ⟨rfl, rfl⟩
  have hnu : (csNew 1 1 ga).nu = 0 := rfl
  rw [hnu]
  clear hnu
  go_wp2_with fail
  refine HAW.out.mono ?_
  rintro e w6 ⟨rfl, hk6⟩
  have HK6 := Lib.hid (HK4.out.wide26 hk6 (fun _ h => h.elim))
  clear hk6
  go_wp2
  go_ret
  exact ⟨rfl, HFR.out _ HK6.out⟩
set_option maxRecDepth 100000 in
set_option maxHeartbeats 8000000 in
theorem Once26_w (w : World) (k y v p p0 p1 q0 q1 : Int) (da : Option Addr) (n dc : Nat) (od : List Int) (hm : n = od.length) (hn : ¬ 2100 < n) (hd : BSl w (fun i => i < w.heap.size) (.slice da n dc) od) (y0 : 0 ≤ y) (y1 : y ≤ 4294967295) (hp0 : 0 ≤ p0) (hp1 : p0 ≤ 255) (hp2 : 0 ≤ p1) (hp3 : p1 ≤ 255) (hq0 : 0 ≤ q0) (hq1 : q0 ≤ 255) (hq2 : 0 ≤ q1) (hq3 : q1 ≤ 255) (ht : Tab10 w) (hk : k ≠ 1) (hE : chkU areReq ⟨0, 1, 1, k, y, v, od⟩ = 0) :
    Calls Tryz.prog 3 #[.agg #[.int .i64 k, .int .u32 y, .int .u64 v, .slice da n dc, .int .i64 p], .agg #[.int .u8 p0, .int .u8 p1], .agg #[.int .u8 q0, .int .u8 q1]] w (BoolE true w) := by
  have HEE := Lib.hid hE
  have HKN := Lib.hid hk
  have HB := Lib.hid (fun w => RBegin_any 1 2 w)
  have HOD := Lib.hid hd
  have HM : Hid (n = od.length) := Lib.hid hm
  have HNL : Hid (od.length ≤ 1000000) := Lib.hid (by omega)
  have hd0 : decide (2100 < (n : Int)) = false := decide_eq_false (by omega)
  have hkb : (k == 1) = false := beq_eq_false_iff_ne.2 hk
  obtain ⟨W, hW⟩ : ∃ W, W = ((w.alloc (.cells #[.int .i64 k, .int .u32 y, .int .u64 v, .slice da n dc, .int .i64 p] 26)).alloc (.cells #[.int .u8 p0, .int .u8 p1] 27)).alloc (.cells #[.int .u8 q0, .int .u8 q1] 27) := ⟨_, rfl⟩
  have HW := Lib.hid hW
  have HKW : Hid (Kept NoB w W) := Lib.hid (by rw [hW]; exact (((Kept.refl NoB w).alloc _).alloc _).alloc _)
  have HSZ : Hid (W.heap.size = w.heap.size + 3) := Lib.hid (by rw [hW]; simp)
  obtain ⟨h1, h2, h3⟩ := three26a w (.cells #[.int .i64 k, .int .u32 y, .int .u64 v, .slice da n dc, .int .i64 p] 26) (.cells #[.int .u8 p0, .int .u8 p1] 27) (.cells #[.int .u8 q0, .int .u8 q1] 27)
  rw [← hW] at h1 h2 h3
  have HRO : Hid (∀ w', Kept (fun i => W.heap.size ≤ i) W w' → w'.heap[w.heap.size]? = some (.cells #[.int .i64 k, .int .u32 y, .int .u64 v, .slice da n dc, .int .i64 p] 26 (0, 0))) := Lib.hid (fun w' hk => hk.heap (fun h => by have h : W.heap.size ≤ w.heap.size := h; have := HSZ.out; omega) h1)
  have HRP : Hid (∀ w', Kept (fun i => W.heap.size ≤ i) W w' → w'.heap[w.heap.size + 1]? = some (.cells #[.int .u8 p0, .int .u8 p1] 27 (0, 0))) := Lib.hid (fun w' hk => hk.heap (fun h => by have h : W.heap.size ≤ w.heap.size + 1 := h; have := HSZ.out; omega) h2)
  have HRQ : Hid (∀ w', Kept (fun i => W.heap.size ≤ i) W w' → w'.heap[w.heap.size + 1 + 1]? = some (.cells #[.int .u8 q0, .int .u8 q1] 27 (0, 0))) := Lib.hid (fun w' hk => hk.heap (fun h => by have h : W.heap.size ≤ w.heap.size + 1 + 1 := h; have := HSZ.out; omega) h3)
  have HTB := Lib.hid ht
  have HFR : Hid (∀ w', Kept (fun i => W.heap.size ≤ i) W w' → Kept NoB w w') := Lib.hid (fun w' hk => kept_far26 HKW.out hk (fun i h => by have h : W.heap.size ≤ i := h; have := HSZ.out; omega))
  obtain ⟨bo, hbo⟩ : ∃ bo, bo = w.heap.size := ⟨_, rfl⟩
  rw [← hbo] at HRO HRP HRQ
  obtain ⟨bp, hbp⟩ : ∃ bp, bp = bo + 1 := ⟨_, rfl⟩
  rw [← hbp] at HRP HRQ
  obtain ⟨bq, hbq⟩ : ∃ bq, bq = bp + 1 := ⟨_, rfl⟩
  rw [← hbq] at HRQ
  clear hW h1 h2 h3 ht hd hm hn
  go_enter Tryz.func3, Tryz.ntmps3
  go_upto_region 1 with fail
  rw [← hbo, ← hbp, ← hbq, ← HW.out]
  clear hbo hbp hbq
  go_wp2_with fail
  refine (HB.out W).mono ?_
  rintro e w1 ⟨v0, rfl, hc, hk1⟩
  rw [ex26_x]
  have HK1 : Hid (Kept (fun i => W.heap.size ≤ i) W w1) := Lib.hid ((Kept.refl _ W).wide26 hk1 (fun _ h => h.elim))
  have HN := Lib.hid (CNew_good w1 1 1 (by decide) (by decide) (by decide) (by decide) v0 (begC 1 2) _ hc.r25 (by decide) ex26_all)
  obtain ⟨a, cap, rfl, _⟩ := hc
  rw [ex26_len]
  rw [ex26_len] at HN
  clear hk1
  go_wp2_with fail
  refine HN.out.mono ?_
  rintro e w2 ⟨g, ga, r, z, rfl, hca, hat, hg, hk2⟩
  have HK2 := Lib.hid (HK1.out.wide26 hk2 (fun _ h => h.elim))
  have HG2 := Lib.hid hca
  have HAT := Lib.hid hat
  have HGW : Hid (W.heap.size ≤ g) := Lib.hid (Nat.le_trans HK1.out.size hg)
  have HGT : Hid (¬ 0 = g) := Lib.hid (HTB.out.far26 (by have := HGW.out; have := HSZ.out; omega))
  have HT2 := Lib.hid (HTB.out.kept (HFR.out _ HK2.out) (fun h => h))
  have HD2 := Lib.hid (HOD.out.kept (HFR.out _ HK2.out) (fun _ _ h => h))
  have HF2 : Hid (∀ i, i < w.heap.size → i < w2.heap.size) := Lib.hid (fun i h => by have := (HFR.out _ HK2.out).size; omega)
  obtain ⟨c0, c1, c2, c3, c4⟩ := cells5 (HRO.out _ HK2.out)
  clear hca hat hg hk2
  have HMM := Lib.hid HM.out
  have HBG := Lib.hid (Begin26_write w2 g _ r z (csNew 1 1 ga) (begC 1 2) HG2.out HAT.out (by decide) (by decide) rfl (by show (1 : Int) ≤ 1; decide) (by show (1 : Int) ≤ 6; decide) k y v p HKN.out y0 y1 da dc od (fun i => i < w.heap.size) (by rw [← HM.out]; exact HD2.out) HF2.out HNL.out HT2.out HEE.out HGT.out)
  rw [← HM.out] at HBG
  go_wp2_with fail
  refine HBG.out.mono ?_
  rintro e w3 ⟨b, qf, qa, qc, lq, rfl, hb3, qf1, qf2, hg3, hl3, ho3, hlq3, hk3⟩
  have HG3 := Lib.hid hg3
  have HL3 := Lib.hid hl3
  have HK3 := Lib.hid (HK2.out.wide26 hk3 (fun i h => by have h : i = g := h; have := HGW.out; omega))
  have HLQ : Hid (W.heap.size ≤ lq) := Lib.hid (by have := HK2.out.size; omega)
  have hlg : lq ≠ g := fun e => by
    have h1 := hl3
    unfold RLat at h1
    rw [e, hg3] at h1
    injection h1 with h1
    injection h1 with h1 h2
    exact absurd h2 (by decide)
  have HLG : Hid (lq ≠ g) := Lib.hid hlg
  clear hb3 qf1 qf2 hg3 hl3 ho3 hlq3 hk3 hlg c0 c1 c2 c3 c4
  have HT3 := Lib.hid (HTB.out.kept (HFR.out _ HK3.out) (fun h => h))
  obtain ⟨c0, c1, c2, c3, c4⟩ := cells5 (HRO.out _ HK3.out)
  go_wp2_with fail
  clear c0 c1 c2 c3 c4
  refine wp_loop_rounds 3 ?_
  rw [rounds_succ]
  have r0 := cell_of_row _ _ 0 _ _ _ (HRQ.out _ HK3.out)
  obtain ⟨x, hx⟩ : ∃ x, x = csBeg (csNew 1 1 ga) 1 k y v (.slice qa n qc) p lq := ⟨_, rfl⟩
  rw [← hx] at HG3
  have HXX : Hid (x.cl = 1 ∧ x.nu = 1 ∧ x.k = k ∧ x.lp = .pointer (some ⟨lq, 0, none⟩) ∧ x.d = .slice qa n qc ∧ x.tk = 0) := Lib.hid (by rw [hx]; exact ⟨rfl, rfl, rfl, rfl, rfl, rfl⟩)
  clear hx
  go_upto_region 14 with fail
  have hz := heap_alloc_new w3 (.cells #[.int .i64 0, .int .i64 0, .int .i64 0, .int .i64 0, .int .u64 0, .int .u64 0, .int .u64 0, .int .u64 0, .int .u64 0, .int .u64 0, .int .i64 0, .int .u32 0, .int .i64 0, .int .i64 0, .int .i64 0, .int .u64 0, .int .i64 0, .int .i64 0, .int .u64 0, .slice none 0 0, .bool false, .int .i64 0, .slice none 0 0, .slice none 0 0, .slice none 0 0] 48)
  obtain ⟨b4, hb4⟩ : ∃ b4, b4 = w3.heap.size := ⟨_, rfl⟩
  rw [← hb4] at hz
  have HB4Z : Hid (W.heap.size ≤ b4) := Lib.hid (by rw [hb4]; exact HK3.out.size)
  have HBS : Hid (b4 = w3.heap.size) := Lib.hid hb4
  obtain ⟨V, hV⟩ : ∃ V, V = (w3.alloc (.cells #[.int .i64 0, .int .i64 0, .int .i64 0, .int .i64 0, .int .u64 0, .int .u64 0, .int .u64 0, .int .u64 0, .int .u64 0, .int .u64 0, .int .i64 0, .int .u32 0, .int .i64 0, .int .i64 0, .int .i64 0, .int .u64 0, .int .i64 0, .int .i64 0, .int .u64 0, .slice none 0 0, .bool false, .int .i64 0, .slice none 0 0, .slice none 0 0, .slice none 0 0] 48)).setRow b4 #[.int .i64 18, .int .i64 1, .int .i64 201, .int .i64 0, .int .u64 0, .int .u64 0, .int .u64 1, .int .u64 0, .int .u64 0, .int .u64 q0, .int .i64 0, .int .u32 0, .int .i64 0, .int .i64 0, .int .i64 0, .int .u64 0, .int .i64 0, .int .i64 0, .int .u64 0, .slice none 0 0, .bool false, .int .i64 0, .slice none 0 0, .slice none 0 0, .slice none 0 0] := ⟨_, rfl⟩
  have HV := Lib.hid hV
  have HVR : Hid (V.heap[b4]? = some (.cells #[.int .i64 18, .int .i64 1, .int .i64 201, .int .i64 0, .int .u64 0, .int .u64 0, .int .u64 1, .int .u64 0, .int .u64 0, .int .u64 q0, .int .i64 0, .int .u32 0, .int .i64 0, .int .i64 0, .int .i64 0, .int .u64 0, .int .i64 0, .int .i64 0, .int .u64 0, .slice none 0 0, .bool false, .int .i64 0, .slice none 0 0, .slice none 0 0, .slice none 0 0] 48 (0, 0))) := Lib.hid (by rw [hV]; exact setRow26_at hz)
  have HKA : Hid (Kept NoB w3 V) := Lib.hid (by rw [hV]; exact ((Kept.refl NoB w3).alloc _).setRow26 (.inr (by rw [hb4]; exact Nat.le_refl _)) _)
  have HZ := Lib.hid hz
  have e12 : V.cell? ⟨b4, 12, none⟩ = some (.int .i64 0) := cell_of_row _ _ 12 _ _ _ HVR.out
  have f12 : V.frozen? ⟨b4, 12, none⟩ = false := frz25 HVR.out 12
  have HKB := Lib.hid (HK3.out.wide26 HKA.out (fun _ h => h.elim))
  have p0' : V.cell? ⟨bp, 0, none⟩ = some (.int .u8 p0) := cell_of_row _ _ 0 _ _ _ (HRP.out _ HKB.out)
  obtain ⟨V5, hV5⟩ : ∃ V5, V5 = V.setCell ⟨b4, 12, none⟩ (.int .i64 p0) := ⟨_, rfl⟩
  have HV5 := Lib.hid hV5
  have HX : Hid (V5.heap[b4]? = some (.cells #[.int .i64 18, .int .i64 1, .int .i64 201, .int .i64 0, .int .u64 0, .int .u64 0, .int .u64 1, .int .u64 0, .int .u64 0, .int .u64 q0, .int .i64 0, .int .u32 0, .int .i64 p0, .int .i64 0, .int .i64 0, .int .u64 0, .int .i64 0, .int .i64 0, .int .u64 0, .slice none 0 0, .bool false, .int .i64 0, .slice none 0 0, .slice none 0 0, .slice none 0 0] 48 (0, 0))) := Lib.hid (by rw [hV5]; exact bset25 HVR.out 12 (.int .i64 p0))
  have HK35 : Hid (Kept NoB w3 V5) := Lib.hid (by rw [hV5]; exact HKA.out.setCell (p := ⟨b4, 12, none⟩) (.inr (by show w3.heap.size ≤ b4; rw [hb4]; exact Nat.le_refl _)) _)
  have HKV := Lib.hid (HK3.out.wide26 HK35.out (fun _ h => h.elim))
  clear hz hV hV5 hb4
  go_step
  repeat (first | (refine wpList_store_row rfl 48 _ _ rfl b4 #[.int .i64 18, .int .i64 1, .int .i64 201, .int .i64 0, .int .u64 0, .int .u64 0, .int .u64 1, .int .u64 0, .int .u64 0, .int .u64 q0, .int .i64 0, .int .u32 0, .int .i64 0, .int .i64 0, .int .i64 0, .int .u64 0, .int .i64 0, .int .i64 0, .int .u64 0, .slice none 0 0, .bool false, .int .i64 0, .slice none 0 0, .slice none 0 0, .slice none 0 0] rfl rfl 48 #[.int .i64 0, .int .i64 0, .int .i64 0, .int .i64 0, .int .u64 0, .int .u64 0, .int .u64 0, .int .u64 0, .int .u64 0, .int .u64 0, .int .i64 0, .int .u32 0, .int .i64 0, .int .i64 0, .int .i64 0, .int .u64 0, .int .i64 0, .int .i64 0, .int .u64 0, .slice none 0 0, .bool false, .int .i64 0, .slice none 0 0, .slice none 0 0, .slice none 0 0] HZ.out (by kernel_rfl) rfl (by rw [← Array.all_toList]; rfl) ?_; rw [← HV.out]) | (rw [← HV5.out]) | (refine wpList_load_row rfl 48 _ rfl b4 rfl 48 #[.int .i64 18, .int .i64 1, .int .i64 201, .int .i64 0, .int .u64 0, .int .u64 0, .int .u64 1, .int .u64 0, .int .u64 0, .int .u64 q0, .int .i64 0, .int .u32 0, .int .i64 p0, .int .i64 0, .int .i64 0, .int .u64 0, .int .i64 0, .int .i64 0, .int .u64 0, .slice none 0 0, .bool false, .int .i64 0, .slice none 0 0, .slice none 0 0, .slice none 0 0] (0, 0) _ HX.out Tryz.underlying48 rfl (by kernel_rfl) ?_) | (rw [← HBS.out]) | go_skip | go_guarded | go_step)
  have HTK := Lib.hid (TakeW_first V5 g lq x (HG3.out.no HK35.out) HXX.out.1 HXX.out.2.1 (by rw [HXX.out.2.2.1]; exact HKN.out) HXX.out.2.2.2.1 HLG.out (HL3.out.no HK35.out) qa n qc HXX.out.2.2.2.2.1 1 q0 p0 hp0 hp1 (by decide) (by decide) (HTB.out.kept (HFR.out _ HKV.out) (fun h => h)))
  refine HTK.out.mono ?_
  rintro e w4 ⟨a', c', rfl, hg4, hl4, hb4, hk4⟩
  have HG4 := Lib.hid hg4
  have HL4 := Lib.hid hl4
  have HB4 := Lib.hid hb4
  have HK4 := Lib.hid (HKV.out.wide26 hk4 (fun i h => by have := HGW.out; have := HLQ.out; rcases h with h | h <;> omega))
  clear hg4 hl4 hb4 hk4 r0
  go_wp2_with fail
  rw [rounds_succ]
  have r0 := cell_of_row _ _ 1 _ _ _ (HRQ.out _ HK4.out)
  go_upto_region 14 with fail
  have hz := heap_alloc_new w4 (.cells #[.int .i64 0, .int .i64 0, .int .i64 0, .int .i64 0, .int .u64 0, .int .u64 0, .int .u64 0, .int .u64 0, .int .u64 0, .int .u64 0, .int .i64 0, .int .u32 0, .int .i64 0, .int .i64 0, .int .i64 0, .int .u64 0, .int .i64 0, .int .i64 0, .int .u64 0, .slice none 0 0, .bool false, .int .i64 0, .slice none 0 0, .slice none 0 0, .slice none 0 0] 48)
  obtain ⟨b4, hb4⟩ : ∃ b4, b4 = w4.heap.size := ⟨_, rfl⟩
  rw [← hb4] at hz
  have HB4Z : Hid (W.heap.size ≤ b4) := Lib.hid (by rw [hb4]; exact HK4.out.size)
  have HBS : Hid (b4 = w4.heap.size) := Lib.hid hb4
  obtain ⟨V, hV⟩ : ∃ V, V = (w4.alloc (.cells #[.int .i64 0, .int .i64 0, .int .i64 0, .int .i64 0, .int .u64 0, .int .u64 0, .int .u64 0, .int .u64 0, .int .u64 0, .int .u64 0, .int .i64 0, .int .u32 0, .int .i64 0, .int .i64 0, .int .i64 0, .int .u64 0, .int .i64 0, .int .i64 0, .int .u64 0, .slice none 0 0, .bool false, .int .i64 0, .slice none 0 0, .slice none 0 0, .slice none 0 0] 48)).setRow b4 #[.int .i64 18, .int .i64 2, .int .i64 201, .int .i64 0, .int .u64 0, .int .u64 0, .int .u64 1, .int .u64 0, .int .u64 0, .int .u64 q1, .int .i64 0, .int .u32 0, .int .i64 0, .int .i64 0, .int .i64 0, .int .u64 0, .int .i64 0, .int .i64 0, .int .u64 0, .slice none 0 0, .bool false, .int .i64 0, .slice none 0 0, .slice none 0 0, .slice none 0 0] := ⟨_, rfl⟩
  have HV := Lib.hid hV
  have HVR : Hid (V.heap[b4]? = some (.cells #[.int .i64 18, .int .i64 2, .int .i64 201, .int .i64 0, .int .u64 0, .int .u64 0, .int .u64 1, .int .u64 0, .int .u64 0, .int .u64 q1, .int .i64 0, .int .u32 0, .int .i64 0, .int .i64 0, .int .i64 0, .int .u64 0, .int .i64 0, .int .i64 0, .int .u64 0, .slice none 0 0, .bool false, .int .i64 0, .slice none 0 0, .slice none 0 0, .slice none 0 0] 48 (0, 0))) := Lib.hid (by rw [hV]; exact setRow26_at hz)
  have HKA : Hid (Kept NoB w4 V) := Lib.hid (by rw [hV]; exact ((Kept.refl NoB w4).alloc _).setRow26 (.inr (by rw [hb4]; exact Nat.le_refl _)) _)
  have HZ := Lib.hid hz
  have e12 : V.cell? ⟨b4, 12, none⟩ = some (.int .i64 0) := cell_of_row _ _ 12 _ _ _ HVR.out
  have f12 : V.frozen? ⟨b4, 12, none⟩ = false := frz25 HVR.out 12
  have HKB := Lib.hid (HK4.out.wide26 HKA.out (fun _ h => h.elim))
  have p0' : V.cell? ⟨bp, 1, none⟩ = some (.int .u8 p1) := cell_of_row _ _ 1 _ _ _ (HRP.out _ HKB.out)
  obtain ⟨V5, hV5⟩ : ∃ V5, V5 = V.setCell ⟨b4, 12, none⟩ (.int .i64 p1) := ⟨_, rfl⟩
  have HV5 := Lib.hid hV5
  have HX : Hid (V5.heap[b4]? = some (.cells #[.int .i64 18, .int .i64 2, .int .i64 201, .int .i64 0, .int .u64 0, .int .u64 0, .int .u64 1, .int .u64 0, .int .u64 0, .int .u64 q1, .int .i64 0, .int .u32 0, .int .i64 p1, .int .i64 0, .int .i64 0, .int .u64 0, .int .i64 0, .int .i64 0, .int .u64 0, .slice none 0 0, .bool false, .int .i64 0, .slice none 0 0, .slice none 0 0, .slice none 0 0] 48 (0, 0))) := Lib.hid (by rw [hV5]; exact bset25 HVR.out 12 (.int .i64 p1))
  have HK35 : Hid (Kept NoB w4 V5) := Lib.hid (by rw [hV5]; exact HKA.out.setCell (p := ⟨b4, 12, none⟩) (.inr (by show w4.heap.size ≤ b4; rw [hb4]; exact Nat.le_refl _)) _)
  have HKV := Lib.hid (HK4.out.wide26 HK35.out (fun _ h => h.elim))
  clear hz hV hV5 hb4
  go_step
  repeat (first | (refine wpList_store_row rfl 48 _ _ rfl b4 #[.int .i64 18, .int .i64 2, .int .i64 201, .int .i64 0, .int .u64 0, .int .u64 0, .int .u64 1, .int .u64 0, .int .u64 0, .int .u64 q1, .int .i64 0, .int .u32 0, .int .i64 0, .int .i64 0, .int .i64 0, .int .u64 0, .int .i64 0, .int .i64 0, .int .u64 0, .slice none 0 0, .bool false, .int .i64 0, .slice none 0 0, .slice none 0 0, .slice none 0 0] rfl rfl 48 #[.int .i64 0, .int .i64 0, .int .i64 0, .int .i64 0, .int .u64 0, .int .u64 0, .int .u64 0, .int .u64 0, .int .u64 0, .int .u64 0, .int .i64 0, .int .u32 0, .int .i64 0, .int .i64 0, .int .i64 0, .int .u64 0, .int .i64 0, .int .i64 0, .int .u64 0, .slice none 0 0, .bool false, .int .i64 0, .slice none 0 0, .slice none 0 0, .slice none 0 0] HZ.out (by kernel_rfl) rfl (by rw [← Array.all_toList]; rfl) ?_; rw [← HV.out]) | (rw [← HV5.out]) | (refine wpList_load_row rfl 48 _ rfl b4 rfl 48 #[.int .i64 18, .int .i64 2, .int .i64 201, .int .i64 0, .int .u64 0, .int .u64 0, .int .u64 1, .int .u64 0, .int .u64 0, .int .u64 q1, .int .i64 0, .int .u32 0, .int .i64 p1, .int .i64 0, .int .i64 0, .int .u64 0, .int .i64 0, .int .i64 0, .int .u64 0, .slice none 0 0, .bool false, .int .i64 0, .slice none 0 0, .slice none 0 0, .slice none 0 0] (0, 0) _ HX.out Tryz.underlying48 rfl (by kernel_rfl) ?_) | (rw [← HBS.out]) | go_skip | go_guarded | go_step)
  have HXA : Hid ((csAns x).cl = 1 ∧ (csAns x).nu = 1 ∧ (csAns x).k = k ∧ (csAns x).lp = .pointer (some ⟨lq, 0, none⟩) ∧ (csAns x).tk = 0) := Lib.hid ⟨HXX.out.1, HXX.out.2.1, HXX.out.2.2.1, HXX.out.2.2.2.1, HXX.out.2.2.2.2.2⟩
  have HTK := Lib.hid (TakeW_again V5 g lq (csAns x) (HG4.out.no HK35.out) HXA.out.1 HXA.out.2.1 (by rw [HXA.out.2.2.1]; exact HKN.out) HXA.out.2.2.2.1 p0 q0 _ (HL4.out.no HK35.out) 2 q1 p1 hp2 hp3 (by decide) (by decide) (HTB.out.kept (HFR.out _ HKV.out) (fun h => h)))
  refine HTK.out.mono ?_
  rintro e w5 ⟨rfl, hk5⟩
  have HG5 := Lib.hid ((HG4.out.no HK35.out).no hk5)
  have HL5 := Lib.hid ((HL4.out.no HK35.out).no hk5)
  have HB5 := Lib.hid ((HB4.out.kept HK35.out (fun _ _ h => h)).kept hk5 (fun _ _ h => h))
  have HK5 := Lib.hid (HKV.out.wide26 hk5 (fun _ h => h.elim))
  clear hk5 r0
  go_wp2_with fail
  rw [rounds_succ]
  have HRE := Lib.hid (Reply26_set w5 g lq (csAns x) HG5.out HXA.out.2.2.2.1 p0 q0 a' c' [] _ HL5.out HB5.out (by decide))
  go_wp2_with fail
  refine HRE.out.mono ?_
  rintro e w6 ⟨a6, c6, rfl, ho6, hk6⟩
  have HG6 := Lib.hid (HG5.out.no hk6)
  have HL6 := Lib.hid (HL5.out.no hk6)
  have HK6 := Lib.hid (HK5.out.wide26 hk6 (fun _ h => h.elim))
  have HR6 := Lib.hid (heap_alloc_new w6 (.cells #[.int .i64 p0, .int .u64 q0, .slice a6 0 c6] 51))
  obtain ⟨W6, hW6⟩ : ∃ W6, W6 = w6.alloc (.cells #[.int .i64 p0, .int .u64 q0, .slice a6 0 c6] 51) := ⟨_, rfl⟩
  have HW6 := Lib.hid hW6
  obtain ⟨b6, hb6⟩ : ∃ b6, b6 = w6.heap.size := ⟨_, rfl⟩
  have HBS6 := Lib.hid hb6
  have HKA6 : Hid (Kept NoB w6 W6) := Lib.hid (by rw [hW6]; exact (Kept.refl NoB w6).alloc _)
  have hR6 := HR6.out
  rw [← hW6, ← hb6] at hR6
  have HRR := Lib.hid hR6
  have HGB : Hid (¬ b6 = g) := Lib.hid (by have := heap_lt HG6.out; omega)
  have HGA := Lib.hid (HG6.out.no HKA6.out)
  have HLA := Lib.hid (HL6.out.no HKA6.out)
  have HKB6 := Lib.hid (HK6.out.wide26 HKA6.out (fun _ h => h.elim))
  have HBU := Lib.hid (Busy26_no W6 g lq (csAns x) HGA.out (by rw [HXA.out.2.1]; decide) HXA.out.2.2.2.1 p0 q0 a' _ c' HLA.out)
  have hlen0 : ([] : List Int).length = 0 := rfl
  rw [hlen0]
  clear hk6 ho6 hW6 hb6 hR6 hlen0
  go_upto_region 21 with fail
  rw [← HBS6.out, ← HW6.out]
  go_wp2_with fail
  refine HBU.out.mono ?_
  rintro e w7 ⟨rfl, hk7⟩
  have HK7 := Lib.hid (HKB6.out.wide26 hk7 (fun _ h => h.elim))
  have HR7 := Lib.hid (hk7.heap (fun h => h) HRR.out)
  have HG7 := Lib.hid (HGA.out.no hk7)
  have HL7 := Lib.hid (HLA.out.no hk7)
  have HTI := Lib.hid (Tick26_no w7 g lq (csAns x) HG7.out (by rw [HXA.out.2.1]; decide) HXA.out.2.2.2.1 HLG.out p0 q0 a' _ c' HL7.out HXA.out.2.2.2.2)
  obtain ⟨s0, s1, s2⟩ := cells3c HR7.out
  have r0 := cell_of_row _ _ 0 _ _ _ (HRQ.out _ HK7.out)
  clear hk7
  go_wp2_with fail
  refine HTI.out.mono ?_
  rintro e w8 ⟨rfl, hk8⟩
  have HK8 := Lib.hid (HK7.out.wide26 hk8 (fun i h => by have h : i = g := h; have := HGW.out; omega))
  have HR8 := Lib.hid (hk8.heap (fun h => HGB.out h) HR7.out)
  clear hk8 s0 s1 s2 r0
  obtain ⟨s0, s1, s2⟩ := cells3c HR8.out
  have r1 := cell_of_row _ _ 0 _ _ _ (HRP.out _ HK8.out)
  have HAW := Lib.hid (awake26 w8 (HTB.out.kept (HFR.out _ HK8.out) (fun h => h)))
  go_wp2_with fail
  refine HAW.out.mono ?_
  rintro e w9 ⟨rfl, hk9⟩
  have HK9 := Lib.hid (HK8.out.wide26 hk9 (fun _ h => h.elim))
  clear hk9
  go_wp2
  go_ret
  exact ⟨rfl, HFR.out _ HK9.out⟩
end Go.Proofs.YtclfecninhipnaaGreatDoor
