/-
  Layer 30: which volumes may be, and their keys: Right, Inode, Block, of the package and the chapter's.
-/
import Derived.Test.YtiifkcjngajegaaRef
namespace Go.Proofs.Ytiifkcjngajegaa
open Go.RowKit
set_option linter.unusedVariables false

/-- Such a volume may be. -/
def rgt30 (n b : Int) : Prop := 1 ≤ n ∧ n ≤ 64 ∧ 1 ≤ b ∧ b ≤ 96
instance (n b : Int) : Decidable (rgt30 n b) := by unfold rgt30; infer_instance
def ino30 (n b i : Int) : Int := if rgt30 n b ∧ 1 ≤ i ∧ i ≤ n then i + 1 else 0
def blk30 (n b i : Int) : Int := if rgt30 n b ∧ 0 ≤ i ∧ i < b then i + n + 2 else 0
theorem ret_b30 {a b : Bool} (h : a = b) : Ending.returned (.bool a) = .returned (.bool b) := by rw [h]
theorem ret_u30 {a b : Int} (h : a = b) : Ending.returned (.int .u32 a) = .returned (.int .u32 b) := by rw [h]
theorem cell2_30 {w : World} {b : Nat} {x y : Value} {t : TypeId} (h : w.heap[b]? = some (.cells #[x, y] t (0, 0))) : w.cell? ⟨b, 0, none⟩ = some x ∧ w.cell? ⟨b, 1, none⟩ = some y :=
  ⟨cell_of_row _ _ 0 _ _ _ h, cell_of_row _ _ 1 _ _ _ h⟩
set_option maxRecDepth 100000 in
theorem vRight_any (n b : Int) (w : World) : Calls Try.prog 17 #[.agg #[.int .i64 n, .int .i64 b]] w fun e w' => e = .returned (.bool (decide (rgt30 n b))) ∧ Kept NoB w w' := by
  have hk := (Kept.refl NoB w).alloc (.cells #[.int .i64 n, .int .i64 b] 44)
  obtain ⟨r, hr⟩ : ∃ r, r = decide (rgt30 n b) := ⟨_, rfl⟩
  rw [← hr]
  unfold rgt30 at hr
  have HR := Lib.hid hr
  clear hr
  by_cases h1 : 1 ≤ n
  · by_cases h2 : n ≤ 64
    · by_cases h3 : 1 ≤ b
      · by_cases h4 : b ≤ 96
        · go_enter Try.func17, Try.ntmps17
          go_wp2
          go_ret
          exact ⟨ret_b30 (by rw [HR.out]; symm; first | exact decide_eq_true (by omega) | exact decide_eq_false (by omega)), hk⟩
        · go_enter Try.func17, Try.ntmps17
          go_wp2
          go_ret
          exact ⟨ret_b30 (by rw [HR.out]; symm; first | exact decide_eq_true (by omega) | exact decide_eq_false (by omega)), hk⟩
      · go_enter Try.func17, Try.ntmps17
        go_wp2
        go_ret
        exact ⟨ret_b30 (by rw [HR.out]; symm; first | exact decide_eq_true (by omega) | exact decide_eq_false (by omega)), hk⟩
    · go_enter Try.func17, Try.ntmps17
      go_wp2
      go_ret
      exact ⟨ret_b30 (by rw [HR.out]; symm; first | exact decide_eq_true (by omega) | exact decide_eq_false (by omega)), hk⟩
  · go_enter Try.func17, Try.ntmps17
    go_wp2
    go_ret
    exact ⟨ret_b30 (by rw [HR.out]; symm; first | exact decide_eq_true (by omega) | exact decide_eq_false (by omega)), hk⟩
set_option maxRecDepth 100000 in
theorem rRight30_any (n b : Int) (w : World) : Calls Try.prog 18 #[.agg #[.int .i64 n, .int .i64 b]] w fun e w' => e = .returned (.bool (decide (rgt30 n b))) ∧ Kept NoB w w' := by
  have hk := (Kept.refl NoB w).alloc (.cells #[.int .i64 n, .int .i64 b] 42)
  obtain ⟨r, hr⟩ : ∃ r, r = decide (rgt30 n b) := ⟨_, rfl⟩
  rw [← hr]
  unfold rgt30 at hr
  have HR := Lib.hid hr
  clear hr
  by_cases h1 : 1 ≤ n
  · by_cases h2 : n ≤ 64
    · by_cases h3 : 1 ≤ b
      · by_cases h4 : b ≤ 96
        · go_enter Try.func18, Try.ntmps18
          go_wp2
          go_ret
          exact ⟨ret_b30 (by rw [HR.out]; symm; first | exact decide_eq_true (by omega) | exact decide_eq_false (by omega)), hk⟩
        · go_enter Try.func18, Try.ntmps18
          go_wp2
          go_ret
          exact ⟨ret_b30 (by rw [HR.out]; symm; first | exact decide_eq_true (by omega) | exact decide_eq_false (by omega)), hk⟩
      · go_enter Try.func18, Try.ntmps18
        go_wp2
        go_ret
        exact ⟨ret_b30 (by rw [HR.out]; symm; first | exact decide_eq_true (by omega) | exact decide_eq_false (by omega)), hk⟩
    · go_enter Try.func18, Try.ntmps18
      go_wp2
      go_ret
      exact ⟨ret_b30 (by rw [HR.out]; symm; first | exact decide_eq_true (by omega) | exact decide_eq_false (by omega)), hk⟩
  · go_enter Try.func18, Try.ntmps18
    go_wp2
    go_ret
    exact ⟨ret_b30 (by rw [HR.out]; symm; first | exact decide_eq_true (by omega) | exact decide_eq_false (by omega)), hk⟩
set_option maxRecDepth 100000 in
theorem vInode_any (n b i : Int) (w : World) (hi0 : -9223372036854775808 ≤ i) (hi1 : i ≤ 9223372036854775807) : Calls Try.prog 19 #[.agg #[.int .i64 n, .int .i64 b], .int .i64 i] w fun e w' => e = .returned (.int .u32 (ino30 n b i)) ∧ Kept NoB w w' := by
  have hk := (Kept.refl NoB w).alloc (.cells #[.int .i64 n, .int .i64 b] 44)
  have hb := heap_alloc_new w (.cells #[.int .i64 n, .int .i64 b] 44)
  obtain ⟨r, hr⟩ : ∃ r, r = ino30 n b i := ⟨_, rfl⟩
  rw [← hr]
  unfold ino30 at hr
  have HV := Lib.hid hr
  have HR := Lib.hid (fun w => vRight_any n b w)
  clear hr
  by_cases h0 : rgt30 n b
  · rw [decide_eq_true h0] at HR
    obtain ⟨g1, g2, g3, g4⟩ := id h0
    by_cases h1 : 1 ≤ i
    · by_cases h2 : i ≤ n
      · have hw1 : IntKind.i64.wrap (2 + i) = 2 + i := IntWalk.i64_in _ (by omega)
        have hw2 : IntKind.i64.wrap (2 + i - 1) = 2 + i - 1 := IntWalk.i64_in _ (by omega)
        have hw3 : IntKind.u32.wrap (2 + i - 1) = 2 + i - 1 := IntWalk.u32_in _ (by omega)
        have hw4 : IntKind.u32.wrap i = i := IntWalk.u32_in _ (by omega)
        have hw5 : IntKind.u32.wrap (i + 1) = i + 1 := IntWalk.u32_in _ (by omega)
        have hw6 : IntKind.i64.wrap (2 + n) = 2 + n := IntWalk.i64_in _ (by omega)
        have hw7 : IntKind.i64.wrap (2 + n + i) = 2 + n + i := IntWalk.i64_in _ (by omega)
        have hw8 : IntKind.u32.wrap (2 + n + i) = 2 + n + i := IntWalk.u32_in _ (by omega)
        have hw9 : IntKind.i64.wrap (i + n) = i + n := IntWalk.i64_in _ (by omega)
        have hw10 : IntKind.u32.wrap (i + n) = i + n := IntWalk.u32_in _ (by omega)
        have hw11 : IntKind.u32.wrap (i + n + 2) = i + n + 2 := IntWalk.u32_in _ (by omega)
        go_enter Try.func19, Try.ntmps19
        go_wp2_with (go_at_call 17; refine (HR.out _).mono ?_; rintro e w2 ⟨rfl, hk2⟩; have hk3 := hk.trans hk2 (fun _ _ h => h); have hb2 := hk2.heap (fun h => h) hb; obtain ⟨c0, c1⟩ := cell2_30 hb2)
        go_ret
        exact ⟨ret_u30 (by have hv := HV.out; rw [if_pos ⟨h0, h1, h2⟩] at hv; omega), hk3⟩
      · go_enter Try.func19, Try.ntmps19
        go_wp2_with (go_at_call 17; refine (HR.out _).mono ?_; rintro e w2 ⟨rfl, hk2⟩; have hk3 := hk.trans hk2 (fun _ _ h => h); have hb2 := hk2.heap (fun h => h) hb; obtain ⟨c0, c1⟩ := cell2_30 hb2)
        go_ret
        exact ⟨ret_u30 (by rw [HV.out, if_neg (fun h => by have := h.2.2; omega)]), hk3⟩
    · go_enter Try.func19, Try.ntmps19
      go_wp2_with (go_at_call 17; refine (HR.out _).mono ?_; rintro e w2 ⟨rfl, hk2⟩; have hk3 := hk.trans hk2 (fun _ _ h => h); have hb2 := hk2.heap (fun h => h) hb; obtain ⟨c0, c1⟩ := cell2_30 hb2)
      go_ret
      exact ⟨ret_u30 (by rw [HV.out, if_neg (fun h => by have := h.2.1; omega)]), hk3⟩
  · rw [decide_eq_false h0] at HR
    go_enter Try.func19, Try.ntmps19
    go_wp2_with (go_at_call 17; refine (HR.out _).mono ?_; rintro e w2 ⟨rfl, hk2⟩; have hk3 := hk.trans hk2 (fun _ _ h => h); have hb2 := hk2.heap (fun h => h) hb; obtain ⟨c0, c1⟩ := cell2_30 hb2)
    go_ret
    exact ⟨ret_u30 (by rw [HV.out, if_neg (fun h => h0 h.1)]), hk3⟩
set_option maxRecDepth 100000 in
theorem rInode30_any (n b i : Int) (w : World) (hi0 : -9223372036854775808 ≤ i) (hi1 : i ≤ 9223372036854775807) : Calls Try.prog 20 #[.agg #[.int .i64 n, .int .i64 b], .int .i64 i] w fun e w' => e = .returned (.int .u32 (ino30 n b i)) ∧ Kept NoB w w' := by
  have hk := (Kept.refl NoB w).alloc (.cells #[.int .i64 n, .int .i64 b] 42)
  have hb := heap_alloc_new w (.cells #[.int .i64 n, .int .i64 b] 42)
  obtain ⟨r, hr⟩ : ∃ r, r = ino30 n b i := ⟨_, rfl⟩
  rw [← hr]
  unfold ino30 at hr
  have HV := Lib.hid hr
  have HR := Lib.hid (fun w => rRight30_any n b w)
  clear hr
  by_cases h0 : rgt30 n b
  · rw [decide_eq_true h0] at HR
    obtain ⟨g1, g2, g3, g4⟩ := id h0
    by_cases h1 : 1 ≤ i
    · by_cases h2 : i ≤ n
      · have hw1 : IntKind.i64.wrap (2 + i) = 2 + i := IntWalk.i64_in _ (by omega)
        have hw2 : IntKind.i64.wrap (2 + i - 1) = 2 + i - 1 := IntWalk.i64_in _ (by omega)
        have hw3 : IntKind.u32.wrap (2 + i - 1) = 2 + i - 1 := IntWalk.u32_in _ (by omega)
        have hw4 : IntKind.u32.wrap i = i := IntWalk.u32_in _ (by omega)
        have hw5 : IntKind.u32.wrap (i + 1) = i + 1 := IntWalk.u32_in _ (by omega)
        have hw6 : IntKind.i64.wrap (2 + n) = 2 + n := IntWalk.i64_in _ (by omega)
        have hw7 : IntKind.i64.wrap (2 + n + i) = 2 + n + i := IntWalk.i64_in _ (by omega)
        have hw8 : IntKind.u32.wrap (2 + n + i) = 2 + n + i := IntWalk.u32_in _ (by omega)
        have hw9 : IntKind.i64.wrap (i + n) = i + n := IntWalk.i64_in _ (by omega)
        have hw10 : IntKind.u32.wrap (i + n) = i + n := IntWalk.u32_in _ (by omega)
        have hw11 : IntKind.u32.wrap (i + n + 2) = i + n + 2 := IntWalk.u32_in _ (by omega)
        go_enter Try.func20, Try.ntmps20
        go_wp2_with (go_at_call 18; refine (HR.out _).mono ?_; rintro e w2 ⟨rfl, hk2⟩; have hk3 := hk.trans hk2 (fun _ _ h => h); have hb2 := hk2.heap (fun h => h) hb; obtain ⟨c0, c1⟩ := cell2_30 hb2)
        go_ret
        exact ⟨ret_u30 (by have hv := HV.out; rw [if_pos ⟨h0, h1, h2⟩] at hv; omega), hk3⟩
      · go_enter Try.func20, Try.ntmps20
        go_wp2_with (go_at_call 18; refine (HR.out _).mono ?_; rintro e w2 ⟨rfl, hk2⟩; have hk3 := hk.trans hk2 (fun _ _ h => h); have hb2 := hk2.heap (fun h => h) hb; obtain ⟨c0, c1⟩ := cell2_30 hb2)
        go_ret
        exact ⟨ret_u30 (by rw [HV.out, if_neg (fun h => by have := h.2.2; omega)]), hk3⟩
    · go_enter Try.func20, Try.ntmps20
      go_wp2_with (go_at_call 18; refine (HR.out _).mono ?_; rintro e w2 ⟨rfl, hk2⟩; have hk3 := hk.trans hk2 (fun _ _ h => h); have hb2 := hk2.heap (fun h => h) hb; obtain ⟨c0, c1⟩ := cell2_30 hb2)
      go_ret
      exact ⟨ret_u30 (by rw [HV.out, if_neg (fun h => by have := h.2.1; omega)]), hk3⟩
  · rw [decide_eq_false h0] at HR
    go_enter Try.func20, Try.ntmps20
    go_wp2_with (go_at_call 18; refine (HR.out _).mono ?_; rintro e w2 ⟨rfl, hk2⟩; have hk3 := hk.trans hk2 (fun _ _ h => h); have hb2 := hk2.heap (fun h => h) hb; obtain ⟨c0, c1⟩ := cell2_30 hb2)
    go_ret
    exact ⟨ret_u30 (by rw [HV.out, if_neg (fun h => h0 h.1)]), hk3⟩
set_option maxRecDepth 100000 in
theorem vBlock_any (n b i : Int) (w : World) (hi0 : -9223372036854775808 ≤ i) (hi1 : i ≤ 9223372036854775807) : Calls Try.prog 21 #[.agg #[.int .i64 n, .int .i64 b], .int .i64 i] w fun e w' => e = .returned (.int .u32 (blk30 n b i)) ∧ Kept NoB w w' := by
  have hk := (Kept.refl NoB w).alloc (.cells #[.int .i64 n, .int .i64 b] 44)
  have hb := heap_alloc_new w (.cells #[.int .i64 n, .int .i64 b] 44)
  obtain ⟨r, hr⟩ : ∃ r, r = blk30 n b i := ⟨_, rfl⟩
  rw [← hr]
  unfold blk30 at hr
  have HV := Lib.hid hr
  have HR := Lib.hid (fun w => vRight_any n b w)
  clear hr
  by_cases h0 : rgt30 n b
  · rw [decide_eq_true h0] at HR
    obtain ⟨g1, g2, g3, g4⟩ := id h0
    by_cases h1 : 0 ≤ i
    · by_cases h2 : i < b
      · have hw1 : IntKind.i64.wrap (2 + i) = 2 + i := IntWalk.i64_in _ (by omega)
        have hw2 : IntKind.i64.wrap (2 + i - 1) = 2 + i - 1 := IntWalk.i64_in _ (by omega)
        have hw3 : IntKind.u32.wrap (2 + i - 1) = 2 + i - 1 := IntWalk.u32_in _ (by omega)
        have hw4 : IntKind.u32.wrap i = i := IntWalk.u32_in _ (by omega)
        have hw5 : IntKind.u32.wrap (i + 1) = i + 1 := IntWalk.u32_in _ (by omega)
        have hw6 : IntKind.i64.wrap (2 + n) = 2 + n := IntWalk.i64_in _ (by omega)
        have hw7 : IntKind.i64.wrap (2 + n + i) = 2 + n + i := IntWalk.i64_in _ (by omega)
        have hw8 : IntKind.u32.wrap (2 + n + i) = 2 + n + i := IntWalk.u32_in _ (by omega)
        have hw9 : IntKind.i64.wrap (i + n) = i + n := IntWalk.i64_in _ (by omega)
        have hw10 : IntKind.u32.wrap (i + n) = i + n := IntWalk.u32_in _ (by omega)
        have hw11 : IntKind.u32.wrap (i + n + 2) = i + n + 2 := IntWalk.u32_in _ (by omega)
        go_enter Try.func21, Try.ntmps21
        go_wp2_with (go_at_call 17; refine (HR.out _).mono ?_; rintro e w2 ⟨rfl, hk2⟩; have hk3 := hk.trans hk2 (fun _ _ h => h); have hb2 := hk2.heap (fun h => h) hb; obtain ⟨c0, c1⟩ := cell2_30 hb2)
        go_ret
        exact ⟨ret_u30 (by have hv := HV.out; rw [if_pos ⟨h0, h1, h2⟩] at hv; omega), hk3⟩
      · go_enter Try.func21, Try.ntmps21
        go_wp2_with (go_at_call 17; refine (HR.out _).mono ?_; rintro e w2 ⟨rfl, hk2⟩; have hk3 := hk.trans hk2 (fun _ _ h => h); have hb2 := hk2.heap (fun h => h) hb; obtain ⟨c0, c1⟩ := cell2_30 hb2)
        go_ret
        exact ⟨ret_u30 (by rw [HV.out, if_neg (fun h => by have := h.2.2; omega)]), hk3⟩
    · go_enter Try.func21, Try.ntmps21
      go_wp2_with (go_at_call 17; refine (HR.out _).mono ?_; rintro e w2 ⟨rfl, hk2⟩; have hk3 := hk.trans hk2 (fun _ _ h => h); have hb2 := hk2.heap (fun h => h) hb; obtain ⟨c0, c1⟩ := cell2_30 hb2)
      go_ret
      exact ⟨ret_u30 (by rw [HV.out, if_neg (fun h => by have := h.2.1; omega)]), hk3⟩
  · rw [decide_eq_false h0] at HR
    go_enter Try.func21, Try.ntmps21
    go_wp2_with (go_at_call 17; refine (HR.out _).mono ?_; rintro e w2 ⟨rfl, hk2⟩; have hk3 := hk.trans hk2 (fun _ _ h => h); have hb2 := hk2.heap (fun h => h) hb; obtain ⟨c0, c1⟩ := cell2_30 hb2)
    go_ret
    exact ⟨ret_u30 (by rw [HV.out, if_neg (fun h => h0 h.1)]), hk3⟩
set_option maxRecDepth 100000 in
theorem rBlock30_any (n b i : Int) (w : World) (hi0 : -9223372036854775808 ≤ i) (hi1 : i ≤ 9223372036854775807) : Calls Try.prog 22 #[.agg #[.int .i64 n, .int .i64 b], .int .i64 i] w fun e w' => e = .returned (.int .u32 (blk30 n b i)) ∧ Kept NoB w w' := by
  have hk := (Kept.refl NoB w).alloc (.cells #[.int .i64 n, .int .i64 b] 42)
  have hb := heap_alloc_new w (.cells #[.int .i64 n, .int .i64 b] 42)
  obtain ⟨r, hr⟩ : ∃ r, r = blk30 n b i := ⟨_, rfl⟩
  rw [← hr]
  unfold blk30 at hr
  have HV := Lib.hid hr
  have HR := Lib.hid (fun w => rRight30_any n b w)
  clear hr
  by_cases h0 : rgt30 n b
  · rw [decide_eq_true h0] at HR
    obtain ⟨g1, g2, g3, g4⟩ := id h0
    by_cases h1 : 0 ≤ i
    · by_cases h2 : i < b
      · have hw1 : IntKind.i64.wrap (2 + i) = 2 + i := IntWalk.i64_in _ (by omega)
        have hw2 : IntKind.i64.wrap (2 + i - 1) = 2 + i - 1 := IntWalk.i64_in _ (by omega)
        have hw3 : IntKind.u32.wrap (2 + i - 1) = 2 + i - 1 := IntWalk.u32_in _ (by omega)
        have hw4 : IntKind.u32.wrap i = i := IntWalk.u32_in _ (by omega)
        have hw5 : IntKind.u32.wrap (i + 1) = i + 1 := IntWalk.u32_in _ (by omega)
        have hw6 : IntKind.i64.wrap (2 + n) = 2 + n := IntWalk.i64_in _ (by omega)
        have hw7 : IntKind.i64.wrap (2 + n + i) = 2 + n + i := IntWalk.i64_in _ (by omega)
        have hw8 : IntKind.u32.wrap (2 + n + i) = 2 + n + i := IntWalk.u32_in _ (by omega)
        have hw9 : IntKind.i64.wrap (i + n) = i + n := IntWalk.i64_in _ (by omega)
        have hw10 : IntKind.u32.wrap (i + n) = i + n := IntWalk.u32_in _ (by omega)
        have hw11 : IntKind.u32.wrap (i + n + 2) = i + n + 2 := IntWalk.u32_in _ (by omega)
        go_enter Try.func22, Try.ntmps22
        go_wp2_with (go_at_call 18; refine (HR.out _).mono ?_; rintro e w2 ⟨rfl, hk2⟩; have hk3 := hk.trans hk2 (fun _ _ h => h); have hb2 := hk2.heap (fun h => h) hb; obtain ⟨c0, c1⟩ := cell2_30 hb2)
        go_ret
        exact ⟨ret_u30 (by have hv := HV.out; rw [if_pos ⟨h0, h1, h2⟩] at hv; omega), hk3⟩
      · go_enter Try.func22, Try.ntmps22
        go_wp2_with (go_at_call 18; refine (HR.out _).mono ?_; rintro e w2 ⟨rfl, hk2⟩; have hk3 := hk.trans hk2 (fun _ _ h => h); have hb2 := hk2.heap (fun h => h) hb; obtain ⟨c0, c1⟩ := cell2_30 hb2)
        go_ret
        exact ⟨ret_u30 (by rw [HV.out, if_neg (fun h => by have := h.2.2; omega)]), hk3⟩
    · go_enter Try.func22, Try.ntmps22
      go_wp2_with (go_at_call 18; refine (HR.out _).mono ?_; rintro e w2 ⟨rfl, hk2⟩; have hk3 := hk.trans hk2 (fun _ _ h => h); have hb2 := hk2.heap (fun h => h) hb; obtain ⟨c0, c1⟩ := cell2_30 hb2)
      go_ret
      exact ⟨ret_u30 (by rw [HV.out, if_neg (fun h => by have := h.2.1; omega)]), hk3⟩
  · rw [decide_eq_false h0] at HR
    go_enter Try.func22, Try.ntmps22
    go_wp2_with (go_at_call 18; refine (HR.out _).mono ?_; rintro e w2 ⟨rfl, hk2⟩; have hk3 := hk.trans hk2 (fun _ _ h => h); have hb2 := hk2.heap (fun h => h) hb; obtain ⟨c0, c1⟩ := cell2_30 hb2)
    go_ret
    exact ⟨ret_u30 (by rw [HV.out, if_neg (fun h => h0 h.1)]), hk3⟩
end Go.Proofs.Ytiifkcjngajegaa
