/-
  Layer 30: the walk of VolKeys.
-/
import Derived.Test.YtiifkcjngajegaaVolB
import Derived.BigRegion
import Derived.Deep.RegionLaw
import Derived.Test.YtiifkcjngajegaaCnf1
namespace Go.Proofs.Ytiifkcjngajegaa
open Go.RowKit
set_option linter.unusedVariables false

theorem what_cases (n b key : Int) (hk0 : 0 ≤ key) : ((what30 n b key).1 = 3 ∧ ino30 n b (what30 n b key).2 = key) ∨ ((what30 n b key).1 = 4 ∧ blk30 n b (what30 n b key).2 = key) ∨ ((what30 n b key).1 ≠ 3 ∧ (what30 n b key).1 ≠ 4) := by
  by_cases h0 : rgt30 n b
  · obtain ⟨g1, g2, g3, g4⟩ := id h0
    unfold what30
    rw [if_neg (fun h => h h0)]
    by_cases h1 : key = 0
    · rw [if_pos h1]; exact .inr (.inr ⟨by show (1 : Int) ≠ 3; decide, by show (1 : Int) ≠ 4; decide⟩)
    · rw [if_neg h1]
      by_cases h2 : key = 1
      · rw [if_pos h2]; exact .inr (.inr ⟨by show (2 : Int) ≠ 3; decide, by show (2 : Int) ≠ 4; decide⟩)
      · rw [if_neg h2]
        by_cases h3 : key ≤ n + 1
        · rw [if_pos h3]
          exact .inl ⟨rfl, by show ino30 n b (key - 1) = key; unfold ino30; rw [if_pos ⟨h0, by omega, by omega⟩]; omega⟩
        · rw [if_neg h3]
          by_cases h4 : key ≤ n + b + 1
          · rw [if_pos h4]
            exact .inr (.inl ⟨rfl, by show blk30 n b (key - n - 2) = key; unfold blk30; rw [if_pos ⟨h0, by omega, by omega⟩]; omega⟩)
          · rw [if_neg h4]; exact .inr (.inr ⟨by show (0 : Int) ≠ 3; decide, by show (0 : Int) ≠ 4; decide⟩)
  · rw [what_no h0]; exact .inr (.inr ⟨by show (0 : Int) ≠ 3; decide, by show (0 : Int) ≠ 4; decide⟩)
theorem what_le (n b key : Int) (h0 : 0 ≤ key) (h1 : key < 4294967296) : -9223372036854775808 ≤ (what30 n b key).2 ∧ (what30 n b key).2 ≤ 9223372036854775807 := by
  unfold what30
  by_cases h : rgt30 n b
  · obtain ⟨g1, g2, g3, g4⟩ := id h
    rw [if_neg (fun hh => hh h)]
    split
    · exact ⟨by show (_ : Int) ≤ 0; omega, by show (0 : Int) ≤ _; omega⟩
    · split
      · exact ⟨by show (_ : Int) ≤ 0; omega, by show (0 : Int) ≤ _; omega⟩
      · split
        · exact ⟨by show (_ : Int) ≤ key - 1; omega, by show key - 1 ≤ (_ : Int); omega⟩
        · split
          · exact ⟨by show (_ : Int) ≤ key - n - 2; omega, by show key - n - 2 ≤ (_ : Int); omega⟩
          · exact ⟨by show (_ : Int) ≤ 0; omega, by show (0 : Int) ≤ _; omega⟩
  · rw [if_pos h]; exact ⟨by show (_ : Int) ≤ 0; omega, by show (0 : Int) ≤ _; omega⟩
set_option maxRecDepth 100000 in
set_option maxHeartbeats 4000000 in
theorem VolKeys_any (n b key i : Int) (W : World) (h0 : 0 ≤ key) (h1 : key < 4294967296) (i0 : -9223372036854775808 ≤ i) (i1 : i ≤ 9223372036854775807) :
    Calls Try.prog 4 #[.agg #[.int .i64 n, .int .i64 b], .int .u32 key, .int .i64 i] W fun e W' => e = .returned (.bool true) ∧ Kept NoB W W' := by
  have hk0 := ((Kept.refl NoB W).alloc (.cells #[.int .i64 n, .int .i64 b] 42)).alloc (.cells #[.int .i64 n, .int .i64 b] 44)
  have HK0 := Lib.hid hk0
  have HA : Hid (((W.alloc (.cells #[.int .i64 n, .int .i64 b] 42)).alloc (.cells #[.int .i64 n, .int .i64 b] 44)).heap[W.heap.size]? = some (.cells #[.int .i64 n, .int .i64 b] 42 (0, 0))) := Lib.hid (((Kept.refl NoB _).alloc _).heap (fun h => h) (heap_alloc_new W (.cells #[.int .i64 n, .int .i64 b] 42)))
  have hd := heap_alloc_new (W.alloc (.cells #[.int .i64 n, .int .i64 b] 42)) (.cells #[.int .i64 n, .int .i64 b] 44)
  rw [show (W.alloc (.cells #[.int .i64 n, .int .i64 b] 42)).heap.size = W.heap.size + 1 by simp] at hd
  have HD := Lib.hid hd
  obtain ⟨a0, a1⟩ := cell2_30 (heap_alloc_new W (.cells #[.int .i64 n, .int .i64 b] 42))
  obtain ⟨c0, c1⟩ := cell2_30 HA.out
  obtain ⟨d0, d1⟩ := cell2_30 HD.out
  have HKb := Lib.hid (Kept.refl NoB ((W.alloc (.cells #[.int .i64 n, .int .i64 b] 42)).alloc (.cells #[.int .i64 n, .int .i64 b] 44)))
  have HR1 := Lib.hid (fun w => vRight_any n b w)
  have HR2 := Lib.hid (fun w => rRight30_any n b w)
  have HI1 := Lib.hid (fun w => vInode_any n b i w i0 i1)
  have HI2 := Lib.hid (fun w => rInode30_any n b i w i0 i1)
  have HB1 := Lib.hid (fun w => vBlock_any n b i w i0 i1)
  have HB2 := Lib.hid (fun w => rBlock30_any n b i w i0 i1)
  have HW1 := Lib.hid (fun w => vWhat_any n b key w h0 h1)
  have HW2 := Lib.hid (fun w => rWhat30_any n b key w h0 h1)
  have hwc := what_cases n b key h0
  have hwl := what_le n b key h0 h1
  obtain ⟨X, hX⟩ : ∃ X, X = what30 n b key := ⟨_, rfl⟩
  rw [← hX] at HW1 HW2 hwc hwl
  obtain ⟨x, y⟩ := X
  simp only at HW1 HW2 hwc hwl
  have HI3 := Lib.hid (fun w => vInode_any n b y w hwl.1 hwl.2)
  have HB3 := Lib.hid (fun w => vBlock_any n b y w hwl.1 hwl.2)
  obtain ⟨q, hq⟩ : ∃ q, q = decide (rgt30 n b) := ⟨_, rfl⟩
  obtain ⟨iv, hiv⟩ : ∃ q, q = ino30 n b i := ⟨_, rfl⟩
  obtain ⟨bv, hbv⟩ : ∃ q, q = blk30 n b i := ⟨_, rfl⟩
  obtain ⟨jv, hjv⟩ : ∃ q, q = ino30 n b y := ⟨_, rfl⟩
  obtain ⟨kv, hkv⟩ : ∃ q, q = blk30 n b y := ⟨_, rfl⟩
  rw [← hq] at HR1 HR2
  rw [← hiv] at HI1 HI2
  rw [← hbv] at HB1 HB2
  rw [← hjv] at HI3 hwc
  rw [← hkv] at HB3 hwc
  have HWC := Lib.hid hwc
  have e1 : (q != q) = false := bne_self_eq_false q
  have e2 : (iv != iv) = false := bne_self_eq_false iv
  have e3 : (bv != bv) = false := bne_self_eq_false bv
  have e4 : (x != x) = false := bne_self_eq_false x
  have e5 : (y != y) = false := bne_self_eq_false y
  clear hX hq hiv hbv hjv hkv hk0 hd hwc hwl
  go_enter Try.func4, Try.ntmps4
  go_wp2_with (first
    | (go_at_call 15; refine (HW1.out _).mono ?_; rintro e w8 ⟨rfl, hk⟩; replace HKb := Lib.hid (HKb.out.trans hk (fun _ _ h => h)); clear c0 c1 d0 d1; obtain ⟨c0, c1⟩ := cell2_30 (HKb.out.heap (fun h => h) HA.out); obtain ⟨d0, d1⟩ := cell2_30 (HKb.out.heap (fun h => h) HD.out); clear hk)
    | (go_at_call 16; refine (HW2.out _).mono ?_; rintro e w8 ⟨rfl, hk⟩; replace HKb := Lib.hid (HKb.out.trans hk (fun _ _ h => h)); clear c0 c1 d0 d1; obtain ⟨c0, c1⟩ := cell2_30 (HKb.out.heap (fun h => h) HA.out); obtain ⟨d0, d1⟩ := cell2_30 (HKb.out.heap (fun h => h) HD.out); clear hk))
  have HKc := Lib.hid (Kept.refl NoB w8)
  go_region_held3 (fun w' => w'.cell? ⟨W.heap.size, 0, none⟩ = some (.int .i64 n) ∧ w'.cell? ⟨W.heap.size, 1, none⟩ = some (.int .i64 b) ∧ w'.cell? ⟨W.heap.size + 1, 0, none⟩ = some (.int .i64 n) ∧ w'.cell? ⟨W.heap.size + 1, 1, none⟩ = some (.int .i64 b))
    (first
      | exact ⟨cell_drew c0, cell_drew c1, cell_drew d0, cell_drew d1⟩
      | exact ⟨HKc.out.cell (p := ⟨W.heap.size, 0, none⟩) (fun h => h) c0, HKc.out.cell (p := ⟨W.heap.size, 1, none⟩) (fun h => h) c1, HKc.out.cell (p := ⟨W.heap.size + 1, 0, none⟩) (fun h => h) d0, HKc.out.cell (p := ⟨W.heap.size + 1, 1, none⟩) (fun h => h) d1⟩
      | go_keep)
    (first
      | (go_at_call 17; refine (HR1.out _).mono ?_; rintro e w8 ⟨rfl, hk⟩; replace HKc := Lib.hid (by first | exact HKc.out.trans hk (fun _ _ h => h) | exact HKc.out.drew.trans hk (fun _ _ h => h)); clear hk)
      | (go_at_call 18; refine (HR2.out _).mono ?_; rintro e w8 ⟨rfl, hk⟩; replace HKc := Lib.hid (by first | exact HKc.out.trans hk (fun _ _ h => h) | exact HKc.out.drew.trans hk (fun _ _ h => h)); clear hk)
      | (go_at_call 19; refine (HI1.out _).mono ?_; rintro e w8 ⟨rfl, hk⟩; replace HKc := Lib.hid (by first | exact HKc.out.trans hk (fun _ _ h => h) | exact HKc.out.drew.trans hk (fun _ _ h => h)); clear hk)
      | (go_at_call 20; refine (HI2.out _).mono ?_; rintro e w8 ⟨rfl, hk⟩; replace HKc := Lib.hid (by first | exact HKc.out.trans hk (fun _ _ h => h) | exact HKc.out.drew.trans hk (fun _ _ h => h)); clear hk)
      | (go_at_call 21; refine (HB1.out _).mono ?_; rintro e w8 ⟨rfl, hk⟩; replace HKc := Lib.hid (by first | exact HKc.out.trans hk (fun _ _ h => h) | exact HKc.out.drew.trans hk (fun _ _ h => h)); clear hk)
      | (go_at_call 22; refine (HB2.out _).mono ?_; rintro e w8 ⟨rfl, hk⟩; replace HKc := Lib.hid (by first | exact HKc.out.trans hk (fun _ _ h => h) | exact HKc.out.drew.trans hk (fun _ _ h => h)); clear hk))
  all_goals
    replace HKb := Lib.hid (HKb.out.trans HKc.out (fun _ _ h => h))
    clear c0 c1 d0 d1
    obtain ⟨c0, c1⟩ := cell2_30 (HKb.out.heap (fun h => h) HA.out)
    obtain ⟨d0, d1⟩ := cell2_30 (HKb.out.heap (fun h => h) HD.out)
    clear HKc
    rcases HWC.out with ⟨rfl, rfl⟩ | ⟨rfl, rfl⟩ | ⟨g3, g4⟩
    · have e6 : (jv != jv) = false := bne_self_eq_false jv
      go_wp2_with (first
        | (go_at_call 23; refine (awake30_any _).mono ?_; rintro e w8 ⟨rfl, hk⟩; replace HKb := Lib.hid (HKb.out.trans hk (fun _ _ h => h)); clear c0 c1 d0 d1; obtain ⟨c0, c1⟩ := cell2_30 (HKb.out.heap (fun h => h) HA.out); obtain ⟨d0, d1⟩ := cell2_30 (HKb.out.heap (fun h => h) HD.out); clear hk)
        | (go_at_call 19; refine (HI3.out _).mono ?_; rintro e w8 ⟨rfl, hk⟩; replace HKb := Lib.hid (HKb.out.trans hk (fun _ _ h => h)); clear c0 c1 d0 d1; obtain ⟨c0, c1⟩ := cell2_30 (HKb.out.heap (fun h => h) HA.out); obtain ⟨d0, d1⟩ := cell2_30 (HKb.out.heap (fun h => h) HD.out); clear hk)
        | (go_at_call 21; refine (HB3.out _).mono ?_; rintro e w8 ⟨rfl, hk⟩; replace HKb := Lib.hid (HKb.out.trans hk (fun _ _ h => h)); clear c0 c1 d0 d1; obtain ⟨c0, c1⟩ := cell2_30 (HKb.out.heap (fun h => h) HA.out); obtain ⟨d0, d1⟩ := cell2_30 (HKb.out.heap (fun h => h) HD.out); clear hk))
      go_ret
      exact ⟨rfl, HK0.out.trans HKb.out (fun _ _ h => h)⟩
    · have e6 : (kv != kv) = false := bne_self_eq_false kv
      go_wp2_with (first
        | (go_at_call 23; refine (awake30_any _).mono ?_; rintro e w8 ⟨rfl, hk⟩; replace HKb := Lib.hid (HKb.out.trans hk (fun _ _ h => h)); clear c0 c1 d0 d1; obtain ⟨c0, c1⟩ := cell2_30 (HKb.out.heap (fun h => h) HA.out); obtain ⟨d0, d1⟩ := cell2_30 (HKb.out.heap (fun h => h) HD.out); clear hk)
        | (go_at_call 19; refine (HI3.out _).mono ?_; rintro e w8 ⟨rfl, hk⟩; replace HKb := Lib.hid (HKb.out.trans hk (fun _ _ h => h)); clear c0 c1 d0 d1; obtain ⟨c0, c1⟩ := cell2_30 (HKb.out.heap (fun h => h) HA.out); obtain ⟨d0, d1⟩ := cell2_30 (HKb.out.heap (fun h => h) HD.out); clear hk)
        | (go_at_call 21; refine (HB3.out _).mono ?_; rintro e w8 ⟨rfl, hk⟩; replace HKb := Lib.hid (HKb.out.trans hk (fun _ _ h => h)); clear c0 c1 d0 d1; obtain ⟨c0, c1⟩ := cell2_30 (HKb.out.heap (fun h => h) HA.out); obtain ⟨d0, d1⟩ := cell2_30 (HKb.out.heap (fun h => h) HD.out); clear hk))
      go_ret
      exact ⟨rfl, HK0.out.trans HKb.out (fun _ _ h => h)⟩
    · have e6 : (x == 3) = false := by simpa using g3
      have e7 : (x == 4) = false := by simpa using g4
      go_wp2_with (first
        | (go_at_call 23; refine (awake30_any _).mono ?_; rintro e w8 ⟨rfl, hk⟩; replace HKb := Lib.hid (HKb.out.trans hk (fun _ _ h => h)); clear c0 c1 d0 d1; obtain ⟨c0, c1⟩ := cell2_30 (HKb.out.heap (fun h => h) HA.out); obtain ⟨d0, d1⟩ := cell2_30 (HKb.out.heap (fun h => h) HD.out); clear hk)
        | (go_at_call 19; refine (HI3.out _).mono ?_; rintro e w8 ⟨rfl, hk⟩; replace HKb := Lib.hid (HKb.out.trans hk (fun _ _ h => h)); clear c0 c1 d0 d1; obtain ⟨c0, c1⟩ := cell2_30 (HKb.out.heap (fun h => h) HA.out); obtain ⟨d0, d1⟩ := cell2_30 (HKb.out.heap (fun h => h) HD.out); clear hk)
        | (go_at_call 21; refine (HB3.out _).mono ?_; rintro e w8 ⟨rfl, hk⟩; replace HKb := Lib.hid (HKb.out.trans hk (fun _ _ h => h)); clear c0 c1 d0 d1; obtain ⟨c0, c1⟩ := cell2_30 (HKb.out.heap (fun h => h) HA.out); obtain ⟨d0, d1⟩ := cell2_30 (HKb.out.heap (fun h => h) HD.out); clear hk))
      go_ret
      exact ⟨rfl, HK0.out.trans HKb.out (fun _ _ h => h)⟩
end Go.Proofs.Ytiifkcjngajegaa
