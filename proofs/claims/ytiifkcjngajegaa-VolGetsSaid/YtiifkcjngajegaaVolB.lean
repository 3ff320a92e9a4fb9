/-
  Layer 30: what a key means: What, of the package and the chapter's; the page's example.
-/
import Derived.Test.YtiifkcjngajegaaVolA
namespace Go.Proofs.Ytiifkcjngajegaa
open Go.RowKit
set_option linter.unusedVariables false

/-- What a key means. -/
def what30 (n b key : Int) : Int × Int := if ¬ rgt30 n b then (0, 0) else if key = 0 then (1, 0) else if key = 1 then (2, 0) else if key ≤ n + 1 then (3, key - 1) else if key ≤ n + b + 1 then (4, key - n - 2) else (0, 0)
theorem ret_w30 {n b key x y : Int} (h : (x, y) = what30 n b key) : Ending.returned (.tuple #[.int .i64 x, .int .i64 y]) = .returned (.tuple #[.int .i64 (what30 n b key).1, .int .i64 (what30 n b key).2]) := by rw [← h]
theorem what_no {n b key : Int} (h : ¬ rgt30 n b) : what30 n b key = (0, 0) := by unfold what30; rw [if_pos h]
theorem what_big {n b key : Int} (h : n + b + 1 < key) (hr : rgt30 n b) : what30 n b key = (0, 0) := by
  obtain ⟨g1, g2, g3, g4⟩ := id hr
  unfold what30; rw [if_neg (fun h => h hr), if_neg (by omega), if_neg (by omega), if_neg (by omega), if_neg (by omega)]
theorem what_blk {n b key : Int} (h : n + 1 < key) (h2 : key ≤ n + b + 1) (hr : rgt30 n b) : what30 n b key = (4, key - n - 2) := by
  obtain ⟨g1, g2, g3, g4⟩ := id hr
  unfold what30; rw [if_neg (fun h => h hr), if_neg (by omega), if_neg (by omega), if_neg (by omega), if_pos (by omega)]
theorem what_ino {n b key : Int} (h : 1 < key) (h2 : key ≤ n + 1) (hr : rgt30 n b) : what30 n b key = (3, key - 1) := by
  unfold what30; rw [if_neg (fun h => h hr), if_neg (by omega), if_neg (by omega), if_pos (by omega)]
theorem what_one {n b : Int} (hr : rgt30 n b) : what30 n b 1 = (2, 0) := by
  unfold what30; rw [if_neg (fun h => h hr), if_neg (by omega), if_pos rfl]
theorem what_zero {n b : Int} (hr : rgt30 n b) : what30 n b 0 = (1, 0) := by
  unfold what30; rw [if_neg (fun h => h hr), if_pos rfl]
set_option maxRecDepth 100000 in
theorem vWhat_any (n b key : Int) (w : World) (h0 : 0 ≤ key) (h1 : key < 4294967296) : Calls Try.prog 15 #[.agg #[.int .i64 n, .int .i64 b], .int .u32 key] w fun e w' => e = .returned (.tuple #[.int .i64 (what30 n b key).1, .int .i64 (what30 n b key).2]) ∧ Kept NoB w w' := by
  have hk := (Kept.refl NoB w).alloc (.cells #[.int .i64 n, .int .i64 b] 44)
  have HK := Lib.hid hk
  have HB := Lib.hid (heap_alloc_new w (.cells #[.int .i64 n, .int .i64 b] 44))
  obtain ⟨c0, c1⟩ := cell2_30 HB.out
  have HR := Lib.hid (fun w => vRight_any n b w)
  have HW := Lib.hid (fun x y => ret_w30 (n := n) (b := b) (key := key) (x := x) (y := y))
  obtain ⟨R, hR⟩ : ∃ R, R = what30 n b key := ⟨_, rfl⟩
  rw [← hR] at HW ⊢
  have HE := Lib.hid hR
  obtain ⟨R1, R2⟩ := R
  clear hk hR
  by_cases hr : rgt30 n b
  · rw [decide_eq_true hr] at HR
    obtain ⟨g1, g2, g3, g4⟩ := id hr
    have HRG := Lib.hid hr
    have hwb : IntKind.i64.wrap (b - 1) = b - 1 := IntWalk.i64_in _ (by omega)
    have hwk : IntKind.i64.wrap key = key := IntWalk.i64_in _ (by omega)
    have hwn : IntKind.i64.wrap (n + 1) = n + 1 := IntWalk.i64_in _ (by omega)
    have hwn2 : IntKind.i64.wrap (1 + n) = 1 + n := IntWalk.i64_in _ (by omega)
    have hwa : IntKind.i64.wrap (key - (n + 1)) = key - (n + 1) := IntWalk.i64_in _ (by omega)
    have hwc : IntKind.i64.wrap (key - (n + 1) - 1) = key - (n + 1) - 1 := IntWalk.i64_in _ (by omega)
    have hwd : IntKind.i64.wrap (key - 1) = key - 1 := IntWalk.i64_in _ (by omega)
    have HL := Lib.hid (fun w => vBlock_any n b (b - 1) w (by omega) (by omega))
    rw [show blk30 n b (b - 1) = n + b + 1 by unfold blk30; rw [if_pos ⟨hr, by omega, by omega⟩]; omega] at HL
    have HI := Lib.hid (fun w => vInode_any n b n w (by omega) (by omega))
    rw [show ino30 n b n = n + 1 by unfold ino30; rw [if_pos ⟨hr, by omega, by omega⟩]] at HI
    clear hr
    by_cases k1 : n + b + 1 < key
    · go_enter Try.func15, Try.ntmps15
      go_wp2_with (first | (go_at_call 17; refine (HR.out _).mono ?_; rintro e w2 ⟨rfl, hk2⟩; replace HK := Lib.hid (HK.out.trans hk2 (fun _ _ h => h)); replace HB := Lib.hid (hk2.heap (fun h => h) HB.out); clear c0 c1 hk2; obtain ⟨c0, c1⟩ := cell2_30 HB.out) | (go_at_call 21; refine (HL.out _).mono ?_; rintro e w2 ⟨rfl, hk2⟩; replace HK := Lib.hid (HK.out.trans hk2 (fun _ _ h => h)); replace HB := Lib.hid (hk2.heap (fun h => h) HB.out); clear c0 c1 hk2; obtain ⟨c0, c1⟩ := cell2_30 HB.out) | (go_at_call 19; refine (HI.out _).mono ?_; rintro e w2 ⟨rfl, hk2⟩; replace HK := Lib.hid (HK.out.trans hk2 (fun _ _ h => h)); replace HB := Lib.hid (hk2.heap (fun h => h) HB.out); clear c0 c1 hk2; obtain ⟨c0, c1⟩ := cell2_30 HB.out))
      exact bodyPost_ret (v := .tuple #[.int .i64 (0), .int .i64 (0)]) (by simp [results, Try.results15, go_sem]) rfl ⟨HW.out _ _ (by rw [HE.out, what_big k1 HRG.out]), HK.out⟩
    · by_cases k2 : n + 1 < key
      · go_enter Try.func15, Try.ntmps15
        go_wp2_with (first | (go_at_call 17; refine (HR.out _).mono ?_; rintro e w2 ⟨rfl, hk2⟩; replace HK := Lib.hid (HK.out.trans hk2 (fun _ _ h => h)); replace HB := Lib.hid (hk2.heap (fun h => h) HB.out); clear c0 c1 hk2; obtain ⟨c0, c1⟩ := cell2_30 HB.out) | (go_at_call 21; refine (HL.out _).mono ?_; rintro e w2 ⟨rfl, hk2⟩; replace HK := Lib.hid (HK.out.trans hk2 (fun _ _ h => h)); replace HB := Lib.hid (hk2.heap (fun h => h) HB.out); clear c0 c1 hk2; obtain ⟨c0, c1⟩ := cell2_30 HB.out) | (go_at_call 19; refine (HI.out _).mono ?_; rintro e w2 ⟨rfl, hk2⟩; replace HK := Lib.hid (HK.out.trans hk2 (fun _ _ h => h)); replace HB := Lib.hid (hk2.heap (fun h => h) HB.out); clear c0 c1 hk2; obtain ⟨c0, c1⟩ := cell2_30 HB.out))
        exact bodyPost_ret (v := .tuple #[.int .i64 (4), .int .i64 (key - (n + 1) - 1)]) (by simp [results, Try.results15, go_sem]) rfl ⟨HW.out _ _ (by rw [HE.out, what_blk k2 (by omega) HRG.out, show key - n - 2 = key - (n + 1) - 1 by omega]), HK.out⟩
      · by_cases k3 : 1 < key
        · go_enter Try.func15, Try.ntmps15
          go_wp2_with (first | (go_at_call 17; refine (HR.out _).mono ?_; rintro e w2 ⟨rfl, hk2⟩; replace HK := Lib.hid (HK.out.trans hk2 (fun _ _ h => h)); replace HB := Lib.hid (hk2.heap (fun h => h) HB.out); clear c0 c1 hk2; obtain ⟨c0, c1⟩ := cell2_30 HB.out) | (go_at_call 21; refine (HL.out _).mono ?_; rintro e w2 ⟨rfl, hk2⟩; replace HK := Lib.hid (HK.out.trans hk2 (fun _ _ h => h)); replace HB := Lib.hid (hk2.heap (fun h => h) HB.out); clear c0 c1 hk2; obtain ⟨c0, c1⟩ := cell2_30 HB.out) | (go_at_call 19; refine (HI.out _).mono ?_; rintro e w2 ⟨rfl, hk2⟩; replace HK := Lib.hid (HK.out.trans hk2 (fun _ _ h => h)); replace HB := Lib.hid (hk2.heap (fun h => h) HB.out); clear c0 c1 hk2; obtain ⟨c0, c1⟩ := cell2_30 HB.out))
          exact bodyPost_ret (v := .tuple #[.int .i64 (3), .int .i64 (key - 1)]) (by simp [results, Try.results15, go_sem]) rfl ⟨HW.out _ _ (by rw [HE.out, what_ino k3 (by omega) HRG.out]), HK.out⟩
        · by_cases k4 : 0 < key
          · obtain rfl : key = 1 := by omega
            go_enter Try.func15, Try.ntmps15
            go_wp2_with (first | (go_at_call 17; refine (HR.out _).mono ?_; rintro e w2 ⟨rfl, hk2⟩; replace HK := Lib.hid (HK.out.trans hk2 (fun _ _ h => h)); replace HB := Lib.hid (hk2.heap (fun h => h) HB.out); clear c0 c1 hk2; obtain ⟨c0, c1⟩ := cell2_30 HB.out) | (go_at_call 21; refine (HL.out _).mono ?_; rintro e w2 ⟨rfl, hk2⟩; replace HK := Lib.hid (HK.out.trans hk2 (fun _ _ h => h)); replace HB := Lib.hid (hk2.heap (fun h => h) HB.out); clear c0 c1 hk2; obtain ⟨c0, c1⟩ := cell2_30 HB.out) | (go_at_call 19; refine (HI.out _).mono ?_; rintro e w2 ⟨rfl, hk2⟩; replace HK := Lib.hid (HK.out.trans hk2 (fun _ _ h => h)); replace HB := Lib.hid (hk2.heap (fun h => h) HB.out); clear c0 c1 hk2; obtain ⟨c0, c1⟩ := cell2_30 HB.out))
            exact bodyPost_ret (v := .tuple #[.int .i64 (2), .int .i64 (0)]) (by simp [results, Try.results15, go_sem]) rfl ⟨HW.out _ _ (by rw [HE.out, what_one HRG.out]), HK.out⟩
          · obtain rfl : key = 0 := by omega
            go_enter Try.func15, Try.ntmps15
            go_wp2_with (first | (go_at_call 17; refine (HR.out _).mono ?_; rintro e w2 ⟨rfl, hk2⟩; replace HK := Lib.hid (HK.out.trans hk2 (fun _ _ h => h)); replace HB := Lib.hid (hk2.heap (fun h => h) HB.out); clear c0 c1 hk2; obtain ⟨c0, c1⟩ := cell2_30 HB.out) | (go_at_call 21; refine (HL.out _).mono ?_; rintro e w2 ⟨rfl, hk2⟩; replace HK := Lib.hid (HK.out.trans hk2 (fun _ _ h => h)); replace HB := Lib.hid (hk2.heap (fun h => h) HB.out); clear c0 c1 hk2; obtain ⟨c0, c1⟩ := cell2_30 HB.out) | (go_at_call 19; refine (HI.out _).mono ?_; rintro e w2 ⟨rfl, hk2⟩; replace HK := Lib.hid (HK.out.trans hk2 (fun _ _ h => h)); replace HB := Lib.hid (hk2.heap (fun h => h) HB.out); clear c0 c1 hk2; obtain ⟨c0, c1⟩ := cell2_30 HB.out))
            exact bodyPost_ret (v := .tuple #[.int .i64 (1), .int .i64 (0)]) (by simp [results, Try.results15, go_sem]) rfl ⟨HW.out _ _ (by rw [HE.out, what_zero HRG.out]), HK.out⟩
  · rw [decide_eq_false hr] at HR
    have HRG := Lib.hid hr
    clear hr
    go_enter Try.func15, Try.ntmps15
    go_wp2_with (go_at_call 17; refine (HR.out _).mono ?_; rintro e w2 ⟨rfl, hk2⟩; replace HK := Lib.hid (HK.out.trans hk2 (fun _ _ h => h)); replace HB := Lib.hid (hk2.heap (fun h => h) HB.out); clear c0 c1 hk2; obtain ⟨c0, c1⟩ := cell2_30 HB.out)
    exact bodyPost_ret (v := .tuple #[.int .i64 (0), .int .i64 (0)]) (by simp [results, Try.results15, go_sem]) rfl ⟨HW.out _ _ (by rw [HE.out, what_no HRG.out]), HK.out⟩
set_option maxRecDepth 100000 in
theorem rWhat30_any (n b key : Int) (w : World) (h0 : 0 ≤ key) (h1 : key < 4294967296) : Calls Try.prog 16 #[.agg #[.int .i64 n, .int .i64 b], .int .u32 key] w fun e w' => e = .returned (.tuple #[.int .i64 (what30 n b key).1, .int .i64 (what30 n b key).2]) ∧ Kept NoB w w' := by
  have hk := (Kept.refl NoB w).alloc (.cells #[.int .i64 n, .int .i64 b] 42)
  have HK := Lib.hid hk
  have HB := Lib.hid (heap_alloc_new w (.cells #[.int .i64 n, .int .i64 b] 42))
  obtain ⟨c0, c1⟩ := cell2_30 HB.out
  have HR := Lib.hid (fun w => rRight30_any n b w)
  have HW := Lib.hid (fun x y => ret_w30 (n := n) (b := b) (key := key) (x := x) (y := y))
  obtain ⟨R, hR⟩ : ∃ R, R = what30 n b key := ⟨_, rfl⟩
  rw [← hR] at HW ⊢
  have HE := Lib.hid hR
  obtain ⟨R1, R2⟩ := R
  clear hk hR
  by_cases hr : rgt30 n b
  · rw [decide_eq_true hr] at HR
    obtain ⟨g1, g2, g3, g4⟩ := id hr
    have HRG := Lib.hid hr
    clear hr
    by_cases k4 : key = 0
    · subst k4
      go_enter Try.func16, Try.ntmps16
      go_wp2_with (go_at_call 18; refine (HR.out _).mono ?_; rintro e w2 ⟨rfl, hk2⟩; replace HK := Lib.hid (HK.out.trans hk2 (fun _ _ h => h)); replace HB := Lib.hid (hk2.heap (fun h => h) HB.out); clear c0 c1 hk2; obtain ⟨c0, c1⟩ := cell2_30 HB.out)
      exact bodyPost_ret (v := .tuple #[.int .i64 (1), .int .i64 (0)]) (by simp [results, Try.results16, go_sem]) rfl ⟨HW.out _ _ (by rw [HE.out, what_zero HRG.out]), HK.out⟩
    · by_cases k3 : key = 1
      · subst k3
        go_enter Try.func16, Try.ntmps16
        go_wp2_with (go_at_call 18; refine (HR.out _).mono ?_; rintro e w2 ⟨rfl, hk2⟩; replace HK := Lib.hid (HK.out.trans hk2 (fun _ _ h => h)); replace HB := Lib.hid (hk2.heap (fun h => h) HB.out); clear c0 c1 hk2; obtain ⟨c0, c1⟩ := cell2_30 HB.out)
        exact bodyPost_ret (v := .tuple #[.int .i64 (2), .int .i64 (0)]) (by simp [results, Try.results16, go_sem]) rfl ⟨HW.out _ _ (by rw [HE.out, what_one HRG.out]), HK.out⟩
      · have hk4 : (key == 0) = false := by simpa using k4
        have hk3 : (key == 1) = false := by simpa using k3
        have hk2 : 2 ≤ key := by omega
        clear k3 k4
        go_enter Try.func16, Try.ntmps16
        go_wp2_with (go_at_call 18; refine (HR.out _).mono ?_; rintro e w2 ⟨rfl, hk2⟩; replace HK := Lib.hid (HK.out.trans hk2 (fun _ _ h => h)); replace HB := Lib.hid (hk2.heap (fun h => h) HB.out); clear c0 c1 hk2; obtain ⟨c0, c1⟩ := cell2_30 HB.out)
        go_loopw [6] (fun i wr => ∃ j : Nat, 1 ≤ j ∧ (j : Int) ≤ n + 1 ∧ (j : Int) + 1 ≤ key ∧ i = .int .i64 j ∧ wr.heap[w.heap.size]? = some (.cells #[.int .i64 n, .int .i64 b] 42 (0, 0)) ∧ Kept NoB w wr) (fun i _ => 65 - (intOf i).toNat)
        case atStart => exact ⟨1, by omega, by omega, by omega, rfl, HB.out, HK.out⟩
        case round =>
          obtain ⟨j, hj1, hjn, hjk, rfl, hb, hkk⟩ := hrel
          replace HB := Lib.hid hb
          replace HK := Lib.hid hkk
          obtain ⟨c0, c1⟩ := cell2_30 hb
          clear hb hkk
          by_cases hjl : (j : Int) ≤ n
          · have hw1 : IntKind.i64.wrap ((j : Int) + 1) = (j : Int) + 1 := IntWalk.i64_in _ (by omega)
            have HI := Lib.hid (fun w => rInode30_any n b j w (by omega) (by omega))
            rw [show ino30 n b j = (j : Int) + 1 by unfold ino30; rw [if_pos ⟨HRG.out, by omega, by omega⟩]] at HI
            by_cases hq : (j : Int) + 1 = key
            · have hq2 : ((j : Int) + 1 == key) = true := by simpa using hq
              have HQ := Lib.hid hq
              clear hq
              go_wp2_with (go_at_call 20; refine (HI.out _).mono ?_; rintro e w2 ⟨rfl, hk2⟩; replace HK := Lib.hid (HK.out.trans hk2 (fun _ _ h => h)); replace HB := Lib.hid (hk2.heap (fun h => h) HB.out); clear c0 c1 hk2; obtain ⟨c0, c1⟩ := cell2_30 HB.out)
              exact bodyPost_ret (v := .tuple #[.int .i64 (3), .int .i64 ((j : Int))]) (by simp [results, Try.results16, go_sem]) rfl ⟨HW.out _ _ (by rw [HE.out, what_ino (by have := HQ.out; omega) (by have := HQ.out; omega) HRG.out, ← HQ.out]; congr 1; omega), HK.out⟩
            · have hq2 : ((j : Int) + 1 == key) = false := by simpa using hq
              have HQ := Lib.hid hq
              clear hq
              go_wp2_with (go_at_call 20; refine (HI.out _).mono ?_; rintro e w2 ⟨rfl, hk2⟩; replace HK := Lib.hid (HK.out.trans hk2 (fun _ _ h => h)); replace HB := Lib.hid (hk2.heap (fun h => h) HB.out); clear c0 c1 hk2; obtain ⟨c0, c1⟩ := cell2_30 HB.out)
              go_roundw
              case rel => exact ⟨j + 1, by omega, by omega, by have := HQ.out; omega, by go_num, HB.out, HK.out⟩
              case measure => simp [intOf]; omega
          · obtain rfl : n = (j : Int) - 1 := by omega
            go_wp2_with fail
            go_loopw [7] (fun i wr => ∃ l : Nat, (l : Int) ≤ b ∧ (j : Int) + 1 + l ≤ key ∧ i = .int .i64 l ∧ wr.heap[w.heap.size]? = some (.cells #[.int .i64 ((j : Int) - 1), .int .i64 b] 42 (0, 0)) ∧ Kept NoB w wr) (fun i _ => 97 - (intOf i).toNat)
            case atStart => exact ⟨0, by omega, by omega, rfl, HB.out, HK.out⟩
            case round =>
              obtain ⟨l, hln, hlk, rfl, hb, hkk⟩ := hrel
              replace HB := Lib.hid hb
              replace HK := Lib.hid hkk
              obtain ⟨c0, c1⟩ := cell2_30 hb
              clear hb hkk
              by_cases hll : (l : Int) < b
              · have hw1 : IntKind.i64.wrap ((l : Int) + 1) = (l : Int) + 1 := IntWalk.i64_in _ (by omega)
                have HI := Lib.hid (fun w => rBlock30_any ((j : Int) - 1) b l w (by omega) (by omega))
                rw [show blk30 ((j : Int) - 1) b l = (l : Int) + j + 1 by unfold blk30; rw [if_pos ⟨HRG.out, by omega, by omega⟩]; omega] at HI
                by_cases hq : (l : Int) + j + 1 = key
                · have hq2 : ((l : Int) + j + 1 == key) = true := by simpa using hq
                  have HQ := Lib.hid hq
                  clear hq
                  go_wp2_with (go_at_call 22; refine (HI.out _).mono ?_; rintro e w2 ⟨rfl, hk2⟩; replace HK := Lib.hid (HK.out.trans hk2 (fun _ _ h => h)); replace HB := Lib.hid (hk2.heap (fun h => h) HB.out); clear c0 c1 hk2; obtain ⟨c0, c1⟩ := cell2_30 HB.out)
                  exact bodyPost_ret (v := .tuple #[.int .i64 (4), .int .i64 ((l : Int))]) (by simp [results, Try.results16, go_sem]) rfl ⟨HW.out _ _ (by rw [HE.out, what_blk (by have := HQ.out; omega) (by have := HQ.out; omega) HRG.out, ← HQ.out]; congr 1; omega), HK.out⟩
                · have hq2 : ((l : Int) + j + 1 == key) = false := by simpa using hq
                  have HQ := Lib.hid hq
                  clear hq
                  go_wp2_with (go_at_call 22; refine (HI.out _).mono ?_; rintro e w2 ⟨rfl, hk2⟩; replace HK := Lib.hid (HK.out.trans hk2 (fun _ _ h => h)); replace HB := Lib.hid (hk2.heap (fun h => h) HB.out); clear c0 c1 hk2; obtain ⟨c0, c1⟩ := cell2_30 HB.out)
                  go_roundw
                  case rel => exact ⟨l + 1, by omega, by have := HQ.out; omega, by go_num, HB.out, HK.out⟩
                  case measure => simp [intOf]; omega
              · go_wp2_with fail
                exact bodyPost_ret (v := .tuple #[.int .i64 (0), .int .i64 (0)]) (by simp [results, Try.results16, go_sem]) rfl ⟨HW.out _ _ (by rw [HE.out, what_big (by omega) HRG.out]), HK.out⟩
  · rw [decide_eq_false hr] at HR
    have HRG := Lib.hid hr
    clear hr
    go_enter Try.func16, Try.ntmps16
    go_wp2_with (go_at_call 18; refine (HR.out _).mono ?_; rintro e w2 ⟨rfl, hk2⟩; replace HK := Lib.hid (HK.out.trans hk2 (fun _ _ h => h)); replace HB := Lib.hid (hk2.heap (fun h => h) HB.out); clear c0 c1 hk2; obtain ⟨c0, c1⟩ := cell2_30 HB.out)
    exact bodyPost_ret (v := .tuple #[.int .i64 (0), .int .i64 (0)]) (by simp [results, Try.results16, go_sem]) rfl ⟨HW.out _ _ (by rw [HE.out, what_no HRG.out]), HK.out⟩
set_option maxRecDepth 100000 in
theorem awake30_any (w : World) : Calls Try.prog 23 #[] w fun e w' => e = .returned (.bool true) ∧ Kept NoB w w' := by
  have HK := Lib.hid ((Kept.refl NoB w).alloc (.cells #[.int .i64 4, .int .i64 9] 44))
  have HB := Lib.hid (heap_alloc_new w (.cells #[.int .i64 4, .int .i64 9] 44))
  obtain ⟨c0, c1⟩ := cell2_30 HB.out
  have HR := Lib.hid (fun w => vRight_any 4 9 w)
  have HL := Lib.hid (fun w => vBlock_any 4 9 0 w (by omega) (by omega))
  have HI := Lib.hid (fun w => vWhat_any 4 9 6 w (by omega) (by omega))
  rw [show what30 4 9 6 = (4, 0) by decide] at HI
  rw [show blk30 4 9 0 = 6 by decide] at HL
  rw [show decide (rgt30 4 9) = true by decide] at HR
  simp only at HI
  go_enter Try.func23, Try.ntmps23
  go_wp2_with (first | (go_at_call 17; refine (HR.out _).mono ?_; rintro e w2 ⟨rfl, hk2⟩; replace HK := Lib.hid (HK.out.trans hk2 (fun _ _ h => h)); replace HB := Lib.hid (hk2.heap (fun h => h) HB.out); clear c0 c1 hk2; obtain ⟨c0, c1⟩ := cell2_30 HB.out) | (go_at_call 21; refine (HL.out _).mono ?_; rintro e w2 ⟨rfl, hk2⟩; replace HK := Lib.hid (HK.out.trans hk2 (fun _ _ h => h)); replace HB := Lib.hid (hk2.heap (fun h => h) HB.out); clear c0 c1 hk2; obtain ⟨c0, c1⟩ := cell2_30 HB.out) | (go_at_call 15; refine (HI.out _).mono ?_; rintro e w2 ⟨rfl, hk2⟩; replace HK := Lib.hid (HK.out.trans hk2 (fun _ _ h => h)); replace HB := Lib.hid (hk2.heap (fun h => h) HB.out); clear c0 c1 hk2; obtain ⟨c0, c1⟩ := cell2_30 HB.out))
  go_ret
  exact ⟨rfl, HK.out⟩
end Go.Proofs.Ytiifkcjngajegaa
