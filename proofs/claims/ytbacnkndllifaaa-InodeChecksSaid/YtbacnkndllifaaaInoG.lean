/-
  Package inode: placed, Check.
-/
import Derived.Test.YtbacnkndllifaaaInoF
import Derived.Deep.RegionHeld3
namespace Go.Proofs.Ytbacnkndllifaaa
open Go.RowKit
set_option linter.unusedVariables false

/-- The first j blocks are in range, each once. -/
def Nice (bs : List Int) (j : Nat) : Prop := ∀ i, i < j → (0 ≤ bs.getD i 0 ∧ bs.getD i 0 ≤ 4095) ∧ ¬ bs.getD i 0 ∈ bs.take i
theorem Nice.succ {bs : List Int} {j : Nat} (h : Nice bs j) (h1 : 0 ≤ bs.getD j 0 ∧ bs.getD j 0 ≤ 4095) (h2 : ¬ bs.getD j 0 ∈ bs.take j) : Nice bs (j + 1) := fun i hi => by
  by_cases e : i = j
  · rw [e]; exact ⟨h1, h2⟩
  · exact h i (by omega)
theorem getD_mem28 {T : List Int} {j : Nat} (h : j < T.length) : T.getD j 0 ∈ T := by
  rw [List.getD_eq_getElem?_getD, List.getElem?_eq_getElem h]; exact List.getElem_mem h
theorem okB_long {l : List Xt} {s : Int} (h : 8 < l.length) : okB l s = false := decide_eq_false (fun ⟨h1, _⟩ => by omega)
theorem okB_range {l : List Xt} {s : Int} {j : Nat} (hj : j < (blk l).length) (h : (blk l).getD j 0 < 0 ∨ 4095 < (blk l).getD j 0) : okB l s = false :=
  decide_eq_false (fun ⟨_, h1, _⟩ => by have := h1 _ (getD_mem28 hj); omega)
theorem okB_twice {l : List Xt} {s : Int} {j : Nat} (hj : j < (blk l).length) (h : (blk l).getD j 0 ∈ (blk l).take j) : okB l s = false :=
  decide_eq_false (fun ⟨_, _, h1, _⟩ => h1 j hj h)
theorem okB_need {l : List Xt} {s : Int} (h : ((blk l).length : Int) ≠ need28 s) : okB l s = false :=
  decide_eq_false (fun ⟨_, _, _, h1, _⟩ => h h1)
theorem okB_end {l : List Xt} {s : Int} (h8 : l.length ≤ 8) (hn : Nice (blk l) (blk l).length) (h : ((blk l).length : Int) = need28 s) : okB l s = decide (exts (blk l) = l) := by
  by_cases he : exts (blk l) = l
  · rw [decide_eq_true he]
    refine decide_eq_true ⟨h8, fun b hb => ?_, fun i hi => (hn i hi).2, h, he⟩
    obtain ⟨i, hi, rfl⟩ := List.getElem_of_mem hb
    have := (hn i hi).1
    rwa [List.getD_eq_getElem?_getD, List.getElem?_eq_getElem hi] at this
  · rw [decide_eq_false he]
    exact decide_eq_false (fun h => he h.2.2.2.2)
set_option maxRecDepth 100000 in
theorem placed_any (m s : Int) (u : Value) (l : List Xt) (F : Nat → Prop) (w : World) (h : XSl w F u l) (h0 : -9223372036854775808 ≤ s) (h1 : s ≤ 9223372036854775807) :
    Calls Try.prog 58 #[iv28 m s u] w (BoolE (okB l s) w) := by
  obtain ⟨a, cap, rfl, hca, hcm, _⟩ := id h
  have hk0 := (Kept.refl NoB w).alloc (.cells #[.int .i64 m, .int .i64 s, .slice a l.length cap] 47)
  have HK0 := Lib.hid hk0
  have hb := heap_alloc_new w (.cells #[.int .i64 m, .int .i64 s, .slice a l.length cap] 47)
  have HB := Lib.hid hb
  obtain ⟨c0, c1, c2⟩ := cells3 hb
  unfold maxLen at hcm
  by_cases h8 : 8 < l.length
  · rw [okB_long h8]
    have d1 : decide ((8 : Int) < (l.length : Int)) = true := decide_eq_true (by omega)
    have d2 : decide (8 < l.length) = true := decide_eq_true h8
    clear h h8 hk0 hb
    go_enter Try.func58, Try.ntmps58
    go_wp2
    go_ret
    exact ⟨rfl, HK0.out⟩
  · have d1 : decide ((8 : Int) < (l.length : Int)) = false := decide_eq_false (by omega)
    have d2 : decide (8 < l.length) = false := decide_eq_false h8
    have HX := Lib.hid (h.no hk0)
    have HBL := Lib.hid (iBlocks_any m s _ l _ _ (h.no hk0) (by omega))
    have hbl := blk_len l
    have HR := Lib.hid (fun (j : Nat) (hj : j < (blk l).length) h => okB_range (s := s) (l := l) hj h)
    have HT := Lib.hid (fun (j : Nat) (hj : j < (blk l).length) h => okB_twice (s := s) (l := l) hj h)
    have HND := Lib.hid (fun h => okB_need (s := s) (l := l) h)
    have HED := Lib.hid (fun hn h => okB_end (s := s) (l := l) (by omega) hn h)
    obtain ⟨t, ht⟩ : ∃ t, t = okB l s := ⟨_, rfl⟩
    rw [← ht] at HR HT HND HED ⊢
    obtain ⟨BS, hBS⟩ : ∃ BS, BS = blk l := ⟨_, rfl⟩
    rw [← hBS] at HBL hbl HR HT HND HED
    have hbl2 : BS.length ≤ 64 := by omega
    clear h hk0 hb ht hBS hbl
    go_enter Try.func58, Try.ntmps58
    go_wp2_with (go_at_call 37; refine HBL.out.mono ?_; rintro e w1 ⟨a1, e1, rfl, ho, hk⟩; have HO := Lib.hid ho.nslB; have HK1 := Lib.hid hk; clear ho hk)
    have HBX := Lib.hid (HK1.out.heap (fun h => h) HB.out)
    have HXX := Lib.hid (HX.out.no HK1.out)
    have HKW := Lib.hid (HK0.out.trans HK1.out (fun _ _ h => h))
    have hol := HO.out.len
    unfold maxLen at hol
    clear c0 c1 c2
    go_loopw [14] (fun i wr => ∃ j : Nat, j ≤ BS.length ∧ i = .int .i64 j ∧ Nice BS j ∧ wr = w1) (fun i _ => BS.length - (intOf i).toNat)
    case atStart => exact ⟨0, by omega, rfl, fun i hi => absurd hi (by omega), rfl⟩
    case round =>
      obtain ⟨j, hj, rfl, hno, rfl⟩ := hrel
      have HNO := Lib.hid hno
      clear hno
      by_cases hlt : j < BS.length
      · obtain ⟨b, o, rfl, _, _, hcell⟩ := HO.out.at_ hlt
        obtain ⟨x, hx⟩ : ∃ x, x = BS.getD j 0 := ⟨_, rfl⟩
        rw [← hx] at hcell
        have HXE := Lib.hid hx
        have hj0 : (0 : Int) ≤ (j : Int) := by omega
        have hj1 : (j : Int) < (BS.length : Int) := by omega
        have hje : (j : Int) ≤ (e1 : Int) := by omega
        clear hx
        by_cases hr : 0 ≤ x ∧ x ≤ 4095
        · have HC := Lib.hid (Contains_any _ _ x _ wr (nsl_take HO.out (k := j) (by omega)))
          have r1 : decide (x < 0) = false := decide_eq_false (by omega)
          have r2 : decide (4095 < x) = false := decide_eq_false (by omega)
          cases hm : decide (x ∈ BS.take j) with
          | true =>
            rw [hm] at HC
            have HF : Hid (false = t) := Lib.hid (HT.out j hlt (by rw [← HXE.out]; exact of_decide_eq_true hm)).symm
            clear hm hr
            go_wp2_with (go_at_call 74; refine HC.out.mono ?_; rintro e w2 ⟨rfl, rfl⟩)
            go_ret
            exact ⟨ret_b HF.out, HKW.out⟩
          | false =>
            rw [hm] at HC
            have HN2 := Lib.hid (HNO.out.succ (by rw [← HXE.out]; exact hr) (by rw [← HXE.out]; exact of_decide_eq_false hm))
            clear hm hr
            go_wp2_with (go_at_call 74; refine HC.out.mono ?_; rintro e w2 ⟨rfl, rfl⟩)
            go_roundw
            case rel => exact ⟨j + 1, by omega, by go_num, HN2.out, (by first | rfl | trivial)⟩
            case measure => simp [intOf]; omega
        · have HF : Hid (false = t) := Lib.hid (HR.out j hlt (by rw [← HXE.out]; omega)).symm
          by_cases hx0 : x < 0
          · have r1 : decide (x < 0) = true := decide_eq_true hx0
            clear hr
            go_wp2
            go_ret
            exact ⟨ret_b HF.out, HKW.out⟩
          · have r1 : decide (x < 0) = false := decide_eq_false hx0
            have r2 : decide (4095 < x) = true := decide_eq_true (by omega)
            clear hr hx0
            go_wp2
            go_ret
            exact ⟨ret_b HF.out, HKW.out⟩
      · obtain rfl : j = BS.length := by omega
        obtain ⟨c0, c1, c2⟩ := cells3 HBX.out
        have HNE := Lib.hid (fun W => iNeed_any s W h0 h1)
        by_cases hn : (BS.length : Int) = need28 s
        · have HE := Lib.hid (HED.out HNO.out hn)
          have d3 : ((BS.length : Int) == need28 s) = true := by rw [hn]; simp
          have HEX := Lib.hid (fun W (hk : Kept NoB wr W) => extents_any _ BS _ W (HO.out.kept hk (fun _ _ _ h => h)) (by omega))
          have HKc := Lib.hid (Kept.refl NoB wr)
          clear hn
          go_wp2
          go_region_held3 (fun w' => w'.cell? ⟨w.heap.size, 1, none⟩ = some (.int .i64 s) ∧ w'.cell? ⟨w.heap.size, 2, none⟩ = some (.slice a l.length cap))
            (first
              | exact ⟨cell_drew c1, cell_drew c2⟩
              | exact ⟨HKc.out.cell (p := ⟨w.heap.size, 1, none⟩) (fun h => h) c1, HKc.out.cell (p := ⟨w.heap.size, 2, none⟩) (fun h => h) c2⟩
              | go_keep)
            (first
              | (go_at_call 46; refine (HNE.out _).mono ?_; rintro e w2 ⟨rfl, rfl⟩)
              | (go_at_call 73; refine (HEX.out _ (by first | exact HKc.out | exact HKc.out.drew)).mono ?_; rintro e w3 ⟨a3, e3, rfl, ho3, hk3⟩; have HO3 := Lib.hid ho3.sl; replace HKc := Lib.hid ((by first | exact HKc.out.trans hk3 (fun _ _ h => h) | exact HKc.out.drew.trans hk3 (fun _ _ h => h))); have HX3 := Lib.hid (HXX.out.no HKc.out); clear ho3 hk3)
              | (go_at_call 63; refine (EqX_any _ _ _ _ _ _ _ HO3.out HX3.out).mono ?_; rintro e w4 ⟨rfl, hk4⟩; replace HKc := Lib.hid (HKc.out.trans hk4 (fun _ _ h => h)); clear hk4))
          all_goals
            go_wp2
            go_ret
            exact ⟨ret_b HE.out.symm, HKW.out.trans HKc.out (fun _ _ h => h)⟩
        · have HF : Hid (false = t) := Lib.hid (HND.out hn).symm
          have d3 : ((BS.length : Int) == need28 s) = false := by rw [beq_eq_false_iff_ne]; exact hn
          clear hn
          go_wp2
          go_quiet ((go_at_call 46; refine Calls.quiet_of_same ((HNE.out _).mono (by rintro e w6 ⟨rfl, rfl⟩; exact ⟨rfl, rfl⟩))))
          go_wp2
          go_ret
          exact ⟨ret_b HF.out, HKW.out.drewN _⟩
end Go.Proofs.Ytbacnkndllifaaa
