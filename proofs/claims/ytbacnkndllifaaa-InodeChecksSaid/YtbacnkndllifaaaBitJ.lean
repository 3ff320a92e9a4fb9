/-
  The chapter's bitmaps: Set, Take, Give.
-/
import Derived.Test.YtbacnkndllifaaaBitI
import Derived.Deep.RegionLaw
namespace Go.Proofs.Ytbacnkndllifaaa
open Go.RowKit
set_option linter.unusedVariables false

theorem memNat {f : Nat → Bool} {n j : Nat} : decide ((j : Int) ∈ hadL f n) = (decide (j < n) && f j) := by
  by_cases h : (j : Int) ∈ hadL f n
  · rw [decide_eq_true h]
    obtain ⟨i, h1, h2, h3⟩ := hadL_mem.1 h
    obtain rfl : j = i := by omega
    simp [h2, h3]
  · rw [decide_eq_false h]
    by_cases h2 : j < n
    · have : f j = false := by
        cases hf : f j
        · rfl
        · exact absurd (hadL_mem.2 ⟨j, rfl, h2, hf⟩) h
      simp [this]
    · simp [h2]
theorem wo27_mem {L : List Int} {x y : Int} : y ∈ wo27 L x ↔ y ∈ L ∧ y ≠ x := by unfold wo27; simp
set_option maxRecDepth 100000 in
theorem rSet27_any (v : Value) (l : List Int) (F : Nat → Prop) (n i : Int) (on : Bool) (w : World) (h : BSl w F v l) :
    Calls Try.prog 14 #[v, .int .i64 n, .int .i64 i, .bool on] w (BErr (set27E l n i) (set27L l n i on) w) := by
  have HF := Lib.hid (rFits_any v l F n w h)
  cases hf : fitB l n with
  | false =>
    rw [hf] at HF
    rw [show set27E l n i = 4 by simp [set27E, hf], show set27L l n i on = [] by simp [set27L, hf]]
    clear hf h
    go_enter Try.func14, Try.ntmps14
    go_wp2_with (go_at_call 19; refine HF.out.mono ?_; rintro e w' ⟨rfl, rfl⟩)
    go_ret2
    exact BErr.mk (BSl.nil _ (fun _ => False)) (fun _ h => h.elim) (Kept.refl _ _)
  | true =>
    rw [hf] at HF
    by_cases hi : 0 ≤ i ∧ i < n
    · obtain ⟨n', rfl, hn4, hl, hbz⟩ := fitB_nat hf
      obtain ⟨k, rfl⟩ := Int.eq_ofNat_of_zero_le hi.1
      have hkn : k < n' := by omega
      rw [show set27E l n' k = 0 by simp [set27E, hf]; omega, show set27L l n' k on = turnB (wholeB l n') k on by simp [set27L, hf]; omega]
      have HL := Lib.hid (rList27_any v l F n' w h)
      rw [had27_yes hf] at HL
      have HBM := Lib.hid ((wholeB_BM h.isB hl hbz).turn hkn on)
      have hlen := hadL_len (bitN l) n'
      have HMEM : Hid (∀ j : Nat, j < n' → (decide ((j : Int) ∈ if on then wo27 (hadL (bitN l) n') k ++ [(k : Int)] else wo27 (hadL (bitN l) n') k) = if j = k then on else bitN l j)) := Lib.hid (fun j hj => by
        have hm := memNat (f := bitN l) (n := n') (j := j)
        rw [decide_eq_true hj, Bool.true_and] at hm
        rw [← hm]
        by_cases e : j = k
        · subst e
          cases on <;> simp [wo27_mem]
        · have e2 : ¬ (j : Int) = (k : Int) := by omega
          cases on <;> simp [wo27_mem, e, e2])
      have HALL : Hid (∀ x ∈ (if on then wo27 (hadL (bitN l) n') k ++ [(k : Int)] else wo27 (hadL (bitN l) n') k), 0 ≤ x ∧ x < (n' : Int)) := Lib.hid (fun x hx => by
        have : x ∈ hadL (bitN l) n' ∨ x = (k : Int) := by
          cases on
          · exact .inl (wo27_mem.1 hx).1
          · rcases List.mem_append.1 hx with hx | hx
            · exact .inl (wo27_mem.1 hx).1
            · exact .inr (List.mem_singleton.1 hx)
        rcases this with h | rfl
        · obtain ⟨i, rfl, h2, _⟩ := hadL_mem.1 h
          omega
        · omega)
      obtain ⟨L, hL⟩ : ∃ L, L = hadL (bitN l) n' := ⟨_, rfl⟩
      rw [← hL] at HL HMEM HALL hlen
      obtain ⟨B, hB⟩ : ∃ B, B = turnB (wholeB l n') k on := ⟨_, rfl⟩
      rw [← hB] at HBM ⊢
      have h0 : (0 : Int) ≤ (k : Int) := by omega
      have h1 : (k : Int) < (n' : Int) := by omega
      have hwl := wo27_len L k
      have HWL := Lib.hid hwl
      have HBB := Lib.hid (byt_lt n')
      clear hf h hi hL hB hl hbz
      cases on with
      | false =>
        simp only [Bool.false_eq_true, if_false] at HMEM HALL
        go_enter Try.func14, Try.ntmps14
        go_wp2_with (first
          | (go_at_call 19; refine HF.out.mono ?_; rintro e w' ⟨rfl, rfl⟩)
          | (go_at_call 23; refine HL.out.mono ?_; rintro e w1 ⟨a1, c1, rfl, ho, hk⟩; have HO := Lib.hid ho; have HK := Lib.hid hk; clear ho hk)
          | (go_at_call 54; refine (without_any _ L _ (k : Int) w1 HO.out.nslB (by omega)).mono ?_; rintro e w2 ⟨a2, c2, rfl, ho, hk⟩; have HO2 := Lib.hid ho; have HK2 := Lib.hid (HK.out.trans hk (fun _ _ h => h)); clear ho hk)
          | (go_at_call 55; refine (Of27_any _ (wo27 L k) _ n' w2 HO2.out.nslB (by have := HWL.out; omega) hn4 HALL.out).mono ?_; rintro e w3 ⟨M, rfl, hb, hbm, hk⟩; have HB3 := Lib.hid hb; have HBM3 := Lib.hid hbm; have HK3 := Lib.hid (HK2.out.trans hk (fun _ _ h => h)); clear hb hbm hk))
        go_ret2
        have e := HBM3.out.uniq HBM.out (fun j hj => by rw [← HMEM.out j hj])
        have hml := HBM3.out.len
        subst e
        exact BErr.mk (bytB_bsl HB3.out HK2.out.size (by have := HBB.out; omega)) (fun _ h => h) HK3.out
      | true =>
        simp only [if_true] at HMEM HALL
        go_enter Try.func14, Try.ntmps14
        go_wp2_with (first
          | (go_at_call 19; refine HF.out.mono ?_; rintro e w' ⟨rfl, rfl⟩)
          | (go_at_call 23; refine HL.out.mono ?_; rintro e w1 ⟨a1, c1, rfl, ho, hk⟩; have HO := Lib.hid ho; have HK := Lib.hid hk; clear ho hk)
          | (go_at_call 54; refine (without_any _ L _ (k : Int) w1 HO.out.nslB (by omega)).mono ?_; rintro e w2 ⟨a2, c2, rfl, ho, hk⟩; have HO2 := Lib.hid (row_keptI ho ((Kept.refl NoB w2).alloc (.cells #[.int .i64 (k : Int)] 3)) (fun _ _ h => h)); have HON := Lib.hid (nsl_one (heap_alloc_new w2 (.cells #[.int .i64 (k : Int)] 3))); (have HSZ : Hid (w1.heap.size ≤ (w2.alloc (.cells #[.int .i64 (k : Int)] 3)).heap.size) := Lib.hid (by have := hk.size; simp; omega)); have HK2 := Lib.hid (HK.out.trans hk (fun _ _ h => h)); clear ho hk)
          | (at_builtin; refine wpList_append_nsl _ rfl (.tmp 32) (.tmp 34) rfl w1.heap.size (.slice a2 (wo27 L k).length c2) (wo27 L k) rfl HO2.out (fun _ => True) (.slice (some ⟨w2.heap.size, 0, none⟩) 1 1) [(k : Int)] rfl HON.out (by have := HWL.out; simp; omega) HSZ.out ?_; intro a3 e3 w3 hown1 hg1 hat1; have HO3 := Lib.hid hown1; have HK3 := Lib.hid ((HK2.out.alloc _).grown hg1 (fun b hb => .inr (Nat.le_trans HK.out.size (World.ownsRow.lt HO2.out b hb).1))); have HO3L : Hid (NSl w3 (fun _ => True) (.slice a3 ((wo27 L k).length + 1) e3) (wo27 L k ++ [(k : Int)])) := Lib.hid (hown1.nsl (fun _ _ => trivial)); clear hown1 hg1 hat1)
          | (go_at_call 55; refine (Of27_any _ (wo27 L k ++ [(k : Int)]) _ n' w3 HO3L.out (by have := HWL.out; simp; omega) hn4 HALL.out).mono ?_; rintro e w4 ⟨M, rfl, hb, hbm, hk⟩; have HB3 := Lib.hid hb; have HBM3 := Lib.hid hbm; have HK4 := Lib.hid (HK3.out.trans hk (fun _ _ h => h)); clear hb hbm hk))
        go_ret2
        have e := HBM3.out.uniq HBM.out (fun j hj => by rw [← HMEM.out j hj])
        have hml := HBM3.out.len
        subst e
        exact BErr.mk (bytB_bsl HB3.out HK3.out.size (by have := HBB.out; omega)) (fun _ h => h) HK4.out
    · rw [show set27E l n i = 20 by simp [set27E, hf]; omega, show set27L l n i on = [] by simp [set27L]; omega]
      by_cases h0 : i < 0
      · clear hf h hi
        go_enter Try.func14, Try.ntmps14
        go_wp2_with (go_at_call 19; refine HF.out.mono ?_; rintro e w' ⟨rfl, rfl⟩)
        go_ret2
        exact BErr.mk (BSl.nil _ (fun _ => False)) (fun _ h => h.elim) (Kept.refl _ _)
      · have h1 : n ≤ i := by omega
        have h2 : 0 ≤ i := by omega
        clear hf h hi h0
        go_enter Try.func14, Try.ntmps14
        go_wp2_with (go_at_call 19; refine HF.out.mono ?_; rintro e w' ⟨rfl, rfl⟩)
        go_ret2
        exact BErr.mk (BSl.nil _ (fun _ => False)) (fun _ h => h.elim) (Kept.refl _ _)
end Go.Proofs.Ytbacnkndllifaaa
