/-
  The chapter's bitmaps: Take.
-/
import Derived.Test.YtbacnkndllifaaaBitJ
namespace Go.Proofs.Ytbacnkndllifaaa
open Go.RowKit
set_option linter.unusedVariables false

set_option maxRecDepth 100000 in
theorem rTake27_any (v : Value) (l : List Int) (F : Nat → Prop) (n k : Int) (w : World) (h : BSl w F v l) :
    Calls Try.prog 27 #[v, .int .i64 n, .int .i64 k] w (TakeE (tkE l n k) (TkM l n k) (tkT l n k) w) := by
  have HF := Lib.hid (rFits_any v l F n w h)
  cases hf : fitB l n with
  | false =>
    rw [hf] at HF
    have he : tkE l n k = 4 := by simp [tkE, hf]
    have HP : Hid (TkM l n k []) := Lib.hid (by simp [TkM, he])
    rw [he, show tkT l n k = [] by simp [tkT, he]]
    clear hf h he
    go_enter Try.func27, Try.ntmps27
    go_wp2_with (go_at_call 19; refine HF.out.mono ?_; rintro e w' ⟨rfl, rfl⟩)
    go_ret3
    exact TakeE.nil HP.out (Kept.refl _ _)
  | true =>
    rw [hf] at HF
    obtain ⟨n', rfl, hn4, hl, hbz⟩ := fitB_nat hf
    by_cases hk0 : k < 0
    · have he : tkE l n' k = 1 := by simp [tkE, hf, hk0]
      have HP : Hid (TkM l n' k []) := Lib.hid (by simp [TkM, he])
      rw [he, show tkT l n' k = [] by simp [tkT, he]]
      clear hf h he hl hbz
      go_enter Try.func27, Try.ntmps27
      go_wp2_with (go_at_call 19; refine HF.out.mono ?_; rintro e w' ⟨rfl, rfl⟩)
      go_ret3
      exact TakeE.nil HP.out (Kept.refl _ _)
    · obtain ⟨q, rfl⟩ := Int.eq_ofNat_of_zero_le (show 0 ≤ k by omega)
      have hbo := hadL_both (bitN l) n'
      have hfl : (frL l n').length = n' - (hadL (bitN l) n').length := by unfold frL; omega
      have HSP : Hid (¬ q ≤ (frL l n').length → tkE l n' q = 16 ∧ TkM l n' q [] ∧ tkT l n' q = []) := Lib.hid (fun hq => by
        have he : tkE l n' q = 16 := by
          unfold tkE
          rw [hf, if_pos rfl, if_neg (by omega), if_pos (by rw [Int.toNat_natCast]; omega)]
        exact ⟨he, by simp [TkM, he], by simp [tkT, he]⟩)
      have HOK : Hid (q ≤ (frL l n').length → tkE l n' q = 0 ∧ tkT l n' q = (frL l n').take q ∧ ∀ M, BM (fun j => decide ((j : Int) ∈ hadL (bitN l) n' ++ (frL l n').take q)) n' M → TkM l n' q M) := Lib.hid (fun hq => by
        have he : tkE l n' q = 0 := by
          unfold tkE
          rw [hf, if_pos rfl, if_neg (by omega), if_neg (by rw [Int.toNat_natCast]; omega)]
        have hT : tkT l n' q = (frL l n').take q := by simp [tkT, he]
        refine ⟨he, hT, fun M hM => ?_⟩
        unfold TkM; rw [if_pos he, hT, Int.toNat_natCast]
        refine hM.cong fun j hj => ?_
        have hm := memNat (f := bitN l) (n := n') (j := j)
        rw [decide_eq_true hj, Bool.true_and] at hm
        rw [← hm, Bool.eq_iff_iff]
        simp only [List.mem_append, decide_eq_true_eq, Bool.or_eq_true])
      have HLI : Hid (∀ W, Kept NoB w W → Calls Try.prog 23 #[v, .int .i64 (n' : Int)] W (ListE (hadL (bitN l) n') W)) := Lib.hid (fun W hk => by
        have := rList27_any v l F n' W (h.kept hk (fun _ _ h => h))
        rwa [had27_yes hf] at this)
      have HHAS : Hid (∀ (j : Nat) W, j ≤ 4096 → Kept NoB w W → Calls Try.prog 21 #[v, .int .i64 (j : Int)] W fun e w' => e = .returned (.bool (bitN l j)) ∧ W = w') := Lib.hid (fun j W hj hk => by
        have := rHas27_any v l F j W (h.kept hk (fun _ _ h => h)) (by omega)
        rwa [bitI_nat] at this)
      have HLL := Lib.hid (hadL_len (bitN l) n')
      have HALL : Hid (∀ x ∈ hadL (bitN l) n' ++ (frL l n').take q, 0 ≤ x ∧ x < (n' : Int)) := Lib.hid (fun x hx => by
        rcases List.mem_append.1 hx with hx | hx
        · obtain ⟨i, rfl, h2, _⟩ := hadL_mem.1 hx
          omega
        · obtain ⟨i, rfl, h2, _⟩ := hadL_mem.1 (List.mem_of_mem_take hx)
          omega)
      have HBB := Lib.hid (byt_lt n')
      obtain ⟨er, her⟩ : ∃ er, er = tkE l n' q := ⟨_, rfl⟩
      obtain ⟨TT, hTT⟩ : ∃ TT, TT = tkT l n' q := ⟨_, rfl⟩
      rw [← her, ← hTT] at HSP HOK ⊢
      obtain ⟨HD, hHD⟩ : ∃ HD, HD = hadL (bitN l) n' := ⟨_, rfl⟩
      rw [← hHD] at HOK HLI HLL HALL
      clear hf h hl hbz hbo hfl her hTT hHD
      go_enter Try.func27, Try.ntmps27
      go_wp2_with (go_at_call 19; refine HF.out.mono ?_; rintro e w' ⟨rfl, rfl⟩)
      go_loopw [9, 10] (fun u i wr => ∃ (j : Nat) (T : List Int) (a : Option Addr) (c : Nat), j ≤ n' ∧ i = .int .i64 j ∧ u = .slice a T.length c ∧ T = frL l j ∧ IOwn w.heap.size wr (.slice a T.length c) T ∧ Kept NoB w wr) (fun _ i _ => n' - (intOf i).toNat)
      case atStart => exact ⟨0, [], _, _, by omega, rfl, rfl, rfl, IOwn.nil _ _, Kept.refl _ _⟩
      case round =>
        obtain ⟨j, T, a, c, hj, rfl, rfl, hT, hown, hkk⟩ := hrel
        have HO := Lib.hid hown
        have HK := Lib.hid hkk
        have HTE := Lib.hid hT
        have htj : T.length ≤ j := by rw [hT]; exact hadL_len _ _
        have hsz := hkk.size
        clear hown hkk hT
        by_cases hlt : j < n'
        · have HH := Lib.hid (HHAS.out j wr (by omega) HK.out)
          cases hm2 : bitN l j with
          | true =>
            rw [hm2] at HH
            have HF2 : Hid (T = frL l (j + 1)) := Lib.hid (by unfold frL; rw [hadL_no (f := fun i => !bitN l i) (by simp [hm2])]; exact HTE.out)
            clear hm2
            go_wp2_with (go_at_call 21; refine HH.out.mono ?_; rintro e w' ⟨rfl, rfl⟩)
            go_roundw
            case rel => exact ⟨j + 1, T, a, c, by omega, by go_num, rfl, HF2.out, HO.out, HK.out⟩
            case measure => simp [intOf]; omega
          | false =>
            rw [hm2] at HH
            have HF2 : Hid (T ++ [(j : Int)] = frL l (j + 1)) := Lib.hid (by unfold frL; rw [hadL_yes (f := fun i => !bitN l i) (by simp [hm2])]; rw [HTE.out]; rfl)
            have HO1 := Lib.hid (row_keptI HO.out ((Kept.refl NoB wr).alloc (.cells #[.int .i64 (j : Int)] 3)) (fun _ _ h => h))
            have HON := Lib.hid (nsl_one (heap_alloc_new wr (.cells #[.int .i64 (j : Int)] 3)))
            have HSZ : Hid (w.heap.size ≤ (wr.alloc (.cells #[.int .i64 (j : Int)] 3)).heap.size) := Lib.hid (by simp; omega)
            clear hm2
            go_wp2_with (first
              | (go_at_call 21; refine HH.out.mono ?_; rintro e w' ⟨rfl, rfl⟩)
              | (at_builtin; refine wpList_append_nsl _ rfl (.tmp 26) (.tmp 28) rfl w.heap.size (.slice a T.length c) T rfl HO1.out (fun _ => True) (.slice (some ⟨wr.heap.size, 0, none⟩) 1 1) [(j : Int)] rfl HON.out (by simp; omega) HSZ.out ?_; intro a1 e1 w5 hown1 hg1 hat1; have HP1 := Lib.hid hown1; have HK5 := Lib.hid (put_ints (x := 0) (Nat.le_refl _) HK.out _ hg1 (fun b hb => (World.ownsRow.lt HO1.out b hb).1)); clear hown1 hg1 hat1))
            go_roundw
            case rel => exact ⟨j + 1, T ++ [(j : Int)], a1, e1, by omega, by go_num, (by rw [List.length_append]; rfl), HF2.out, (by rw [List.length_append]; exact HP1.out), HK5.out⟩
            case measure => simp [intOf]; omega
        · obtain rfl : j = n' := by omega
          rw [← HTE.out] at HSP HOK HALL
          by_cases hq : q ≤ T.length
          · obtain ⟨he, hTT, hM⟩ := HOK.out hq
            have HM := Lib.hid hM
            have HHE := Lib.hid he
            have HTT := Lib.hid hTT
            have hd : decide ((T.length : Int) < (q : Int)) = false := decide_eq_false (by omega)
            have hd2 : decide (T.length < q) = false := decide_eq_false (by omega)
            have HNT : Hid (NSl wr (fun b => w.heap.size ≤ b ∧ b < wr.heap.size) (.slice a q c) (T.take q)) := Lib.hid ((nsl_take HO.out.nslB hq).mono (fun b h1 h2 => ⟨h2, h1⟩))
            have hTc := HO.out.nslB.len
            have hqc : (q : Int) ≤ (c : Int) := by omega
            have hcm : (c : Int) ≤ 9223372036854775807 := by have := hTc.2.2; unfold maxLen at this; omega
            have hq0 : (0 : Int) ≤ (q : Int) := by omega
            have htl : (T.take q).length = q := by rw [List.length_take]; omega
            obtain ⟨TQ, hTQ⟩ : ∃ TQ, TQ = T.take q := ⟨_, rfl⟩
            rw [← hTQ] at htl HNT HM HTT HALL
            have HTL := Lib.hid htl
            clear he hTT hM hTc htl hTQ
            go_wp2
            go_region_law (first
              | (go_simp; go_at_call 23; refine (HLI.out _ (by first | exact HK.out | exact HK.out.drew)).mono ?_; rintro e w5 ⟨a5, c5, rfl, ho5, hk5⟩; have HO5 := Lib.hid (ho5.low (C := wr.heap.size) (Nat.le_refl _)); have HK5 := Lib.hid (HK.out.drew.trans hk5 (fun _ _ h => h)); have HNT5 := Lib.hid (HNT.out.kept (S := NoB) (w' := w5) ((Kept.refl NoB wr).drew.trans hk5 (fun _ _ h => h)) (fun _ _ _ h => h)); have hsz5 := hk5.size; clear ho5 hk5)
              | (refine step_append_nsl _ (by rfl) (.tmp 36) (.tmp 39) (by rfl) wr.heap.size (.slice a5 HD.length c5) HD (by rfl) HO5.out _ (.slice a q c) TQ (by rfl) HNT5.out (by have := HLL.out; rw [HTL.out]; omega) hsz5 ?_; intro a6 e6 w6 hown6 hg6 hat6; have HO6 := Lib.hid hown6; have HK6 := Lib.hid (HK5.out.grown hg6 (fun b hb => .inr (by have := (World.ownsRow.lt HO5.out b hb).1; omega))); have HNT6 := Lib.hid (HNT5.out.kept (S := fun b => some b = (Value.slice a5 HD.length c5).ownBlock) ((Kept.refl _ w5).grown hg6 (fun b hb => .inl hb.symm)) (fun b h1 h2 h3 => by have := (World.ownsRow.lt HO5.out b h3.symm).1; omega)); clear hown6 hg6 hat6)
              | (go_simp; go_at_call 55; refine (Of27_any _ (HD ++ TQ) _ j w6 HO6.out.nslB (by have h1 := HLL.out; have h2 := HTL.out; rw [List.length_append]; omega) hn4 HALL.out).mono ?_; rintro e w7 ⟨M, rfl, hb, hbm, hk⟩; have HB7 := Lib.hid hb; have HBM7 := Lib.hid hbm; have HK7 := Lib.hid (HK6.out.trans hk (fun _ _ h => h)); have HNT7 := Lib.hid (HNT6.out.kept hk (fun _ _ _ h => h)); clear hb hbm hk))
            have HEE := Lib.hid (bytB_bsl (w := w) HB7.out HK6.out.size (by have := HBM7.out.len; have := HBB.out; omega))
            go_wp2
            go_ret3
            rw [HHE.out, HTT.out]
            refine ⟨some ⟨w6.heap.size, 0, none⟩, M.length, a, c, M, (by rw [HTL.out] <;> rfl), HM.out M HBM7.out, HEE.out, ?_, HK7.out⟩
            rw [HTL.out]
            exact HNT7.out.mono (fun b _ h => h.1)
          · obtain ⟨he, hM, hTT⟩ := HSP.out hq
            have HM := Lib.hid hM
            have HHE := Lib.hid he
            have hd : decide ((T.length : Int) < (q : Int)) = true := decide_eq_true (by omega)
            have hd2 : decide (T.length < q) = true := decide_eq_true (by omega)
            subst hTT
            clear he hM
            go_wp2
            go_ret3
            rw [HHE.out]
            exact TakeE.nil HM.out HK.out
end Go.Proofs.Ytbacnkndllifaaa
