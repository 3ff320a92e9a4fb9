/-
  The chapter's bitmaps: Give.
-/
import Derived.Test.YtbacnkndllifaaaBitK
namespace Go.Proofs.Ytbacnkndllifaaa
open Go.RowKit
set_option linter.unusedVariables false

/-- The numbers that are had and not given back. -/
def lf27 (H L : List Int) : List Int := H.filter fun y => !decide (y ∈ L)
theorem lf27_nil (H : List Int) : lf27 H [] = H := by unfold lf27; simp
theorem lf27_snoc (H L : List Int) (x : Int) : lf27 H (L ++ [x]) = wo27 (lf27 H L) x := by
  unfold lf27 wo27
  rw [List.filter_filter]
  refine List.filter_congr fun y _ => ?_
  by_cases h1 : y ∈ L <;> by_cases h2 : y = x <;> simp [h1, h2]
theorem lf27_mem {H L : List Int} {y : Int} : y ∈ lf27 H L ↔ y ∈ H ∧ ¬ y ∈ L := by unfold lf27; simp
theorem lf27_len (H L : List Int) : (lf27 H L).length ≤ H.length := List.length_filter_le _ _
set_option maxRecDepth 100000 in
theorem rGive27_any (v u : Value) (l L : List Int) (F G : Nat → Prop) (n : Int) (w : World) (h : BSl w F v l) (hL : NSl w G u L) (hlen : L.length ≤ 5000) (hbd : ∀ x ∈ L, x ≤ 9223372036854775807) :
    Calls Try.prog 29 #[v, .int .i64 n, u] w (GiveE (gv27 l n L) (GvM l n L) w) := by
  have HF := Lib.hid (rFits_any v l F n w h)
  cases hf : fitB l n with
  | false =>
    rw [hf] at HF
    have he : gv27 l n L = 4 := by simp [gv27, hf]
    have HP : Hid (GvM l n L []) := Lib.hid (by simp [GvM, he])
    rw [he]
    clear hf h he hL
    go_enter Try.func29, Try.ntmps29
    go_wp2_with (go_at_call 19; refine HF.out.mono ?_; rintro e w' ⟨rfl, rfl⟩)
    go_ret2
    exact GiveE.nil rfl HP.out (Kept.refl _ _)
  | true =>
    rw [hf] at HF
    obtain ⟨n', rfl, hn4, hl, hbz⟩ := fitB_nat hf
    have HE0 : Hid (gv27 l n' L = gvE (bitN l) n' [] L) := Lib.hid (by simp [gv27, hf])
    have HP : Hid (∀ M, gv27 l n' L = 0 → BM (fun j => decide ((j : Int) ∈ lf27 (hadL (bitN l) n') L)) n' M → GvM l n' L M) := Lib.hid (fun M he hM => by
      unfold GvM; rw [if_pos he]
      refine hM.cong fun j hj => ?_
      have hm := memNat (f := bitN l) (n := n') (j := j)
      have hj' : j < n' := by simpa using hj
      rw [decide_eq_true hj', Bool.true_and] at hm
      rw [← hm, Bool.eq_iff_iff]
      simp [lf27_mem])
    have HPN : Hid (gv27 l n' L ≠ 0 → GvM l n' L []) := Lib.hid (fun he => by unfold GvM; rw [if_neg he])
    have HMEM : Hid (∀ (k : Nat) D, k < n' → decide ((k : Int) ∈ lf27 (hadL (bitN l) n') D) = (bitN l k && !decide ((k : Int) ∈ D))) := Lib.hid (fun k D hk => by
      have hm := memNat (f := bitN l) (n := n') (j := k)
      rw [decide_eq_true hk, Bool.true_and] at hm
      rw [← hm, Bool.eq_iff_iff]
      simp [lf27_mem])
    obtain ⟨er, her⟩ : ∃ er, er = gv27 l n' L := ⟨_, rfl⟩
    rw [← her] at HE0 HP HPN ⊢
    have HLI : Hid (Calls Try.prog 23 #[v, .int .i64 (n' : Int)] w (ListE (hadL (bitN l) n') w)) := Lib.hid (by
        have := rList27_any v l F n' w h
        rwa [had27_yes hf] at this)
    have HLL := Lib.hid (hadL_len (bitN l) n')
    have HALL : Hid (∀ x ∈ lf27 (hadL (bitN l) n') L, 0 ≤ x ∧ x < (n' : Int)) := Lib.hid (fun x hx => by
        obtain ⟨i, rfl, h2, _⟩ := hadL_mem.1 (lf27_mem.1 hx).1
        omega)
    have HBB := Lib.hid (byt_lt n')
    obtain ⟨HD, hHD⟩ : ∃ HD, HD = hadL (bitN l) n' := ⟨_, rfl⟩
    rw [← hHD] at HLI HP HLL HALL HMEM
    have HBD := Lib.hid hbd
    obtain ⟨au, cu, rfl, _⟩ := id hL
    have HL := Lib.hid hL
    clear hf h hl hbz her hbd hL hHD
    go_enter Try.func29, Try.ntmps29
    go_wp2_with (first
      | (go_at_call 19; refine HF.out.mono ?_; rintro e w' ⟨rfl, rfl⟩)
      | (go_at_call 23; refine HLI.out.mono ?_; rintro e w2 ⟨a2, c2, rfl, ho, hk⟩; have HO := Lib.hid ho; have HK2 := Lib.hid hk; clear ho hk))
    go_loopw [8, 9] (fun t i wr => ∃ (j : Nat) (a : Option Addr) (c : Nat), j ≤ L.length ∧ i = .int .i64 j ∧ er = gvE (bitN l) n' (L.take j) (L.drop j) ∧ t = .slice a (lf27 HD (L.take j)).length c ∧ IOwn w.heap.size wr (.slice a (lf27 HD (L.take j)).length c) (lf27 HD (L.take j)) ∧ Kept NoB w wr) (fun _ i _ => L.length - (intOf i).toNat)
    case atStart => exact ⟨0, a2, c2, by omega, rfl, by rw [HE0.out]; rfl, by rw [List.take_zero, lf27_nil], by rw [List.take_zero, lf27_nil]; exact HO.out, HK2.out⟩
    case round =>
      obtain ⟨j, a, c, hj, rfl, her, rfl, hown, hkk⟩ := hrel
      obtain ⟨T, hT⟩ : ∃ T, T = lf27 HD (L.take j) := ⟨_, rfl⟩
      rw [← hT] at hown ⊢
      have HO3 := Lib.hid hown
      have HKK := Lib.hid hkk
      have HER := Lib.hid her
      have HTE := Lib.hid hT
      have HTL : Hid (T.length ≤ 4096) := Lib.hid (by rw [hT]; have := lf27_len HD (L.take j); have := HLL.out; omega)
      clear hown hkk her hT
      by_cases hlt : j < L.length
      · obtain ⟨b, o, rfl, _, hb, hcell⟩ := (HL.out.kept HKK.out (fun _ _ _ h => h)).at_ hlt
        have hxb := HBD.out (L.getD j 0) (by rw [List.getD_eq_getElem?_getD, List.getElem?_eq_getElem hlt]; exact List.getElem_mem hlt)
        obtain ⟨x, hx⟩ : ∃ x, x = L.getD j 0 := ⟨_, rfl⟩
        rw [← hx] at hcell hxb
        have HX := Lib.hid hx
        have hj0 : (0 : Int) ≤ (j : Int) := by omega
        have hj1 : (j : Int) < (L.length : Int) := by omega
        clear hx
        by_cases hr : x < 0 ∨ (n' : Int) ≤ x
        · have HR : Hid (er = 20 ∧ er ≠ 0) := Lib.hid (by have := HER.out; rw [gvE_range hlt (by rw [← HX.out]; exact hr)] at this; exact ⟨this, by rw [this]; decide⟩)
          by_cases h0 : x < 0
          · clear hr
            go_wp2
            go_ret2
            exact GiveE.nil HR.out.1 (HPN.out HR.out.2) HKK.out
          · have h1 : 0 ≤ x := by omega
            have h2 : (n' : Int) ≤ x := by omega
            have h3 : decide (x < 0) = false := decide_eq_false h0
            clear hr h0
            go_wp2
            go_ret2
            exact GiveE.nil HR.out.1 (HPN.out HR.out.2) HKK.out
        · obtain ⟨k, rfl⟩ := Int.eq_ofNat_of_zero_le (show 0 ≤ x by omega)
          have hkn : k < n' := by omega
          have h1 : (0 : Int) ≤ (k : Int) := by omega
          have h2 : ¬ (n' : Int) ≤ (k : Int) := by omega
          have HWO := Lib.hid (without_any (.slice a T.length c) T _ (k : Int) wr HO3.out.nslB (by have := HTL.out; omega))
          have hmem := HMEM.out k (L.take j) hkn
          rw [← HTE.out] at hmem
          have HT2 : Hid (wo27 T (k : Int) = lf27 HD (L.take (j + 1))) := Lib.hid (by rw [take_snoc hlt, ← HX.out, lf27_snoc, ← HTE.out])
          clear hr
          cases hm2 : decide ((k : Int) ∈ T) with
          | true =>
            rw [hm2] at HWO hmem
            have HER2 : Hid (er = gvE (bitN l) n' (L.take (j + 1)) (L.drop (j + 1))) := Lib.hid (by rw [HER.out, gvE_step hlt HX.out.symm hkn hmem.symm])
            have hsz := HKK.out.size
            clear hm2 hmem
            go_wp2_with (go_at_call 54; refine HWO.out.mono ?_; rintro e w4 ⟨a4, c4, rfl, ho4, hk4⟩; have HO4 := Lib.hid (ho4.low (C := w.heap.size) hsz); have HK4 := Lib.hid (HKK.out.trans hk4 (fun _ _ h => h)); clear ho4 hk4)
            go_roundw
            case rel => exact ⟨j + 1, a4, c4, by omega, by go_num, HER2.out, by rw [← HT2.out], by rw [← HT2.out]; exact HO4.out, HK4.out⟩
            case measure => simp [intOf]; omega
          | false =>
            rw [hm2] at HWO hmem
            have HR : Hid (er = 7 ∧ er ≠ 0) := Lib.hid (by have := HER.out; rw [gvE_none hlt HX.out.symm hkn hmem.symm] at this; exact ⟨this, by rw [this]; decide⟩)
            clear hm2 hmem
            go_wp2_with (go_at_call 54; refine HWO.out.mono ?_; rintro e w4 ⟨a4, c4, rfl, ho4, hk4⟩; have HK4 := Lib.hid (HKK.out.trans hk4 (fun _ _ h => h)); clear ho4 hk4)
            go_ret2
            exact GiveE.nil HR.out.1 (HPN.out HR.out.2) HK4.out
      · obtain rfl : j = L.length := by omega
        have HR : Hid (er = 0) := Lib.hid (by rw [HER.out, gvE_end])
        have HTX : Hid (T = lf27 HD L) := Lib.hid (by rw [HTE.out, List.take_length])
        have HOF := Lib.hid (Of27_any _ T _ n' wr HO3.out.nslB (by have := HTL.out; omega) hn4 (by rw [HTX.out]; exact HALL.out))
        clear hlt
        go_wp2_with (go_at_call 55; refine HOF.out.mono ?_; rintro e w7 ⟨M, rfl, hb, hbm, hk⟩; have HB7 := Lib.hid hb; have HBM7 := Lib.hid hbm; have HK7 := Lib.hid (HKK.out.trans hk (fun _ _ h => h)); clear hb hbm hk)
        have HX := Lib.hid (HP.out M HR.out (by rw [← HTX.out]; exact HBM7.out))
        have HEE := Lib.hid (bytB_bsl (w := w) HB7.out HKK.out.size (by have := HBM7.out.len; have := HBB.out; omega))
        go_ret2
        rw [HR.out]
        exact ⟨some ⟨wr.heap.size, 0, none⟩, M.length, M, rfl, HX.out, HEE.out, HK7.out⟩
end Go.Proofs.Ytbacnkndllifaaa
