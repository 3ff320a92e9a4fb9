/-
  Layer 27: BitsBack, walked.
-/
import Derived.Test.YtbacnkndllifaaaBitR
import Derived.IntWalk
namespace Go.Proofs.Ytbacnkndllifaaa
open Go.RowKit
set_option linter.unusedVariables false

theorem tkE_zero {l : List Int} {n k : Int} (h : tkE l n k = 0) : fitB l n = true ∧ 0 ≤ k := by
  unfold tkE at h
  cases hf : fitB l n
  · rw [hf] at h; cases h
  · rw [hf, if_pos rfl] at h
    by_cases hk : k < 0
    · rw [if_pos hk] at h; cases h
    · exact ⟨rfl, by omega⟩
theorem rev_snoc27 {T : List Int} {j : Nat} (h : j < T.length) : (T.take (j + 1)).reverse = [T.getD j 0] ++ (T.take j).reverse := by
  rw [take_snoc h, List.reverse_append]; rfl
theorem iown_one27 {w : World} {b : Nat} {x : Int} {B : Nat} (hB : B ≤ b) (hb : w.heap[b]? = some (.cells #[.int .i64 x] 3 (0, 0))) : IOwn B w (.slice (some ⟨b, 0, none⟩) 1 1) [x] :=
  ⟨rfl, .inr ⟨b, 1, #[.int .i64 x], rfl, hB, hb, Nat.le_refl _, by unfold maxLen; omega, rfl, rfl⟩⟩
set_option maxRecDepth 100000 in
theorem BitsBack_far (v : Value) (l : List Int) (n k : Int) (W : World) (h : BSl W (fun k => k < W.heap.size) v l) (h6 : 600 < l.length) :
    Calls Try.prog 5 #[v, .int .i64 n, .int .i64 k] W fun e W' => e = .returned (.bool true) ∧ Kept NoB W W' := by
  obtain ⟨a, cap, rfl, _, hcm, _⟩ := id h
  have HAW := Lib.hid awake27_any
  have hl' : (600 : Int) < (l.length : Int) := by omega
  clear h h6
  go_enter Try.func5, Try.ntmps5
  go_wp2_with (go_at_call 12; refine (HAW.out _).mono ?_; rintro e w' ⟨rfl, hk⟩; have HK := Lib.hid hk; clear hk)
  go_ret
  exact ⟨rfl, HK.out⟩
set_option maxRecDepth 100000 in
theorem BitsBack_no (v : Value) (l : List Int) (n k : Int) (W : World) (h : BSl W (fun k => k < W.heap.size) v l) (h6 : l.length ≤ 600) (he : tkE l n k ≠ 0) :
    Calls Try.prog 5 #[v, .int .i64 n, .int .i64 k] W fun e W' => e = .returned (.bool true) ∧ Kept NoB W W' := by
  obtain ⟨i0, hi0, hz0, hz1, hz2⟩ := info_parts info_u8
  obtain ⟨a, cap, rfl, _, hcm, _⟩ := id h
  have HAW := Lib.hid awake27_any
  have HB := Lib.hid h
  have hl' : decide ((600 : Int) < (l.length : Int)) = false := decide_eq_false (by omega)
  have hl2 : decide (600 < l.length) = false := decide_eq_false (by omega)
  have HT1 := Lib.hid (fun W' (hk : Kept NoB W W') => bTake27_any _ l _ n k W' (h.kept hk (fun _ _ h => h)))
  obtain ⟨er, her⟩ : ∃ er, er = tkE l n k := ⟨_, rfl⟩
  rw [← her] at HT1 he
  have hne : (er != 0) = true := bne_iff_ne.2 he
  clear h her he
  go_enter Try.func5, Try.ntmps5
  go_wp2_with (first
    | (at_builtin; refine wpList_append_bsl _ rfl (.const (.slice none 0 0)) (.tmp 21) 22 rfl 5 i0 _ Try.underlying22 hi0 hz0 hz1 hz2 rfl (.slice none 0 0) 0 [] rfl (World.ownsRow_nil _ _ _ _) _ (.slice a l.length cap) l rfl HB.out (by omega) ?_; intro a1 c1 w1 ho hg hat; rw [Nat.zero_add] at ho; rw [Nat.zero_add]; have HK := Lib.hid ((Kept.refl NoB W).grown hg (fun k hk => by cases hk)); have HWS : Hid (BSl w1 (fun _ => True) (.slice a1 l.length c1) l) := Lib.hid (BSl.ofOwn ho HB.out.isB (fun _ _ => trivial)); have HB1 := Lib.hid (HB.out.kept HK.out (fun _ _ h => h)); clear ho hg hat)
    | (go_at_call 26; refine (HT1.out _ HK.out).mono ?_; rintro e w2 ⟨a2, d2, b2, e2, M2, rfl, _, _, _, hk⟩; replace HK := Lib.hid (HK.out.trans hk (fun _ _ h => h)); replace HWS := Lib.hid (HWS.out.kept hk (fun _ _ h => h)); replace HB1 := Lib.hid (HB1.out.kept hk (fun _ _ h => h)); clear hk)
    | (go_at_call 22; refine (Same_any _ _ l l _ _ _ HB1.out HWS.out).mono ?_; rw [decide_eq_true rfl]; rintro e w5 ⟨rfl, hk⟩; replace HK := Lib.hid (HK.out.trans hk (fun _ _ h => h)); clear hk)
    | (go_at_call 12; refine (HAW.out _).mono ?_; rintro e w' ⟨rfl, hk⟩; replace HK := Lib.hid (HK.out.trans hk (fun _ _ h => h)); clear hk))
  go_ret
  exact ⟨rfl, HK.out⟩

set_option maxRecDepth 100000 in
set_option maxHeartbeats 1000000 in
theorem BitsBack_ok (v : Value) (l : List Int) (n q : Nat) (W : World) (h : BSl W (fun k => k < W.heap.size) v l) (h6 : l.length ≤ 600) (he : tkE l n q = 0) (hf : fitB l (n : Int) = true) (hn : n ≤ 4096) :
    Calls Try.prog 5 #[v, .int .i64 (n : Int), .int .i64 (q : Int)] W fun e W' => e = .returned (.bool true) ∧ Kept NoB W W' := by
  obtain ⟨i0, hi0, hz0, hz1, hz2⟩ := info_parts info_u8
  obtain ⟨a, cap, rfl, _, hcm, _⟩ := id h
  have HAW := Lib.hid awake27_any
  have HB := Lib.hid h
  have hl' : decide ((600 : Int) < (l.length : Int)) = false := decide_eq_false (by omega)
  have hl2 : decide (600 < l.length) = false := decide_eq_false (by omega)
  have HT1 := Lib.hid (fun W' (hk : Kept NoB W W') => bTake27_any _ l _ n q W' (h.kept hk (fun _ _ h => h)))
  have HTK := Lib.hid (fun M hM => tk27_of hf hn he (M := M) hM)
  obtain ⟨T, hT⟩ : ∃ T, T = tkT l n q := ⟨_, rfl⟩
  rw [he] at HT1
  rw [← hT] at HT1 HTK
  have HH1 := Lib.hid (fun (k : Nat) W' (hk : Kept NoB W W') (h4 : k ≤ 4096) => bHas27_any _ l _ (k : Int) W' (h.kept hk (fun _ _ h => h)) (by omega))
  have HL1 := Lib.hid (fun W' (hk : Kept NoB W W') => bList27_any _ l _ n W' (h.kept hk (fun _ _ h => h)))
  have HC1 := Lib.hid (fun W' (hk : Kept NoB W W') => bCount27_any _ l _ n W' (h.kept hk (fun _ _ h => h)))
  have HQ4 : Hid (q ≤ 4096 ∧ (had27 l (n : Int)).length ≤ 4096) := Lib.hid (by
    have h1 := hadL_len (bitN l) n
    have h2 := had27_yes hf
    refine ⟨?_, by rw [h2]; omega⟩
    unfold tkE at he
    rw [hf, if_pos rfl, if_neg (by omega)] at he
    by_cases h : ((n : Int).toNat : Int) - (hadL (bitN l) (n : Int).toNat).length < (q : Int)
    · rw [if_pos h] at he; cases he
    · rw [Int.toNat_natCast] at h; omega)
  clear h he hf hT
  go_enter Try.func5, Try.ntmps5
  go_wp2_with (first
    | (at_builtin; refine wpList_append_bsl _ rfl (.const (.slice none 0 0)) (.tmp 21) 22 rfl 5 i0 _ Try.underlying22 hi0 hz0 hz1 hz2 rfl (.slice none 0 0) 0 [] rfl (World.ownsRow_nil _ _ _ _) _ (.slice a l.length cap) l rfl HB.out (by omega) ?_; intro a1 c1 w1 ho hg hat; rw [Nat.zero_add] at ho; rw [Nat.zero_add]; have HK := Lib.hid ((Kept.refl NoB W).grown hg (fun k hk => by cases hk)); have HWS : Hid (BSl w1 (fun _ => True) (.slice a1 l.length c1) l) := Lib.hid (BSl.ofOwn ho HB.out.isB (fun _ _ => trivial)); have HB1 := Lib.hid (HB.out.kept HK.out (fun _ _ h => h)); clear ho hg hat)
    | (go_at_call 26; refine (HT1.out _ HK.out).mono ?_; rintro e w2 ⟨a2, d2, b2, e2, M, rfl, hM, hb, hn2, hk⟩; have HKX := Lib.hid (HK.out.trans hk (fun _ _ h => h)); have HWX := Lib.hid (HWS.out.kept hk (fun _ _ h => h)); have HBX := Lib.hid (HB1.out.kept hk (fun _ _ h => h)); have HX := Lib.hid (hb.mono (G := fun _ => True) (fun _ _ _ => trivial)); have HN := Lib.hid (hn2.mono (G := fun _ => True) (fun _ _ _ => trivial)); have HTM := Lib.hid (HTK.out M hM); clear hk hM hb hn2))
  have hTl := HTM.out.len
  have hq4 := HQ4.out.1
  clear HK HWS HB1 hi0 hz0 hz1 hz2 HT1 HTK
  go_loopw [11, 12] (fun u i wr => ∃ (j : Nat) (ao : Option Addr) (co : Nat), j ≤ q ∧ i = .int .i64 j ∧ u = .slice ao j co ∧ NSl wr (fun _ => True) (.slice ao j co) (T.take j).reverse ∧ Kept NoB w2 wr) (fun _ i _ => q - (intOf i).toNat)
  case atStart => exact ⟨0, none, 0, by omega, rfl, rfl, NSl.nil _ _, Kept.refl _ _⟩
  case round =>
    obtain ⟨j, ao, co, hj, rfl, rfl, hns, hkk⟩ := hrel
    have HNS := Lib.hid hns
    have HKK := Lib.hid hkk
    clear hns hkk
    by_cases hlt : j < q
    · obtain ⟨k, hk1, hk2, hk3, hk4⟩ := HTM.out.at_ j hlt
      obtain ⟨b, o, rfl, _, hb, hcell⟩ := (HN.out.kept HKK.out (fun _ _ _ h => h)).at_ (show j < T.length by omega)
      rw [hk1] at hcell
      have hj0 : (0 : Int) ≤ (j : Int) := by omega
      have hj1 : (j : Int) < (T.length : Int) := by omega
      have hrl : ((T.take j).reverse).length = j := by rw [List.length_reverse, List.length_take]; omega
      have hsn : (T.take (j + 1)).reverse = [(k : Int)] ++ (T.take j).reverse := by rw [rev_snoc27 (by omega), hk1]
      obtain ⟨R, hR⟩ : ∃ R, R = (T.take j).reverse := ⟨_, rfl⟩
      rw [← hR] at HNS hrl hsn
      have HSN := Lib.hid hsn
      have HLEN : Hid ([(k : Int)].length + R.length = j + 1) := Lib.hid (by rw [hrl]; simp; omega)
      have HLIT := Lib.hid (iown_one27 (Nat.le_refl _) (heap_alloc_new wr (.cells #[.int .i64 (k : Int)] 3)))
      have HNS1 := Lib.hid (HNS.out.kept ((Kept.refl NoB wr).alloc (.cells #[.int .i64 (k : Int)] 3)) (fun _ _ _ h => h))
      have HHF : Hid (∀ W', Kept NoB w2 W' → Calls Try.prog 20 #[.slice a l.length cap, .int .i64 (k : Int)] W' fun e w' => e = .returned (.bool false) ∧ w' = W') := Lib.hid (fun W' hk => (HH1.out k W' (HKX.out.trans hk (fun _ _ h => h)) (by omega)).mono (by rw [bitI_nat, hk3]; rintro e w6 ⟨rfl, rfl⟩; exact ⟨rfl, rfl⟩))
      have HHT : Hid (∀ W', Kept NoB w2 W' → Calls Try.prog 20 #[.slice a2 M.length d2, .int .i64 (k : Int)] W' fun e w' => e = .returned (.bool true) ∧ w' = W') := Lib.hid (fun W' hk => (bHas27_any _ M _ (k : Int) W' (HX.out.kept hk (fun _ _ h => h)) (by omega)).mono (by rw [bitI_nat, hk4]; rintro e w6 ⟨rfl, rfl⟩; exact ⟨rfl, rfl⟩))
      have HCL : Hid (∀ W', Kept NoB wr W' → W'.cell? ⟨b, o + j, none⟩ = some (.int .i64 (k : Int))) := Lib.hid (fun W' hk => hk.cell (p := ⟨b, o + j, none⟩) (fun h => h) hcell)
      have hs5 : wr.heap.size ≤ (wr.alloc (.cells #[.int .i64 (k : Int)] 3)).heap.size := by simp
      have HS5 := Lib.hid hs5
      have HRL := Lib.hid hrl
      have hNP := (HN.out.kept HKK.out (fun _ _ _ h => h))
      by_cases hj2 : 0 < j
      · obtain ⟨k2, hp1, _⟩ := HTM.out.at_ (j - 1) (by omega)
        have hris := HTM.out.rise (j - 1) (by omega)
        rw [show j - 1 + 1 = j by omega, hp1, hk1] at hris
        obtain ⟨b', o', he', _, _, hcell'⟩ := hNP.at_ (show j - 1 < T.length by omega)
        injection he' with he'
        injection he' with e1 e2 e3
        subst e1 e2
        rw [hp1] at hcell'
        have HCP : Hid (∀ W', Kept NoB wr W' → W'.cell? ⟨b, o + (j - 1), none⟩ = some (.int .i64 (k2 : Int))) := Lib.hid (fun W' hk => hk.cell (p := ⟨b, o + (j - 1), none⟩) (fun h => h) hcell')
        have hd1 : decide ((0 : Int) < (j : Int)) = true := decide_eq_true (by omega)
        have hd2 : decide (0 < j) = true := decide_eq_true hj2
        have hd3 : decide ((k : Int) ≤ (k2 : Int)) = false := decide_eq_false (by omega)
        have hd4 : decide (k ≤ k2) = false := decide_eq_false (by omega)
        have hw1 : IntKind.i64.wrap ((j : Int) - 1) = (j : Int) - 1 := IntWalk.i64_in _ (by omega)
        have hw2 : (0 : Int) ≤ (j : Int) - 1 := by omega
        have hw3 : (j : Int) - 1 < (T.length : Int) := by omega
        have hw4 : ((j : Int) - 1).toNat = j - 1 := by omega
        have HT2 := Lib.hid hTl
        clear hk1 hk3 hk4 hR hsn hrl hNP hp1 hris hcell' hj2 hTl e3
        go_wp2_with (at_builtin; refine wpList_append_nsl _ rfl (.tmp 49) (.tmp 50) rfl wr.heap.size (.slice (some ⟨wr.heap.size, 0, none⟩) 1 1) [(k : Int)] rfl HLIT.out (fun _ => True) (.slice ao j co) R rfl HNS1.out (by rw [HLEN.out]; omega) HS5.out ?_; intro a5 c5 w5 ho hg hat; rw [HLEN.out] at ho; rw [HLEN.out]; have HK5 := Lib.hid (((Kept.refl NoB wr).alloc _).grown hg (fun b hb => .inr (by have hb2 : some wr.heap.size = some b := hb; injection hb2 with hb2; omega))); have HO5 := Lib.hid ho; clear ho hg hat)
        have x1 := HCL.out _ HK5.out
        have x2 := HCP.out _ HK5.out
        have HKK5 := Lib.hid (HKK.out.trans HK5.out (fun _ _ h => h))
        clear hcell
        go_quiet ((go_at_call 20; first | (with_reducible refine Calls.quiet_of_same (HHF.out _ ?_); exact HKK5.out.drewN _) | (with_reducible refine Calls.quiet_of_same (HHT.out _ ?_); exact HKK5.out.drewN _)))
        go_wp2
        go_roundw
        case rel => exact ⟨j + 1, a5, c5, by omega, by go_num, rfl, (by rw [HSN.out]; exact (HO5.out.nsl (fun _ _ => trivial))), (HKK.out.trans HK5.out (fun _ _ h => h)).drewN _⟩
        case measure => simp [intOf]; omega
      · have hd1 : decide ((0 : Int) < (j : Int)) = false := decide_eq_false (by omega)
        have hd2 : decide (0 < j) = false := decide_eq_false hj2
        have HT2 := Lib.hid hTl
        clear hk1 hk3 hk4 hR hsn hrl hNP hj2 hTl
        go_wp2_with (at_builtin; refine wpList_append_nsl _ rfl (.tmp 49) (.tmp 50) rfl wr.heap.size (.slice (some ⟨wr.heap.size, 0, none⟩) 1 1) [(k : Int)] rfl HLIT.out (fun _ => True) (.slice ao j co) R rfl HNS1.out (by rw [HLEN.out]; omega) HS5.out ?_; intro a5 c5 w5 ho hg hat; rw [HLEN.out] at ho; rw [HLEN.out]; have HK5 := Lib.hid (((Kept.refl NoB wr).alloc _).grown hg (fun b hb => .inr (by have hb2 : some wr.heap.size = some b := hb; injection hb2 with hb2; omega))); have HO5 := Lib.hid ho; clear ho hg hat)
        have x1 := HCL.out _ HK5.out
        have HKK5 := Lib.hid (HKK.out.trans HK5.out (fun _ _ h => h))
        clear hcell
        go_quiet ((go_at_call 20; first | (with_reducible refine Calls.quiet_of_same (HHF.out _ ?_); exact HKK5.out.drewN _) | (with_reducible refine Calls.quiet_of_same (HHT.out _ ?_); exact HKK5.out.drewN _)))
        go_wp2
        go_roundw
        case rel => exact ⟨j + 1, a5, c5, by omega, by go_num, rfl, (by rw [HSN.out]; exact (HO5.out.nsl (fun _ _ => trivial))), (HKK.out.trans HK5.out (fun _ _ h => h)).drewN _⟩
        case measure => simp [intOf]; omega
    · obtain rfl : j = q := by omega
      have hrl : ((T.take j).reverse).length = j := by rw [List.length_reverse, List.length_take]; omega
      have htt : (T.take j).reverse = T.reverse := by rw [List.take_of_length_le (by omega)]
      rw [htt] at HNS hrl
      have HSM : Hid (T.reverse.length ≤ 5000 ∧ ∀ x ∈ T.reverse, x ≤ 9223372036854775807) := Lib.hid ⟨by omega, fun x hx => HTM.out.small x (List.mem_reverse.1 hx)⟩
      obtain ⟨R, hR⟩ : ∃ R, R = T.reverse := ⟨_, rfl⟩
      have hgv := HTM.out.give
      have HBK : Hid (∀ M', GvM M n R M' → had27 M' (n : Int) = had27 l n ∧ (0 < j → gv27 M' n R = 7)) := Lib.hid (by rw [hR]; exact HTM.out.back)
      have hcn := HTM.out.count
      rw [← hR] at HNS hrl HSM hgv
      have HGV := Lib.hid hgv
      have HKW := Lib.hid (HKX.out.trans HKK.out (fun _ _ h => h))
      have HX0 := Lib.hid (HX.out.kept HKK.out (fun _ _ h => h))
      have HW0 := Lib.hid (HWX.out.kept HKK.out (fun _ _ h => h))
      have HB0 := Lib.hid (HBX.out.kept HKK.out (fun _ _ h => h))
      have hTq : ((T.length : Int) == (j : Int)) = true := by rw [hTl]; simp
      have hx1 : decide (j < T.length) = false := decide_eq_false (by omega)
      have hx2 : decide ((j : Int) < (T.length : Int)) = false := decide_eq_false (by omega)
      obtain ⟨cl, hcl⟩ : ∃ cl, cl = (had27 l (n : Int)).length := ⟨_, rfl⟩
      have hc4 := HQ4.out.2
      rw [← hcl] at hcn hc4
      have HCN := Lib.hid hcn
      have HC2 : Hid (∀ W' : World, Kept NoB W W' → Calls Try.prog 17 #[.slice a l.length cap, .int .i64 (n : Int)] W' fun e w' => e = .returned (.int .i64 (cl : Nat)) ∧ Kept NoB W' w') := Lib.hid (fun W' hk => by rw [hcl]; exact HC1.out W' hk)
      have hsum : ((cl + j : Nat) : Int) = (cl : Int) + (j : Int) := by omega
      have hceq : (((cl + j : Nat) : Int) == (cl : Int) + (j : Int)) = true := by rw [hsum]; simp
      have hj0 : (0 : Int) ≤ (j : Int) := by omega
      clear htt hR hgv hcn hlt hcl hrl hTl hj
      by_cases hj2 : 0 < j
      · have hd1 : decide ((0 : Int) < (T.length : Int)) = true := decide_eq_true (by have := HTM.out.len; omega)
        have hd2 : decide (0 < T.length) = true := decide_eq_true (by have := HTM.out.len; omega)
        have HBK7 : Hid (∀ M', GvM M n R M' → gv27 M' n R = 7) := Lib.hid (fun M' h => (HBK.out M' h).2 hj2)
        clear hj2
        go_wp2_with (first
          | (go_at_call 28; (with_reducible refine (bGive27_any (.slice a2 M.length d2) _ M R _ _ n _ HX0.out HNS.out HSM.out.1 HSM.out.2).mono ?_); rw [HGV.out]; rintro e w4 ⟨a4, d4, M4, rfl, hM4, hb, hk⟩; replace HKW := Lib.hid (HKW.out.trans hk (fun _ _ h => h)); replace HX0 := Lib.hid (HX0.out.kept hk (fun _ _ h => h)); replace HW0 := Lib.hid (HW0.out.kept hk (fun _ _ h => h)); replace HB0 := Lib.hid (HB0.out.kept hk (fun _ _ h => h)); replace HNS := Lib.hid (HNS.out.kept hk (fun _ _ _ h => h)); have HM4 := Lib.hid hM4; have HV := Lib.hid hb; clear hb hk hM4)
          | (go_at_call 28; (with_reducible refine (bGive27_any (.slice a4 M4.length d4) _ M4 R _ _ n _ HV.out HNS.out HSM.out.1 HSM.out.2).mono ?_); rw [HBK7.out M4 HM4.out]; rintro e w5 ⟨a5, d5, M5, rfl, _, _, hk⟩; replace HKW := Lib.hid (HKW.out.trans hk (fun _ _ h => h)); replace HX0 := Lib.hid (HX0.out.kept hk (fun _ _ h => h)); replace HW0 := Lib.hid (HW0.out.kept hk (fun _ _ h => h)); replace HB0 := Lib.hid (HB0.out.kept hk (fun _ _ h => h)); replace HV := Lib.hid (HV.out.kept hk (fun _ _ h => h)); clear hk)
          | (go_at_call 25; (with_reducible refine (bList27_any (.slice a4 M4.length d4) M4 _ n _ HV.out).mono ?_); rw [(HBK.out M4 HM4.out).1]; rintro e w6 ⟨a6, c6, rfl, ho, hk⟩; replace HKW := Lib.hid (HKW.out.trans hk (fun _ _ h => h)); replace HX0 := Lib.hid (HX0.out.kept hk (fun _ _ h => h)); replace HW0 := Lib.hid (HW0.out.kept hk (fun _ _ h => h)); replace HB0 := Lib.hid (HB0.out.kept hk (fun _ _ h => h)); have HO6 := Lib.hid ho; clear ho hk)
          | (go_at_call 25; (with_reducible refine (HL1.out _ HKW.out).mono ?_); rintro e w7 ⟨a7, c7, rfl, ho, hk⟩; replace HKW := Lib.hid (HKW.out.trans hk (fun _ _ h => h)); replace HX0 := Lib.hid (HX0.out.kept hk (fun _ _ h => h)); replace HW0 := Lib.hid (HW0.out.kept hk (fun _ _ h => h)); replace HB0 := Lib.hid (HB0.out.kept hk (fun _ _ h => h)); replace HO6 := Lib.hid (row_keptI HO6.out hk (fun _ _ h => h)); have HO7 := Lib.hid ho; clear ho hk)
          | (go_at_call 24; refine (SameN_any _ _ _ _ _ _ _ HO6.out.nslB HO7.out.nslB).mono ?_; rw [decide_eq_true rfl]; rintro e w8 ⟨rfl, hk⟩; replace HKW := Lib.hid (HKW.out.trans hk (fun _ _ h => h)); replace HX0 := Lib.hid (HX0.out.kept hk (fun _ _ h => h)); replace HW0 := Lib.hid (HW0.out.kept hk (fun _ _ h => h)); replace HB0 := Lib.hid (HB0.out.kept hk (fun _ _ h => h)); clear hk)
          | (go_at_call 17; (with_reducible refine (bCount27_any (.slice a2 M.length d2) M _ n _ HX0.out).mono ?_); rw [HCN.out]; rintro e w9 ⟨rfl, hk⟩; replace HKW := Lib.hid (HKW.out.trans hk (fun _ _ h => h)); replace HW0 := Lib.hid (HW0.out.kept hk (fun _ _ h => h)); replace HB0 := Lib.hid (HB0.out.kept hk (fun _ _ h => h)); clear hk)
          | (go_at_call 17; (with_reducible refine (HC2.out _ HKW.out).mono ?_); rintro e w10 ⟨rfl, hk⟩; replace HKW := Lib.hid (HKW.out.trans hk (fun _ _ h => h)); replace HW0 := Lib.hid (HW0.out.kept hk (fun _ _ h => h)); replace HB0 := Lib.hid (HB0.out.kept hk (fun _ _ h => h)); clear hk)
          | (go_at_call 22; refine (Same_any _ _ l l _ _ _ HB0.out HW0.out).mono ?_; rw [decide_eq_true rfl]; rintro e w11 ⟨rfl, hk⟩; replace HKW := Lib.hid (HKW.out.trans hk (fun _ _ h => h)); clear hk)
          | (go_at_call 12; refine (HAW.out _).mono ?_; rintro e w' ⟨rfl, hk⟩; replace HKW := Lib.hid (HKW.out.trans hk (fun _ _ h => h)); clear hk))
        go_ret
        exact ⟨rfl, HKW.out⟩
      · have hd1 : decide ((0 : Int) < (T.length : Int)) = false := decide_eq_false (by have := HTM.out.len; omega)
        have hd2 : decide (0 < T.length) = false := decide_eq_false (by have := HTM.out.len; omega)
        clear hj2
        go_wp2_with (first
          | (go_at_call 28; (with_reducible refine (bGive27_any (.slice a2 M.length d2) _ M R _ _ n _ HX0.out HNS.out HSM.out.1 HSM.out.2).mono ?_); rw [HGV.out]; rintro e w4 ⟨a4, d4, M4, rfl, hM4, hb, hk⟩; replace HKW := Lib.hid (HKW.out.trans hk (fun _ _ h => h)); replace HX0 := Lib.hid (HX0.out.kept hk (fun _ _ h => h)); replace HW0 := Lib.hid (HW0.out.kept hk (fun _ _ h => h)); replace HB0 := Lib.hid (HB0.out.kept hk (fun _ _ h => h)); replace HNS := Lib.hid (HNS.out.kept hk (fun _ _ _ h => h)); have HM4 := Lib.hid hM4; have HV := Lib.hid hb; clear hb hk hM4)
          | (go_at_call 28; (with_reducible refine (bGive27_any (.slice a4 M4.length d4) _ M4 R _ _ n _ HV.out HNS.out HSM.out.1 HSM.out.2).mono ?_); rintro e w5 ⟨a5, d5, M5, rfl, _, _, hk⟩; replace HKW := Lib.hid (HKW.out.trans hk (fun _ _ h => h)); replace HX0 := Lib.hid (HX0.out.kept hk (fun _ _ h => h)); replace HW0 := Lib.hid (HW0.out.kept hk (fun _ _ h => h)); replace HB0 := Lib.hid (HB0.out.kept hk (fun _ _ h => h)); replace HV := Lib.hid (HV.out.kept hk (fun _ _ h => h)); clear hk)
          | (go_at_call 25; (with_reducible refine (bList27_any (.slice a4 M4.length d4) M4 _ n _ HV.out).mono ?_); rw [(HBK.out M4 HM4.out).1]; rintro e w6 ⟨a6, c6, rfl, ho, hk⟩; replace HKW := Lib.hid (HKW.out.trans hk (fun _ _ h => h)); replace HX0 := Lib.hid (HX0.out.kept hk (fun _ _ h => h)); replace HW0 := Lib.hid (HW0.out.kept hk (fun _ _ h => h)); replace HB0 := Lib.hid (HB0.out.kept hk (fun _ _ h => h)); have HO6 := Lib.hid ho; clear ho hk)
          | (go_at_call 25; (with_reducible refine (HL1.out _ HKW.out).mono ?_); rintro e w7 ⟨a7, c7, rfl, ho, hk⟩; replace HKW := Lib.hid (HKW.out.trans hk (fun _ _ h => h)); replace HX0 := Lib.hid (HX0.out.kept hk (fun _ _ h => h)); replace HW0 := Lib.hid (HW0.out.kept hk (fun _ _ h => h)); replace HB0 := Lib.hid (HB0.out.kept hk (fun _ _ h => h)); replace HO6 := Lib.hid (row_keptI HO6.out hk (fun _ _ h => h)); have HO7 := Lib.hid ho; clear ho hk)
          | (go_at_call 24; refine (SameN_any _ _ _ _ _ _ _ HO6.out.nslB HO7.out.nslB).mono ?_; rw [decide_eq_true rfl]; rintro e w8 ⟨rfl, hk⟩; replace HKW := Lib.hid (HKW.out.trans hk (fun _ _ h => h)); replace HX0 := Lib.hid (HX0.out.kept hk (fun _ _ h => h)); replace HW0 := Lib.hid (HW0.out.kept hk (fun _ _ h => h)); replace HB0 := Lib.hid (HB0.out.kept hk (fun _ _ h => h)); clear hk)
          | (go_at_call 17; (with_reducible refine (bCount27_any (.slice a2 M.length d2) M _ n _ HX0.out).mono ?_); rw [HCN.out]; rintro e w9 ⟨rfl, hk⟩; replace HKW := Lib.hid (HKW.out.trans hk (fun _ _ h => h)); replace HW0 := Lib.hid (HW0.out.kept hk (fun _ _ h => h)); replace HB0 := Lib.hid (HB0.out.kept hk (fun _ _ h => h)); clear hk)
          | (go_at_call 17; (with_reducible refine (HC2.out _ HKW.out).mono ?_); rintro e w10 ⟨rfl, hk⟩; replace HKW := Lib.hid (HKW.out.trans hk (fun _ _ h => h)); replace HW0 := Lib.hid (HW0.out.kept hk (fun _ _ h => h)); replace HB0 := Lib.hid (HB0.out.kept hk (fun _ _ h => h)); clear hk)
          | (go_at_call 22; refine (Same_any _ _ l l _ _ _ HB0.out HW0.out).mono ?_; rw [decide_eq_true rfl]; rintro e w11 ⟨rfl, hk⟩; replace HKW := Lib.hid (HKW.out.trans hk (fun _ _ h => h)); clear hk)
          | (go_at_call 12; refine (HAW.out _).mono ?_; rintro e w' ⟨rfl, hk⟩; replace HKW := Lib.hid (HKW.out.trans hk (fun _ _ h => h)); clear hk))
        go_ret
        exact ⟨rfl, HKW.out⟩
theorem BitsBack_any (v : Value) (l : List Int) (n k : Int) (W : World) (h : BSl W (fun k => k < W.heap.size) v l) :
    Calls Try.prog 5 #[v, .int .i64 n, .int .i64 k] W fun e W' => e = .returned (.bool true) ∧ Kept NoB W W' := by
  by_cases h6 : 600 < l.length
  · exact BitsBack_far v l n k W h h6
  · by_cases he : tkE l n k = 0
    · obtain ⟨hf, hk⟩ := tkE_zero he
      obtain ⟨n', rfl, hn, _⟩ := fitB_nat hf
      obtain ⟨q, rfl⟩ := Int.eq_ofNat_of_zero_le hk
      exact BitsBack_ok v l n' q W h (by omega) he hf hn
    · exact BitsBack_no v l n k W h (by omega) he
end Go.Proofs.Ytbacnkndllifaaa
