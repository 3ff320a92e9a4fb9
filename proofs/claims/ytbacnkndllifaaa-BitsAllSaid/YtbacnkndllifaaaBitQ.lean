/-
  Layer 27: BitsAll.
-/
import Derived.Test.YtbacnkndllifaaaBitP
namespace Go.Proofs.Ytbacnkndllifaaa
open Go.RowKit
set_option linter.unusedVariables false

theorem all27 {l : List Int} {n : Nat} (hf : fitB l (n : Int) = true) (hn : n ≤ 4096) {q : Nat} (hq : q = n - (hadL (bitN l) n).length) :
    tkE l n q = 0 ∧ (tkT l n q).length = q ∧ tkE l n ((q : Int) + 1) = 16 ∧ ∀ M, TkM l n q M → had27 M (n : Int) = hadL (fun _ => true) n ∧ (had27 M (n : Int)).length = n ∧ gv27 M n (hadL (fun _ => true) n) = 0 ∧ ∀ M', GvM M n (hadL (fun _ => true) n) M' → had27 M' (n : Int) = [] := by
  have hl := hadL_len (bitN l) n
  have hbo := hadL_both (bitN l) n
  have hfl : (frL l n).length = q := by unfold frL; omega
  have he : tkE l n q = 0 := by
    unfold tkE
    rw [hf, if_pos rfl, if_neg (by omega), if_neg (by rw [Int.toNat_natCast]; omega)]
  have hT : tkT l n q = frL l n := by
    unfold tkT
    rw [if_pos he, Int.toNat_natCast, Int.toNat_natCast, List.take_of_length_le (by omega)]
  refine ⟨he, by rw [hT, hfl], ?_, fun M hM => ?_⟩
  · unfold tkE
    rw [hf, if_pos rfl, if_neg (by omega), if_pos (by rw [Int.toNat_natCast]; omega)]
  · unfold TkM at hM
    rw [if_pos he, hT, Int.toNat_natCast] at hM
    have hM' : BM (fun _ => true) n M := hM.cong fun j hj => by
      cases hb : bitN l j
      · rw [Bool.false_or]
        exact decide_eq_true (hadL_mem.2 ⟨j, rfl, hj, by simp [hb]⟩)
      · rfl
    have hh := hM'.had hn
    have hg : gv27 M n (hadL (fun _ => true) n) = 0 := by
      unfold gv27
      rw [hM'.fits hn, if_pos rfl, Int.toNat_natCast]
      refine gvE_all (fun x hx => ?_) (hadL_nodup _ _)
      obtain ⟨i, rfl, h2, _⟩ := hadL_mem.1 hx
      refine ⟨⟨by omega, by omega⟩, ?_, by simp⟩
      rw [Int.toNat_natCast, hM'.bit]; simp [h2]
    refine ⟨hh, by rw [hh, hadL_all], hg, fun M2 hM2 => ?_⟩
    unfold GvM at hM2
    rw [if_pos hg, Int.toNat_natCast] at hM2
    rw [hM2.had hn]
    have : hadL (fun j => bitN M j && !decide ((j : Int) ∈ hadL (fun _ => true) n)) n = hadL (fun _ => false) n := hadL_congr fun i hi => by
      rw [decide_eq_true (hadL_mem.2 ⟨i, rfl, hi, rfl⟩)]; simp
    rw [this]
    unfold hadL; simp
set_option maxRecDepth 100000 in
theorem BitsAll_any (v : Value) (l : List Int) (n : Int) (W : World) (h : BSl W (fun k => k < W.heap.size) v l) :
    Calls Try.prog 6 #[v, .int .i64 n] W fun e W' => e = .returned (.bool true) ∧ Kept NoB W W' := by
  obtain ⟨a, cap, rfl, _, hcm, _⟩ := id h
  have HAW := Lib.hid awake27_any
  by_cases h6 : 600 < l.length
  · have hl' : decide ((600 : Int) < (l.length : Int)) = true := decide_eq_true (by omega)
    have hl2 : decide (600 < l.length) = true := decide_eq_true (by omega)
    clear h h6
    go_enter Try.func6, Try.ntmps6
    go_wp2_with (go_at_call 12; refine (HAW.out _).mono ?_; rintro e w' ⟨rfl, hk⟩; have HK := Lib.hid hk; clear hk)
    go_ret
    exact ⟨rfl, HK.out⟩
  · have hl' : decide ((600 : Int) < (l.length : Int)) = false := decide_eq_false (by omega)
    have hl2 : decide (600 < l.length) = false := decide_eq_false (by omega)
    have HF := Lib.hid (rFits_any _ l _ n W h)
    cases hf : fitB l n with
    | false =>
      rw [hf] at HF
      clear h h6 hf
      go_enter Try.func6, Try.ntmps6
      go_wp2_with (first
        | (go_at_call 19; refine HF.out.mono ?_; rintro e w' ⟨rfl, rfl⟩)
        | (go_at_call 12; refine (HAW.out _).mono ?_; rintro e w' ⟨rfl, hk⟩; have HK := Lib.hid hk; clear hk))
      go_ret
      exact ⟨rfl, HK.out⟩
    | true =>
      rw [hf] at HF
      obtain ⟨n', rfl, hn4, hl, _⟩ := fitB_nat hf
      obtain ⟨q, hq⟩ : ∃ q, q = n' - (hadL (bitN l) n').length := ⟨_, rfl⟩
      have hcl := hadL_len (bitN l) n'
      obtain ⟨h1, h2, h3, h4⟩ := all27 hf hn4 hq
      have hb : ∀ W', Kept NoB W W' → BSl W' (fun k => k < W.heap.size) (.slice a l.length cap) l := fun W' hk => h.kept hk (fun _ _ h => h)
      have HL := Lib.hid (rList27_any _ l _ n' W h)
      rw [had27_yes hf] at HL
      have HT1 := Lib.hid (fun W' hk => bTake27_any _ l _ n' q W' (hb W' hk))
      have HT2 := Lib.hid (fun W' hk => bTake27_any _ l _ n' ((q : Int) + 1) W' (hb W' hk))
      simp only [h1, h3] at HT1 HT2
      have H4 := Lib.hid h4
      have H2 := Lib.hid h2
      obtain ⟨T, hT⟩ : ∃ T, T = tkT l n' q := ⟨_, rfl⟩
      obtain ⟨T2, hT2⟩ : ∃ T2, T2 = tkT l n' ((q : Int) + 1) := ⟨_, rfl⟩
      rw [← hT] at HT1 H2
      rw [← hT2] at HT2
      obtain ⟨c, hc⟩ : ∃ c, c = hadL (bitN l) n' := ⟨_, rfl⟩
      rw [← hc] at HL hq hcl
      have HSUB : Hid ((n' : Int) - (c.length : Int) = (q : Int)) := Lib.hid (by omega)
      have hq4 : (q : Int) ≤ 4096 := by omega
      have hq0 : (0 : Int) ≤ (q : Int) := by omega
      have hcn : (c.length : Int) ≤ (n' : Int) := by omega
      have hn0 : (0 : Int) ≤ (n' : Int) := by omega
      have hn5 : (n' : Int) ≤ 4096 := by omega
      obtain ⟨A, hA⟩ : ∃ A, A = hadL (fun _ => true) n' := ⟨_, rfl⟩
      rw [← hA] at H4
      have HAL : Hid (A.length ≤ 4096 ∧ ∀ x ∈ A, x ≤ 9223372036854775807) := Lib.hid (by
        rw [hA, hadL_all]
        refine ⟨hn4, fun x hx => ?_⟩
        obtain ⟨i, rfl, h2, _⟩ := hadL_mem.1 hx
        omega)
      have hTl : T.length = q := H2.out
      have hTq : ((T.length : Int) == (q : Int)) = true := by rw [hTl]; simp
      clear h h6 hf hl hb h1 h2 h3 h4 hT hT2 hc hA hq hTl
      go_enter Try.func6, Try.ntmps6
      go_wp2_with (first
        | (go_at_call 19; refine HF.out.mono ?_; rintro e w' ⟨rfl, rfl⟩)
        | (go_at_call 23; refine HL.out.mono ?_; rintro e w1 ⟨a1, c1, rfl, ho, hk⟩; have HK := Lib.hid hk; clear ho hk; have hs1 := HSUB.out)
        | (go_at_call 26; (with_reducible refine (HT1.out _ HK.out).mono ?_); rintro e w1 ⟨a1, d1, b1, e1, M1, rfl, hM1, hb, hn, hk⟩; replace HK := Lib.hid (HK.out.trans hk (fun _ _ h => h)); have HM1 := Lib.hid hM1; have HX := Lib.hid hb; clear hb hk hn hM1)
        | (go_at_call 26; (with_reducible refine (HT2.out _ HK.out).mono ?_); rintro e w2 ⟨a2, d2, b2, e2, M2, rfl, hM2, hb, hn, hk⟩; replace HK := Lib.hid (HK.out.trans hk (fun _ _ h => h)); replace HX := Lib.hid (HX.out.kept hk (fun _ _ h => h)); clear hb hk hn hM2)
        | (go_at_call 25; refine (bList27_any _ M1 _ n' _ HX.out).mono ?_; rw [(H4.out M1 HM1.out).1]; rintro e w3 ⟨a3, c3, rfl, ho, hk⟩; replace HK := Lib.hid (HK.out.trans hk (fun _ _ h => h)); replace HX := Lib.hid (HX.out.kept hk (fun _ _ h => h)); have HO := Lib.hid ho; clear ho hk)
        | (go_at_call 28; refine (bGive27_any _ _ M1 A _ _ n' _ HX.out HO.out.nslB (by have := HAL.out.1; omega) HAL.out.2).mono ?_; rw [(H4.out M1 HM1.out).2.2.1]; rintro e w4 ⟨a4, d4, M4, rfl, hM4, hb, hk⟩; replace HK := Lib.hid (HK.out.trans hk (fun _ _ h => h)); replace HX := Lib.hid (HX.out.kept hk (fun _ _ h => h)); have HM4 := Lib.hid hM4; have HV := Lib.hid hb; clear hb hk hM4)
        | (go_at_call 17; (with_reducible refine (bCount27_any _ M1 _ n' _ HX.out).mono ?_); rw [(H4.out M1 HM1.out).2.1]; rintro e w5 ⟨rfl, hk⟩; replace HK := Lib.hid (HK.out.trans hk (fun _ _ h => h)); replace HV := Lib.hid (HV.out.kept hk (fun _ _ h => h)); clear hk)
        | (go_at_call 17; (with_reducible refine (bCount27_any _ M4 _ n' _ HV.out).mono ?_); rw [(H4.out M1 HM1.out).2.2.2 M4 HM4.out]; rintro e w6 ⟨rfl, hk⟩; replace HK := Lib.hid (HK.out.trans hk (fun _ _ h => h)); clear hk)
        | (go_at_call 12; refine (HAW.out _).mono ?_; rintro e w' ⟨rfl, hk⟩; replace HK := Lib.hid (HK.out.trans hk (fun _ _ h => h)); clear hk))
      go_ret
      exact ⟨rfl, HK.out⟩
end Go.Proofs.Ytbacnkndllifaaa
