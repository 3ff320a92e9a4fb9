/-
  Layer 27: the page's example; BitsAre.
-/
import Derived.Test.YtbacnkndllifaaaBitL
namespace Go.Proofs.Ytbacnkndllifaaa
open Go.RowKit
set_option linter.unusedVariables false

theorem bsl_one27 {w : World} {b : Nat} {x : Int} (h0 : 0 ≤ x) (h1 : x < 256) (hb : w.heap[b]? = some (.cells #[.int .u8 x] 5 (0, 0))) : BSl w (fun _ => True) (.slice (some ⟨b, 0, none⟩) 1 1) [x] :=
  ⟨_, 1, rfl, Nat.le_refl _, by unfold maxLen; omega, (fun h => by cases h), fun y hy => by rw [List.mem_singleton.1 hy]; exact ⟨h0, h1⟩, fun _ => ⟨b, 0, rfl, trivial, heap_lt hb, fun j hj => by
    have : j = 0 := by simpa using hj
    subst this
    exact cell_of_row _ _ 0 _ _ _ hb⟩⟩
theorem nsl_two27 {w : World} {b : Nat} {x y : Int} (hb : w.heap[b]? = some (.cells #[.int .i64 x, .int .i64 y] 3 (0, 0))) : NSl w (fun _ => True) (.slice (some ⟨b, 0, none⟩) 2 2) [x, y] :=
  ⟨_, 2, rfl, Nat.le_refl _, by unfold maxLen; omega, (fun h => by cases h), fun _ => ⟨b, 0, rfl, trivial, heap_lt hb, fun j hj => by
    have : j = 0 ∨ j = 1 := by have : j < 2 := hj; omega
    rcases this with rfl | rfl
    · exact cell_of_row _ _ 0 _ _ _ hb
    · exact cell_of_row _ _ 1 _ _ _ hb⟩⟩
theorem BSl.first27 {w : World} {F : Nat → Prop} {a : Option Addr} {n c : Nat} {l : List Int} (h : BSl w F (.slice a n c) l) (h0 : 0 < l.length) : ∃ b o, a = some ⟨b, o, none⟩ ∧ w.cell? ⟨b, o, none⟩ = some (.int .u8 (l.getD 0 0)) := by
  obtain ⟨a', cap, he, _, _, _, hr⟩ := h
  injection he with he
  subst he
  obtain ⟨b, o, ha, _, _, hc⟩ := hr.at_ h0
  exact ⟨b, o, ha, hc⟩
theorem ex27 : tkE [5] 5 2 = 0 ∧ tkT [5] 5 2 = [1, 3] ∧ ∀ M, TkM [5] 5 2 M → M = [15] := by
  have he : tkE [5] 5 2 = 0 := by decide +kernel
  have hT : tkT [5] 5 2 = [1, 3] := by decide +kernel
  refine ⟨he, hT, fun M hM => ?_⟩
  unfold TkM at hM
  rw [if_pos he, hT] at hM
  have h15 : BM (fun j => bitN [5] j || decide ((j : Int) ∈ ([1, 3] : List Int))) 5 [15] := by
    refine ⟨fun x hx => by rw [List.mem_singleton.1 hx]; omega, by decide, fun i => ?_⟩
    by_cases hi : i < 8
    · have : ∀ i, i < 8 → bitN [15] i = (decide (i < 5) && (bitN [5] i || decide ((i : Int) ∈ ([1, 3] : List Int)))) := by decide +kernel
      exact this i hi
    · rw [bitN_ge (by simp; omega), decide_eq_false (by omega)]; rfl
  exact BM.uniq hM h15 (fun _ _ => rfl)
set_option maxRecDepth 100000 in
theorem awake27_any (w : World) : Calls Try.prog 12 #[] w fun e w' => e = .returned (.bool true) ∧ Kept NoB w w' := by
  obtain ⟨e1, e2, e3⟩ := ex27
  have HT := Lib.hid (bTake27_any (.slice (some ⟨w.heap.size, 0, none⟩) 1 1) [5] _ 5 2 (w.alloc (.cells #[.int .u8 5] 5)) (bsl_one27 (by omega) (by omega) (heap_alloc_new w _)))
  rw [e1, e2] at HT
  have H3 := Lib.hid e3
  have HK0 := Lib.hid ((Kept.refl NoB w).alloc (.cells #[.int .u8 5] 5))
  clear e1 e2 e3
  go_enter Try.func12, Try.ntmps12
  go_wp2_with (first
    | (go_at_call 26; refine HT.out.mono ?_; rintro e w1 ⟨a, c, b, d, M, rfl, hM, hb, hn, hk⟩; obtain rfl := H3.out M hM; obtain ⟨b0, o0, rfl, hcell⟩ := hb.first27 (by simp); have HN := Lib.hid (hn.kept ((Kept.refl NoB w1).alloc (.cells #[.int .i64 1, .int .i64 3] 3)) (fun _ _ _ h => h)); have HK := Lib.hid (HK0.out.trans hk (fun _ _ h => h)); have HN2 := Lib.hid (nsl_two27 (heap_alloc_new w1 (.cells #[.int .i64 1, .int .i64 3] 3))); clear hM hb hn hk)
    | (go_at_call 24; refine (SameN_any _ _ [1, 3] [1, 3] _ _ _ HN.out HN2.out).mono ?_; rw [decide_eq_true rfl]; rintro e w2 ⟨rfl, hk⟩; have HK2 := Lib.hid ((HK.out.alloc _).trans hk (fun _ _ h => h)); clear hk))
  go_ret
  exact ⟨rfl, HK2.out⟩

set_option maxRecDepth 100000 in
theorem BitsAre_any (v : Value) (l : List Int) (n i : Int) (W : World) (h : BSl W (fun k => k < W.heap.size) v l) (hi : i ≤ 9223372036854775807) :
    Calls Try.prog 3 #[v, .int .i64 n, .int .i64 i] W fun e W' => e = .returned (.bool true) ∧ Kept NoB W W' := by
  obtain ⟨a, cap, rfl, _, hcm, _⟩ := id h
  have HAW := Lib.hid awake27_any
  by_cases hl : 600 < l.length
  · have hl' : (600 : Int) < (l.length : Int) := by omega
    clear h
    go_enter Try.func3, Try.ntmps3
    go_wp2_with (go_at_call 12; refine (HAW.out W).mono ?_; rintro e w' ⟨rfl, hk⟩; have HK := Lib.hid hk; clear hk)
    go_ret
    exact ⟨rfl, HK.out⟩
  · have hl' : decide ((600 : Int) < (l.length : Int)) = false := decide_eq_false (by omega)
    have hl2 : decide (600 < l.length) = false := decide_eq_false (by omega)
    have hb : ∀ W', Kept NoB W W' → BSl W' (fun k => k < W.heap.size) (.slice a l.length cap) l := fun W' hk => h.kept hk (fun _ _ h => h)
    have HS1 := Lib.hid (fun W' hk on => bSet27_any _ l _ n i on W' (hb W' hk))
    have HS2 := Lib.hid (fun W' hk on => rSet27_any _ l _ n i on W' (hb W' hk))
    have HF1 := Lib.hid (fun W' hk => bFits_any _ l _ n W' (hb W' hk))
    have HF2 := Lib.hid (fun W' hk => rFits_any _ l _ n W' (hb W' hk))
    have HH1 := Lib.hid (fun W' hk => bHas27_any _ l _ i W' (hb W' hk) hi)
    have HH2 := Lib.hid (fun W' hk => rHas27_any _ l _ i W' (hb W' hk) hi)
    have HC1 := Lib.hid (fun W' hk => bCount27_any _ l _ n W' (hb W' hk))
    have HL1 := Lib.hid (fun W' hk => bList27_any _ l _ n W' (hb W' hk))
    have HL2 := Lib.hid (fun W' hk => rList27_any _ l _ n W' (hb W' hk))
    have HK := Lib.hid (Kept.refl NoB W)
    obtain ⟨er, her⟩ : ∃ er, er = set27E l n i := ⟨_, rfl⟩
    obtain ⟨ft, hft⟩ : ∃ ft, ft = fitB l n := ⟨_, rfl⟩
    obtain ⟨ht, hht⟩ : ∃ ht, ht = bitI l i := ⟨_, rfl⟩
    obtain ⟨L, hL⟩ : ∃ L, L = had27 l n := ⟨_, rfl⟩
    obtain ⟨S, hS⟩ : ∃ S : Bool → List Int, S = fun on => set27L l n i on := ⟨_, rfl⟩
    have hS' : ∀ on, set27L l n i on = S on := fun on => by rw [hS]
    rw [← hft] at HF1 HF2
    rw [← hht] at HH1 HH2
    rw [← hL] at HC1 HL1 HL2
    simp only [← her, hS'] at HS1 HS2
    clear h hl hb her hft hht hL hS hS'
    by_cases hn : 0 ≤ n ∧ n ≤ 4096
    · obtain ⟨n', rfl⟩ := Int.eq_ofNat_of_zero_le hn.1
      have hn4 : n' ≤ 4096 := by omega
      have hn0 : (0 : Int) ≤ (n' : Int) := by omega
      have hn5 : (n' : Int) ≤ 4096 := by omega
      have HN := Lib.hid (fun W' => bNew27_ok n' W' hn4)
      have HZ := Lib.hid (fun W' => Size27_any n' W' hn4)
      have hwl := wholeB_len (l := []) (n := n') (.inl rfl)
      have hwf := wholeB_BM (l := []) (n := n') IsB.nil (.inl rfl) (fun i _ => bitN_nil i)
      have hw0 : had27 (wholeB [] n') (n' : Int) = [] := by
        rw [had27_yes (hwf.fits hn4)]
        have : hadL (bitN (wholeB [] n')) n' = hadL (fun _ => false) n' := hadL_congr (fun i hi => by rw [hwf.bit, bitN_nil]; simp)
        rw [this]
        unfold hadL; simp
      have HCW : Hid (∀ v W', BSl W' (fun _ => True) v (wholeB [] n') → Calls Try.prog 17 #[v, .int .i64 (n' : Int)] W' fun e w' => e = .returned (.int .i64 0) ∧ Kept NoB W' w') := Lib.hid (fun v W' hb => by
        have := bCount27_any v (wholeB [] n') _ n' W' hb
        rw [hw0] at this
        exact this)
      obtain ⟨WB, hWB⟩ : ∃ WB, WB = wholeB [] n' := ⟨_, rfl⟩
      obtain ⟨m, hm⟩ : ∃ m, m = byt n' := ⟨_, rfl⟩
      rw [← hWB] at HN HCW hwl
      rw [← hm] at hwl HZ
      have hwe : ((WB.length : Int) != (m : Int)) = false := by rw [hwl]; simp
      clear hwl hwf hw0 hWB hm hn
      go_enter Try.func3, Try.ntmps3
      go_wp2_with (first
        | (go_at_call 13; refine (HS1.out _ HK.out _).mono ?_; rintro e w1 ⟨a1, c1, rfl, hb, hk⟩; replace HK := Lib.hid (HK.out.trans hk (fun _ _ h => h)); have HX := Lib.hid hb; clear hb hk)
        | (go_at_call 14; refine (HS2.out _ HK.out _).mono ?_; rintro e w2 ⟨a2, c2, rfl, hb, hk⟩; replace HK := Lib.hid (HK.out.trans hk (fun _ _ h => h)); have HY := Lib.hid hb; replace HX := Lib.hid (HX.out.kept hk (fun _ _ h => h)); clear hb hk)
        | (go_at_call 15; refine (HN.out _).mono ?_; rintro e w3 ⟨a3, c3, rfl, hb, hk⟩; replace HK := Lib.hid (HK.out.trans hk (fun _ _ h => h)); replace HX := Lib.hid (HX.out.kept hk (fun _ _ h => h)); replace HY := Lib.hid (HY.out.kept hk (fun _ _ h => h)); have HW := Lib.hid (hb.mono (G := fun _ => True) (fun _ _ _ => trivial)); clear hb hk)
        | (go_at_call 16; refine (HZ.out _).mono ?_; rintro e w' ⟨rfl, rfl⟩)
        | (go_at_call 17; (with_reducible refine (HCW.out _ _ HW.out).mono ?_); rintro e w4 ⟨rfl, hk⟩; replace HK := Lib.hid (HK.out.trans hk (fun _ _ h => h)); replace HX := Lib.hid (HX.out.kept hk (fun _ _ h => h)); replace HY := Lib.hid (HY.out.kept hk (fun _ _ h => h)); clear hk)
        | (go_at_call 18; refine (HF1.out _ HK.out).mono ?_; rintro e w' ⟨rfl, rfl⟩)
        | (go_at_call 19; refine (HF2.out _ HK.out).mono ?_; rintro e w' ⟨rfl, rfl⟩)
        | (go_at_call 20; refine (HH1.out _ HK.out).mono ?_; rintro e w' ⟨rfl, rfl⟩)
        | (go_at_call 21; refine (HH2.out _ HK.out).mono ?_; rintro e w' ⟨rfl, rfl⟩)
        | (go_at_call 22; refine (Same_any _ _ _ _ _ _ _ HX.out HY.out).mono ?_; rw [decide_eq_true rfl]; rintro e w5 ⟨rfl, hk⟩; replace HK := Lib.hid (HK.out.trans hk (fun _ _ h => h)); clear hk)
        | (go_at_call 17; refine (HC1.out _ HK.out).mono ?_; rintro e w6 ⟨rfl, hk⟩; replace HK := Lib.hid (HK.out.trans hk (fun _ _ h => h)); clear hk)
        | (go_at_call 25; refine (HL1.out _ HK.out).mono ?_; rintro e w7 ⟨a7, c7, rfl, ho, hk⟩; replace HK := Lib.hid (HK.out.trans hk (fun _ _ h => h)); have HO7 := Lib.hid ho; clear ho hk)
        | (go_at_call 23; refine (HL2.out _ HK.out).mono ?_; rintro e w8 ⟨a8, c8, rfl, ho, hk⟩; replace HK := Lib.hid (HK.out.trans hk (fun _ _ h => h)); have HO8 := Lib.hid ho; (try replace HO7 := Lib.hid (row_keptI HO7.out hk (fun _ _ h => h))); clear ho hk)
        | (go_at_call 24; refine (SameN_any _ _ L L _ _ _ HO7.out.nslB HO8.out.nslB).mono ?_; rw [decide_eq_true rfl]; rintro e w9 ⟨rfl, hk⟩; replace HK := Lib.hid (HK.out.trans hk (fun _ _ h => h)); clear hk)
        | (go_at_call 12; refine (HAW.out _).mono ?_; rintro e w' ⟨rfl, hk⟩; replace HK := Lib.hid (HK.out.trans hk (fun _ _ h => h)); clear hk))
      all_goals
        go_ret
        exact ⟨rfl, HK.out⟩
    · have HN := Lib.hid (fun W' => bNew27_bad n W' (by omega))
      by_cases h0 : n < 0
      · have h1 : decide (0 ≤ n) = false := decide_eq_false (by omega)
        clear hn
        go_enter Try.func3, Try.ntmps3
        go_wp2_with (first
          | (go_at_call 13; refine (HS1.out _ HK.out _).mono ?_; rintro e w1 ⟨a1, c1, rfl, hb, hk⟩; replace HK := Lib.hid (HK.out.trans hk (fun _ _ h => h)); have HX := Lib.hid hb; clear hb hk)
          | (go_at_call 14; refine (HS2.out _ HK.out _).mono ?_; rintro e w2 ⟨a2, c2, rfl, hb, hk⟩; replace HK := Lib.hid (HK.out.trans hk (fun _ _ h => h)); have HY := Lib.hid hb; replace HX := Lib.hid (HX.out.kept hk (fun _ _ h => h)); clear hb hk)
          | (go_at_call 15; refine (HN.out _).mono ?_; rintro e w3 ⟨a3, c3, rfl, hb, hk⟩; replace HK := Lib.hid (HK.out.trans hk (fun _ _ h => h)); replace HX := Lib.hid (HX.out.kept hk (fun _ _ h => h)); replace HY := Lib.hid (HY.out.kept hk (fun _ _ h => h)); have HW := Lib.hid (hb.mono (G := fun _ => True) (fun _ _ _ => trivial)); clear hb hk)
          | (go_at_call 18; refine (HF1.out _ HK.out).mono ?_; rintro e w' ⟨rfl, rfl⟩)
          | (go_at_call 19; refine (HF2.out _ HK.out).mono ?_; rintro e w' ⟨rfl, rfl⟩)
          | (go_at_call 20; refine (HH1.out _ HK.out).mono ?_; rintro e w' ⟨rfl, rfl⟩)
          | (go_at_call 21; refine (HH2.out _ HK.out).mono ?_; rintro e w' ⟨rfl, rfl⟩)
          | (go_at_call 22; refine (Same_any _ _ _ _ _ _ _ HX.out HY.out).mono ?_; rw [decide_eq_true rfl]; rintro e w5 ⟨rfl, hk⟩; replace HK := Lib.hid (HK.out.trans hk (fun _ _ h => h)); clear hk)
          | (go_at_call 17; refine (HC1.out _ HK.out).mono ?_; rintro e w6 ⟨rfl, hk⟩; replace HK := Lib.hid (HK.out.trans hk (fun _ _ h => h)); clear hk)
          | (go_at_call 25; refine (HL1.out _ HK.out).mono ?_; rintro e w7 ⟨a7, c7, rfl, ho, hk⟩; replace HK := Lib.hid (HK.out.trans hk (fun _ _ h => h)); have HO7 := Lib.hid ho; clear ho hk)
          | (go_at_call 23; refine (HL2.out _ HK.out).mono ?_; rintro e w8 ⟨a8, c8, rfl, ho, hk⟩; replace HK := Lib.hid (HK.out.trans hk (fun _ _ h => h)); have HO8 := Lib.hid ho; (try replace HO7 := Lib.hid (row_keptI HO7.out hk (fun _ _ h => h))); clear ho hk)
          | (go_at_call 24; refine (SameN_any _ _ L L _ _ _ HO7.out.nslB HO8.out.nslB).mono ?_; rw [decide_eq_true rfl]; rintro e w9 ⟨rfl, hk⟩; replace HK := Lib.hid (HK.out.trans hk (fun _ _ h => h)); clear hk)
          | (go_at_call 12; refine (HAW.out _).mono ?_; rintro e w' ⟨rfl, hk⟩; replace HK := Lib.hid (HK.out.trans hk (fun _ _ h => h)); clear hk))
        all_goals
          go_ret
          exact ⟨rfl, HK.out⟩
      · have h1 : 0 ≤ n := by omega
        have h2 : decide (n ≤ 4096) = false := decide_eq_false (by omega)
        clear hn h0
        go_enter Try.func3, Try.ntmps3
        go_wp2_with (first
          | (go_at_call 13; refine (HS1.out _ HK.out _).mono ?_; rintro e w1 ⟨a1, c1, rfl, hb, hk⟩; replace HK := Lib.hid (HK.out.trans hk (fun _ _ h => h)); have HX := Lib.hid hb; clear hb hk)
          | (go_at_call 14; refine (HS2.out _ HK.out _).mono ?_; rintro e w2 ⟨a2, c2, rfl, hb, hk⟩; replace HK := Lib.hid (HK.out.trans hk (fun _ _ h => h)); have HY := Lib.hid hb; replace HX := Lib.hid (HX.out.kept hk (fun _ _ h => h)); clear hb hk)
          | (go_at_call 15; refine (HN.out _).mono ?_; rintro e w3 ⟨a3, c3, rfl, hb, hk⟩; replace HK := Lib.hid (HK.out.trans hk (fun _ _ h => h)); replace HX := Lib.hid (HX.out.kept hk (fun _ _ h => h)); replace HY := Lib.hid (HY.out.kept hk (fun _ _ h => h)); have HW := Lib.hid (hb.mono (G := fun _ => True) (fun _ _ _ => trivial)); clear hb hk)
          | (go_at_call 18; refine (HF1.out _ HK.out).mono ?_; rintro e w' ⟨rfl, rfl⟩)
          | (go_at_call 19; refine (HF2.out _ HK.out).mono ?_; rintro e w' ⟨rfl, rfl⟩)
          | (go_at_call 20; refine (HH1.out _ HK.out).mono ?_; rintro e w' ⟨rfl, rfl⟩)
          | (go_at_call 21; refine (HH2.out _ HK.out).mono ?_; rintro e w' ⟨rfl, rfl⟩)
          | (go_at_call 22; refine (Same_any _ _ _ _ _ _ _ HX.out HY.out).mono ?_; rw [decide_eq_true rfl]; rintro e w5 ⟨rfl, hk⟩; replace HK := Lib.hid (HK.out.trans hk (fun _ _ h => h)); clear hk)
          | (go_at_call 17; refine (HC1.out _ HK.out).mono ?_; rintro e w6 ⟨rfl, hk⟩; replace HK := Lib.hid (HK.out.trans hk (fun _ _ h => h)); clear hk)
          | (go_at_call 25; refine (HL1.out _ HK.out).mono ?_; rintro e w7 ⟨a7, c7, rfl, ho, hk⟩; replace HK := Lib.hid (HK.out.trans hk (fun _ _ h => h)); have HO7 := Lib.hid ho; clear ho hk)
          | (go_at_call 23; refine (HL2.out _ HK.out).mono ?_; rintro e w8 ⟨a8, c8, rfl, ho, hk⟩; replace HK := Lib.hid (HK.out.trans hk (fun _ _ h => h)); have HO8 := Lib.hid ho; (try replace HO7 := Lib.hid (row_keptI HO7.out hk (fun _ _ h => h))); clear ho hk)
          | (go_at_call 24; refine (SameN_any _ _ L L _ _ _ HO7.out.nslB HO8.out.nslB).mono ?_; rw [decide_eq_true rfl]; rintro e w9 ⟨rfl, hk⟩; replace HK := Lib.hid (HK.out.trans hk (fun _ _ h => h)); clear hk)
          | (go_at_call 12; refine (HAW.out _).mono ?_; rintro e w' ⟨rfl, hk⟩; replace HK := Lib.hid (HK.out.trans hk (fun _ _ h => h)); clear hk))
        all_goals
          go_ret
          exact ⟨rfl, HK.out⟩
end Go.Proofs.Ytbacnkndllifaaa
