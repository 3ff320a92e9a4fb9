/-
  catenaryref03: Put, Cut, Get, Same; ours, like, awake of the statements of layer 3.
-/
import Derived.Test.YtpcacndbagiajaaFrmD
import Derived.Test.YtpcacndbagiajaaCrcV
namespace Go.Proofs.Ytpcacndbagiajaa
open Go.RowKit

theorem size_lt {l : List Int} (h3 : ¬ l.length < 3) : sizeF l = if l.getD 0 0 = 0 then (0, 4) else if 16384 < lenF l then (0, 6) else if l.length < lenF l + 7 then (0, 3) else ((lenF l : Int) + 7, 0) := if_neg h3
theorem cut_of_err {l : List Int} {e : Int} (h : sizeF l = (0, e)) (he : e ≠ 0) : cutF l = ⟨0, [], 0, e⟩ := by
  unfold cutF
  rw [h, if_pos he]
theorem cut_of_fit {l : List Int} (h : (sizeF l).2 = 0) : cutF l = if fitsB (l.take (lenF l + 7)) then ⟨l.getD 0 0, (l.drop 3).take (lenF l), (lenF l : Int) + 7, 0⟩ else ⟨0, [], 0, 5⟩ := by
  unfold cutF
  rw [if_neg (by rw [h]; decide)]

theorem head_bsl {w : World} {F : Nat → Prop} {b o cap : Nat} {l : List Int} (h : BSl w F (.slice (some ⟨b, o, none⟩) l.length cap) l) (h3 : 3 ≤ l.length) :
    BSl w F (.slice (some ⟨b, o + 1, none⟩) 2 (cap - 1)) ((l.drop 1).take 2) := by
  obtain ⟨a, cap', e, hc, hm, hn, hr⟩ := h
  simp only [Value.slice.injEq, true_and] at e
  obtain ⟨rfl, rfl⟩ := e
  refine ⟨_, cap - 1, by rw [List.length_take, List.length_drop, Nat.min_eq_left (by omega)], by rw [List.length_take]; omega, by omega, (fun h => by cases h), ?_⟩
  have := (hr.drop hc (n := 1)).take 2
  rw [if_neg (by omega)] at this
  simpa [Addr.add] using this

theorem rest_bsl {w : World} {F : Nat → Prop} {b o cap n : Nat} {l : List Int} (h : BSl w F (.slice (some ⟨b, o, none⟩) l.length cap) l) (hn : n + 7 ≤ l.length) :
    BSl w F (.slice (some ⟨b, o + 3, none⟩) n (cap - 3)) ((l.drop 3).take n) := by
  obtain ⟨a, cap', e, hc, hm, _, hr⟩ := h
  simp only [Value.slice.injEq, true_and] at e
  obtain ⟨rfl, rfl⟩ := e
  refine ⟨_, cap - 3, by rw [List.length_take, List.length_drop, Nat.min_eq_left (by omega)], by rw [List.length_take]; omega, by omega, (fun h => by cases h), ?_⟩
  have := (hr.drop hc (n := 3)).take n
  rw [if_neg (by omega)] at this
  simpa [Addr.add] using this

/-- Cut fails at once. -/
theorem ret_err {w w1 : World} (hk : Kept NoB w w1) (g : Nat) (hg : w.heap.size ≤ g) (F : Nat → Prop) (e : Int) : ∃ v', Ending.returned (.tuple #[.agg #[.int .u8 0, .slice none 0 0], .int .i64 0, .int .i64 e]) = .returned (.tuple #[.agg #[.int .u8 0, v'], .int .i64 0, .int .i64 e]) ∧ BSl ((w1.setCell ⟨g, 0, none⟩ (.int .u8 0)).setCell ⟨g, 1, none⟩ (.slice none 0 0)) F v' [] ∧ Kept NoB w ((w1.setCell ⟨g, 0, none⟩ (.int .u8 0)).setCell ⟨g, 1, none⟩ (.slice none 0 0)) :=
  ⟨_, rfl, BSl.nil _ _, (hk.new hg _ _).new hg _ _⟩

set_option maxRecDepth 100000 in
/-- Cut, by definition. -/
theorem RCutF_any (v : Value) (l : List Int) (F : Nat → Prop) (w : World) (h : BSl w F v l) (hF : ∀ k, F k → k < w.heap.size) (hl : l.length ≤ 1000000) :
    Calls Try.prog 46 #[v] w fun e w' => ∃ v', e = .returned (.tuple #[.agg #[.int .u8 (cutF l).kind, v'], .int .i64 (cutF l).n, .int .i64 (cutF l).err]) ∧ BSl w' F v' (cutF l).body ∧ Kept NoB w w' := by
  have HB := Lib.hid h
  obtain ⟨a, cap, rfl, hc, hm, hn, hr⟩ := h
  have HN := Lib.hid hn
  have HR := Lib.hid hr
  have HM := Lib.hid hm
  have HF := Lib.hid hF
  clear hn hr hF
  unfold maxLen at hm
  by_cases h3 : l.length < 3
  · have HE := Lib.hid (cut_of_err (l := l) (e := 3) (if_pos h3) (by decide))
    go_enter Try.func46, Try.ntmps46
    go_wp2
    refine bodyPost_ret (v := .tuple #[.agg #[.int .u8 0, .slice none 0 0], .int .i64 0, .int .i64 3]) (by simp [results, Try.results46, go_sem]) rfl ?_
    rw [HE.out]
    exact ⟨_, rfl, BSl.nil _ _, ((Kept.refl _ _).alloc _)⟩
  · have hS := size_lt h3
    obtain ⟨b, o, rfl, hFb, hbl, hcell⟩ := HR.out.at_ (j := 0) (by omega)
    have hx := HB.out.isB.getD 0
    obtain ⟨z, hz⟩ : ∃ z, z = l.getD 0 0 := ⟨_, rfl⟩
    have HZ := Lib.hid hz
    rw [← hz] at hcell hx hS
    rw [Nat.add_zero] at hcell
    have hl0 : (0 : Int) < (l.length : Int) := by omega
    have hl1 : 0 < l.length := by omega
    have hc1 : ¬ cap = 1 := by omega
    have hc2 : 3 ≤ cap := by omega
    by_cases hz0 : z = 0
    · have HE := Lib.hid (cut_of_err (hS.trans (if_pos hz0)) (by decide))
      have hzb : (z == 0) = true := by simpa using hz0
      clear hz0 hS hz
      go_enter Try.func46, Try.ntmps46
      go_wp2
      refine bodyPost_ret (v := .tuple #[.agg #[.int .u8 0, .slice none 0 0], .int .i64 0, .int .i64 4]) (by simp [results, Try.results46, go_sem]) rfl ?_
      rw [HE.out]
      exact ⟨_, rfl, BSl.nil _ _, ((Kept.refl _ _).alloc _)⟩
    · rw [if_neg hz0] at hS
      have hzb : (z == 0) = false := by simpa using hz0
      have hlf := lenF_lt l HB.out.isB
      have HH := Lib.hid (head_bsl HB.out (by omega))
      obtain ⟨n, hn⟩ : ∃ n, n = lenF l := ⟨_, rfl⟩
      have HNN := Lib.hid hn
      rw [← hn] at hS hlf
      have HS := Lib.hid hS
      have hwn : IntKind.i64.wrap (n : Int) = (n : Int) := IntWalk.i64_in _ (by omega)
      have h2l : ((l.drop 1).take 2).length ≤ 8 := by rw [List.length_take]; omega
      have hnum : num ((l.drop 1).take 2) = n := hn.symm
      have HNUM := Lib.hid hnum
      clear hz0 hS hz hn hnum
      go_enter Try.func46, Try.ntmps46
      go_wp2_with fail
      refine (Num_any _ _ F _ (HH.out.kept (S := NoB) ((Kept.refl _ _).alloc _) (fun _ _ h => h)) h2l).mono ?_
      rintro e w1 ⟨rfl, rfl⟩
      rw [HNUM.out]
      have HM9 := Lib.hid hm
      clear hm
      by_cases hlong : 16384 < n
      · have HE := Lib.hid (cut_of_err (HS.out.trans (if_pos hlong)) (by decide))
        go_wp2
        refine bodyPost_ret (v := .tuple #[.agg #[.int .u8 0, .slice none 0 0], .int .i64 0, .int .i64 6]) (by simp [results, Try.results46, go_sem]) rfl ?_
        rw [HE.out]
        exact ⟨_, rfl, BSl.nil _ _, ((Kept.refl _ _).alloc _)⟩
      · have HS2 := Lib.hid (HS.out.trans (if_neg hlong))
        clear HS
        by_cases hsh : l.length < n + 7
        · have HE := Lib.hid (cut_of_err (HS2.out.trans (if_pos hsh)) (by decide))
          have hsh2 : (l.length : Int) < (n : Int) + 7 := by omega
          go_wp2
          refine bodyPost_ret (v := .tuple #[.agg #[.int .u8 0, .slice none 0 0], .int .i64 0, .int .i64 3]) (by simp [results, Try.results46, go_sem]) rfl ?_
          rw [HE.out]
          exact ⟨_, rfl, BSl.nil _ _, ((Kept.refl _ _).alloc _)⟩
        · have HC := Lib.hid (cut_of_fit (l := l) (by rw [HS2.out, if_neg hsh]))
          have hsh2 : (n : Int) + 7 ≤ (l.length : Int) := by omega
          have HBt := Lib.hid (bsl_take hc HM.out HN.out HR.out (n := n + 7) (by omega))
          have hnc : n + 7 ≤ cap := by omega
          have hnl : n + 7 ≤ l.length := by omega
          clear hsh
          go_wp2_with fail
          refine (RFits_any _ (l.take (n + 7)) F _ (HBt.out.kept (S := NoB) ((Kept.refl _ _).alloc _) (fun _ _ h => h)) (by rw [List.length_take]; omega)).mono ?_
          rintro e w2 ⟨rfl, hk2⟩
          have hb2 : w2.heap[w.heap.size]? = some (.cells #[.int .u8 0, .slice none 0 0] 76 (0, 0)) := hk2.heap (fun h => h) (heap_alloc_new w _)
          have d0 : w2.cell? ⟨w.heap.size, 0, none⟩ = some (.int .u8 0) := cell_of_row w2 _ 0 _ _ _ hb2
          have d1 : w2.cell? ⟨w.heap.size, 1, none⟩ = some (.slice none 0 0) := cell_of_row w2 _ 1 _ _ _ hb2
          have e0 := blk_frozen hb2 0
          have e1 := blk_frozen hb2 1
          have hsz := heap_lt hb2
          have HK := Lib.hid (((Kept.refl NoB w).alloc _).trans hk2 (fun _ _ h => h))
          have hcell2 := HK.out.cell (p := ⟨b, o, none⟩) (fun h => h) hcell
          obtain ⟨y, hy⟩ : ∃ y, y = fitsB (l.take (n + 7)) := ⟨_, rfl⟩
          rw [← hy]
          have HY := Lib.hid hy
          have HC2 := Lib.hid (show cutF l = if y = true then ⟨l.getD 0 0, (l.drop 3).take n, (n : Int) + 7, 0⟩ else ⟨0, [], 0, 5⟩ by rw [HC.out, ← HNN.out, HY.out])
          clear hb2 hk2 hy
          cases y
          · have HE := Lib.hid (HC2.out.trans (if_neg (by decide)))
            clear hcell hcell2
            go_wp2
            refine bodyPost_ret (v := .tuple #[.agg #[.int .u8 0, .slice none 0 0], .int .i64 0, .int .i64 5]) (by simp [results, Try.results46, go_sem, d0, d1]) rfl ?_
            rw [HE.out]
            exact ret_err HK.out _ (Nat.le_refl _) F 5
          · have HE := Lib.hid (HC2.out.trans (if_pos rfl))
            have hn3 : (n : Int) + 3 ≤ (cap : Int) := by omega
            have hw4 : IntKind.i64.wrap ((n : Int) + 3) = ((n + 3 : Nat) : Int) := by rw [IntWalk.i64_in _ (by omega)]; omega
            have hbs2 : w.heap.size ≠ b := by omega
            have hq3 : ¬ cap = 3 := by omega
            have hq4 : (3 : Int) ≤ (n : Int) + 3 := by omega
            clear hcell
            go_wp2_with fail
            go_region
            all_goals go_wp2
            refine bodyPost_ret (v := .tuple #[.agg #[.int .u8 z, .slice (some ⟨b, o + 3, none⟩) n (cap - 3)], .int .i64 ((n : Int) + 7), .int .i64 0]) (by simp [results, Try.results46, go_sem, d0, d1]) rfl ?_
            rw [HE.out, ← HZ.out]
            have hst : Kept (One w.heap.size) w2 ((w2.setCell ⟨w.heap.size, 0, none⟩ (.int .u8 z)).setCell ⟨w.heap.size, 1, none⟩ (.slice (some ⟨b, o + 3, none⟩) n (cap - 3))) := ((Kept.refl (One w.heap.size) w2).one 0 _).one 1 _
            refine ⟨_, rfl, (((rest_bsl HB.out (n := n) (by omega)).kept HK.out (fun _ _ h => h)).kept hst (fun k h1 h2 => by have e : k = w.heap.size := h2; have := HF.out k h1; omega)).kept (S := NoB) (Kept.refl _ _).drew (fun _ _ h => h), ((HK.out.new (Nat.le_refl _) 0 _).new (Nat.le_refl _) 1 _).drew⟩

theorem store_two {w : World} {g : Nat} {x y : Value} (d0 : w.cell? ⟨g, 0, none⟩ = some x) (d1 : w.cell? ⟨g, 1, none⟩ = some y) (u v : Value) (o : Obj) :
    (((w.setCell ⟨g, 0, none⟩ u).setCell ⟨g, 1, none⟩ v).alloc o).cell? ⟨g, 0, none⟩ = some u ∧ (((w.setCell ⟨g, 0, none⟩ u).setCell ⟨g, 1, none⟩ v).alloc o).cell? ⟨g, 1, none⟩ = some v := by
  constructor
  · refine cell_alloc ?_ o
    simp [go_sem, d0]
  · refine cell_alloc ?_ o
    simp [go_sem, d1]

set_option maxRecDepth 100000 in
/-- Get, by definition. -/
theorem RGetF_any (v : Value) (l : List Int) (F : Nat → Prop) (w : World) (h : BSl w F v l) (hF : ∀ k, F k → k < w.heap.size) (hl : l.length ≤ 1000000) :
    Calls Try.prog 48 #[v] w fun e w' => ∃ v', e = .returned (.tuple #[.agg #[.int .u8 (getF l).kind, v'], .int .i64 (getF l).err]) ∧ BSl w' F v' (getF l).body ∧ Kept NoB w w' := by
  have HB := Lib.hid h
  have HFF := Lib.hid hF
  obtain ⟨a, cap, rfl, _⟩ := h
  clear hF
  obtain ⟨er, her⟩ : ∃ er, er = (cutF l).err := ⟨_, rfl⟩
  obtain ⟨kd, hkd⟩ : ∃ kd, kd = (cutF l).kind := ⟨_, rfl⟩
  obtain ⟨bd, hbdy⟩ : ∃ bd, bd = (cutF l).body := ⟨_, rfl⟩
  obtain ⟨n, hn⟩ : ∃ n, n = (cutF l).n := ⟨_, rfl⟩
  have HER := Lib.hid her
  have HKD := Lib.hid hkd
  have HBD := Lib.hid hbdy
  have HNN := Lib.hid hn
  clear her hkd hbdy hn
  go_enter Try.func48, Try.ntmps48
  go_wp2_with fail
  refine (RCutF_any _ l F _ (HB.out.kept (S := NoB) ((Kept.refl _ _).alloc _) (fun _ _ h => h)) (fun k h => by have := HFF.out k h; simp; omega) hl).mono ?_
  rintro e w1 ⟨v1, rfl, hv1, hk1⟩
  rw [← HKD.out, ← HNN.out, ← HER.out]
  rw [← HBD.out] at hv1
  have HV1 := Lib.hid hv1
  obtain ⟨va, vc, rfl, _⟩ := hv1
  have hb1 : w1.heap[w.heap.size]? = some (.cells #[.int .u8 0, .slice none 0 0] 76 (0, 0)) := hk1.heap (fun h => h) (heap_alloc_new w _)
  have d0 : w1.cell? ⟨w.heap.size, 0, none⟩ = some (.int .u8 0) := cell_of_row w1 _ 0 _ _ _ hb1
  have d1 : w1.cell? ⟨w.heap.size, 1, none⟩ = some (.slice none 0 0) := cell_of_row w1 _ 1 _ _ _ hb1
  have e0 := blk_frozen hb1 0
  have e1 := blk_frozen hb1 1
  have hsz := heap_lt hb1
  have HK1 := Lib.hid (((Kept.refl NoB w).alloc _).trans hk1 (fun _ _ h => h))
  clear hb1 hk1
  by_cases he : er = 0 ∧ n < (l.length : Int)
  · have HG := Lib.hid (show getF l = ⟨0, [], 0, 4⟩ by unfold getF; rw [if_pos (by rw [← HER.out, ← HNN.out]; exact he)])
    obtain ⟨he1, he2⟩ := he
    subst he1
    go_wp2
    obtain ⟨q0, q1⟩ := store_two d0 d1 (.int .u8 0) (.slice none 0 0) (.cells #[.int .u8 kd, .slice va bd.length vc] 76)
    refine bodyPost_ret (v := .tuple #[.agg #[.int .u8 0, .slice none 0 0], .int .i64 4]) (by simp [results, Try.results48, go_sem, q0, q1]) rfl ?_
    rw [HG.out]
    exact ⟨_, rfl, BSl.nil _ _, ((HK1.out.new (Nat.le_refl _) 0 _).new (Nat.le_refl _) 1 _).alloc _⟩
  · have HG := Lib.hid (show getF l = cutF l by unfold getF; rw [if_neg (by rw [← HER.out, ← HNN.out]; exact he)])
    have hcase : (er = 0 ∧ (l.length : Int) ≤ n) ∨ (er ≠ 0) := by omega
    clear he
    obtain ⟨q0, q1⟩ := store_two d0 d1 (.int .u8 kd) (.slice va bd.length vc) (.cells #[.int .u8 kd, .slice va bd.length vc] 76)
    have hst : Kept (One w.heap.size) w1 (((w1.setCell ⟨w.heap.size, 0, none⟩ (.int .u8 kd)).setCell ⟨w.heap.size, 1, none⟩ (.slice va bd.length vc)).alloc (.cells #[.int .u8 kd, .slice va bd.length vc] 76)) := (((Kept.refl (One w.heap.size) w1).one 0 _).one 1 _).alloc _
    have HST := Lib.hid hst
    clear hst
    rcases hcase with ⟨h1, h2⟩ | h1
    · subst h1
      go_wp2
      refine bodyPost_ret (v := .tuple #[.agg #[.int .u8 kd, .slice va bd.length vc], .int .i64 0]) (by simp [results, Try.results48, go_sem, q0, q1]) rfl ?_
      rw [HG.out, ← HKD.out, ← HBD.out, ← HER.out]
      exact ⟨_, rfl, HV1.out.kept HST.out (fun k h1 h2 => by have e : k = w.heap.size := h2; have := HFF.out k h1; omega), HK1.out.one_new HST.out (Nat.le_refl _)⟩
    · have hb : (er == 0) = false := by simpa using h1
      go_wp2
      refine bodyPost_ret (v := .tuple #[.agg #[.int .u8 kd, .slice va bd.length vc], .int .i64 er]) (by simp [results, Try.results48, go_sem, q0, q1]) rfl ?_
      rw [HG.out, ← HKD.out, ← HBD.out, ← HER.out]
      exact ⟨_, rfl, HV1.out.kept HST.out (fun k h1 h2 => by have e : k = w.heap.size := h2; have := HFF.out k h1; omega), HK1.out.one_new HST.out (Nat.le_refl _)⟩
end Go.Proofs.Ytpcacndbagiajaa
