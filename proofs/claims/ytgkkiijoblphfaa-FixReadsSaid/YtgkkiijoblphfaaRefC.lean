/-
  What the plain functions of the chapter's package (catenaryref01) do: Upto, Get, Read, Bool and Done.
-/
import Derived.Test.YtgkkiijoblphfaaRefB
import Derived.StillTactics
namespace Go.Proofs.Ytgkkiijoblphfaa
open Go.RowKit

set_option maxRecDepth 100000 in
/-- Upto. -/
theorem RUpto_any (v : Value) (s : ISt) (width most : Int) (F : Nat → Prop) (w : World) (h : RAt w F v s) (hF : ∀ k, F k → k < w.heap.size) :
    Calls Try.prog 8 #[v, .int .i64 width, .int .u64 most] w fun r w' => ∃ v', r = .returned (.tuple #[v', .int .u64 (s.upto width most).2]) ∧ RAt w' F v' (s.upto width most).1 ∧ Kept NoB w w' := by
  have HR := Lib.hid h
  have HF0 := Lib.hid hF
  have HF := Lib.hid (show ∀ k, F k → ¬ Ge w.heap.size k from fun k hk h => by have h1 := hF k hk; have h2 : w.heap.size ≤ k := h; omega)
  obtain ⟨hok, b, rfl, hb⟩ := h
  obtain ⟨a, cap, rfl, _⟩ := hb
  clear hF
  by_cases hw : width < 1 ∨ 8 < width
  · have HU := Lib.hid (show s.upto width most = (s.fail 1, 0) from if_pos hw)
    rcases hw with hw | hw
    all_goals
      have hw2 : 1 ≤ width ∨ width < 1 := by omega
      go_enter Try.func8, Try.ntmps8
      go_wp2_with fail
      refine (Fail_any _ s 1 F _ (HR.out.kept (S := NoB) (((Kept.refl _ _).alloc _).alloc _) (fun _ _ h => h)) (by omega) (by omega)).mono ?_
      rintro e w1 ⟨v', rfl, hv', hk1⟩
      have HV := Lib.hid hv'
      have hk2 : Kept NoB w w1 := (((Kept.refl NoB w).alloc _).alloc _).trans hk1 (fun _ _ h => h)
      obtain ⟨_, b', rfl, a', cap', rfl, _⟩ := hv'
      have hb1 := res_block hk1
      have d0 : w1.cell? ⟨w.heap.size + 1, 0, none⟩ = some (.slice none 0 0) := cell_of_row w1 _ 0 _ _ _ hb1
      have d1 : w1.cell? ⟨w.heap.size + 1, 1, none⟩ = some (.int .i64 0) := cell_of_row w1 _ 1 _ _ _ hb1
      have e0 := blk_frozen hb1 0
      have e1 := blk_frozen hb1 1
      have HK := Lib.hid hk2
      clear hb1 hk1 hk2
      generalize (s.fail 1).l.length = m at *
      generalize (s.fail 1).err = er at *
      go_wp2
      refine bodyPost_ret (v := .tuple #[.agg #[.slice a' m cap', .int .i64 er], .int .u64 0]) (by simp [results, Try.results8, go_sem, d0, d1]) rfl ⟨.agg #[.slice a' m cap', .int .i64 er], ?_, ?_, ?_⟩
      · rw [HU.out]
      · rw [HU.out]
        exact HV.out.kept (S := Ge w.heap.size) (((Kept.refl _ _).ge (by omega) _ _).ge (by omega) _ _) HF.out
      · exact (HK.out.new (by omega) _ _).new (by omega) _ _
  · have HU := Lib.hid (show s.upto width most = _ from if_neg hw)
    obtain ⟨k, rfl⟩ := Int.eq_ofNat_of_zero_le (show 0 ≤ width by omega)
    have hk1 : 1 ≤ k := by omega
    have hk8 : k ≤ 8 := by omega
    have hd : (decide ((k : Int) < 1) || decide (8 < (k : Int))) = false := by
      rw [decide_eq_false (by omega), decide_eq_false (by omega)]; rfl
    have HRaw := Lib.hid (fun w h1 h2 => RRaw_any (.agg #[.slice a s.l.length cap, .int .i64 s.err]) s k F w h1 h2 (by omega))
    have hl8 : (s.raw k).2.length ≤ 8 := by have := s.raw_len k; omega
    clear hw
    have HS1 := Lib.hid (s.raw_ok hok k)
    generalize (s.raw k).1 = s1 at *
    generalize (s.raw k).2 = l1 at *
    go_enter Try.func8, Try.ntmps8
    go_wp2_with fail
    refine (HRaw.out _ (HR.out.kept (S := NoB) (((Kept.refl _ _).alloc _).alloc _) (fun _ _ h => h)) (fun k hk => by have := HF0.out k hk; simp; omega)).mono ?_
    rintro e w1 ⟨v', b1, rfl, hv', hb1, hq1⟩
    have HV := Lib.hid hv'
    have HB1 := Lib.hid hb1
    have HK := Lib.hid ((((Kept.refl NoB w).alloc _).alloc _).trans hq1 (fun _ _ h => h))
    obtain ⟨_, b', rfl, a', cap', rfl, _⟩ := hv'
    obtain ⟨a2, cap2, rfl, _⟩ := hb1
    have hblk := res_block hq1
    have hsz : w.heap.size + 1 < w1.heap.size := heap_lt hblk
    have d0 : w1.cell? ⟨w.heap.size + 1, 0, none⟩ = some (.slice none 0 0) := cell_of_row w1 _ 0 _ _ _ hblk
    have d1 : w1.cell? ⟨w.heap.size + 1, 1, none⟩ = some (.int .i64 0) := cell_of_row w1 _ 1 _ _ _ hblk
    have e0 := blk_frozen hblk 0
    have e1 := blk_frozen hblk 1
    clear hblk hq1
    obtain ⟨n1, hn1⟩ : ∃ n1, n1 = s1.l.length := ⟨_, rfl⟩
    rw [← hn1]
    have HN1 := Lib.hid hn1
    clear hn1
    by_cases he : s1.err = 0
    · have heb : (s1.err != 0) = false := by rw [he]; rfl
      have HE := Lib.hid he
      clear he
      by_cases hlt : most < (num l1 : Int)
      · go_wp2_with fail
        refine (Num_any _ l1 F _ (HB1.out.kept (S := NoB) ((Kept.refl _ _).alloc _) (fun _ _ h => h)) hl8).mono ?_
        rintro e w2 ⟨rfl, rfl⟩
        go_wp2_with fail
        refine (Fail_any _ s1 4 F _ (by rw [HN1.out]; exact HV.out.kept (S := NoB) ((Kept.refl _ _).alloc _) (fun _ _ h => h)) (by omega) (by omega)).mono ?_
        rintro e w2 ⟨v2, rfl, hv2, hq2⟩
        have HV2 := Lib.hid hv2
        have hq3 : Kept NoB w1 w2 := ((Kept.refl NoB w1).alloc _).trans hq2 (fun _ _ h => h)
        have HK2 := Lib.hid (HK.out.trans hq3 (fun _ _ h => h))
        have c0 := hq3.cell (fun h => h) d0
        have c1 := hq3.cell (fun h => h) d1
        have g0 : w2.frozen? ⟨w.heap.size + 1, 0, none⟩ = false := (World.frozen?_of_block (hq3.block _ hsz (fun h => h))).trans e0
        have g1 : w2.frozen? ⟨w.heap.size + 1, 1, none⟩ = false := (World.frozen?_of_block (hq3.block _ hsz (fun h => h))).trans e1
        have hf : s1.fail 4 = ⟨[], 4⟩ := if_pos HE.out
        rw [hf] at hv2 HV2
        obtain ⟨_, b2, rfl, a3, cap3, rfl, _⟩ := hv2
        clear hq3 hq2 hf d0 d1 e0 e1
        go_wp2
        refine bodyPost_ret (v := .tuple #[.agg #[.slice a3 0 cap3, .int .i64 4], .int .u64 0]) (by simp [results, Try.results8, go_sem, c0, c1]) rfl ⟨.agg #[.slice a3 0 cap3, .int .i64 4], ?_, ?_, ?_⟩
        · rw [HU.out, if_pos HE.out, if_pos hlt]
        · rw [HU.out, if_pos HE.out, if_pos hlt]
          exact HV2.out.kept (S := Ge w.heap.size) (((Kept.refl _ _).ge (by omega) _ _).ge (by omega) _ _) HF.out
        · exact (HK2.out.new (by omega) _ _).new (by omega) _ _
      · go_wp2_with fail
        refine (Num_any _ l1 F _ (HB1.out.kept (S := NoB) ((Kept.refl _ _).alloc _) (fun _ _ h => h)) hl8).mono ?_
        rintro e w2 ⟨rfl, rfl⟩
        go_wp2_with fail
        go_region_with (go_at_call 26; refine (Num_any _ l1 F _ (by exact HB1.out.kept (S := NoB) (((Kept.refl _ _).alloc _).drew) (fun _ _ h => h)) hl8).mono ?_; rintro e w2 ⟨rfl, rfl⟩)
        all_goals
          go_wp2
          refine bodyPost_ret (v := .tuple #[.agg #[.slice a' n1 cap', .int .i64 s1.err], .int .u64 (num l1)]) (by simp [results, Try.results8, go_sem, d0, d1, hsz]) rfl ⟨.agg #[.slice a' n1 cap', .int .i64 s1.err], ?_, ?_, ?_⟩
          · rw [HU.out, if_pos HE.out, if_neg (by omega)]
          · rw [HU.out, if_pos HE.out, if_neg (by omega), HN1.out]
            exact HV.out.kept (S := Ge w.heap.size) ((((Kept.refl _ _).ge (by omega) _ _).ge (by omega) _ _).alloc _).drew HF.out
          · exact (((HK.out.new (by omega) _ _).new (by omega) _ _).alloc _).drew
    · have heb : (s1.err != 0) = true := by rw [bne_iff_ne]; exact he
      have HE := Lib.hid he
      clear he
      go_wp2
      refine bodyPost_ret (v := .tuple #[.agg #[.slice a' n1 cap', .int .i64 s1.err], .int .u64 0]) (by simp [results, Try.results8, go_sem, d0, d1, hsz]) rfl ⟨.agg #[.slice a' n1 cap', .int .i64 s1.err], ?_, ?_, ?_⟩
      · rw [HU.out, if_neg HE.out]
      · rw [HU.out, if_neg HE.out, HN1.out]
        exact HV.out.kept (S := Ge w.heap.size) ((((Kept.refl _ _).ge (by omega) _ _).ge (by omega) _ _).alloc _) HF.out
      · exact ((HK.out.new (by omega) _ _).new (by omega) _ _).alloc _
end Go.Proofs.Ytgkkiijoblphfaa
