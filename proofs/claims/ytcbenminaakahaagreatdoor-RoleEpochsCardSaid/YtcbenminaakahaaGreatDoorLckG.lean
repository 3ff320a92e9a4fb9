/-
  Package letter: all eighteen parts have their law.
-/
import Derived.Test.YtcbenminaakahaaGreatDoorLckF
namespace Go.Proofs.YtcbenminaakahaaGreatDoor
open Go.RowKit
set_option linter.unusedVariables false
set_option linter.unusedSimpArgs false

set_option maxRecDepth 100000 in
set_option maxHeartbeats 4000000 in
theorem part_ok_0 {B : Nat} {w : World} {pv : Value} (h : Part0 B w pv) : ∃ x : Q4, pv = q4v x ∧ PartOk 0 B w x := by
  obtain ⟨s, bw, hb1, hb2, rfl, a1, a2, a3, a4, a5⟩ := h
  refine ⟨⟨_, _, _, _⟩, rfl, PartAg_one _ _ _ _ _ _ _ _, fun k => k = s ∨ k = s + 3 ∨ k = s, 304, 307, #[pb s, pb (s + 3)], #[pb (s + 3)], ?_, ⟨rfl, rfl, ⟨_, _, rfl⟩, ⟨_, _, rfl⟩, fun args w => by kernel_rfl, fun args w => by kernel_rfl, ?_, ?_⟩⟩
  · rintro k (rfl | rfl | rfl)
    · exact ⟨hb1, _, _, _, a1, by decide⟩
    · exact ⟨by omega, _, _, _, a4, by decide⟩
    · exact ⟨hb1, _, _, _, a1, by decide⟩
  · intro S w' hk hs g y c H hg hm hnf
    exact right_0 w' g s y.ba hm.ba0 hm.ba1 (a1.kept hk (hs _ (.inl rfl))) (a4.kept hk (hs _ (.inr (.inl rfl)))) (cell_of_row _ _ 5 _ _ _ hg)
  · intro S w' hk hs g y hg
    refine (drop_0 w' g (s + 3) _ (a4.kept hk (hs _ (.inr (.inl rfl)))) hg rfl).mono ?_
    rintro e w'' ⟨rfl, rfl⟩
    refine ⟨rfl, ?_, ((Kept.refl (fun k => k = g) w').setCell (p := ⟨g, 5, none⟩) (.inl rfl) _)⟩
    have h0 := blkU_set hg 5 (.int .u64 0)
    exact h0
set_option maxRecDepth 100000 in
set_option maxHeartbeats 4000000 in
theorem part_ok_1 {B : Nat} {w : World} {pv : Value} (h : Part1 B w pv) : ∃ x : Q4, pv = q4v x ∧ PartOk 1 B w x := by
  obtain ⟨bm, hB, hbm, s, bw, hb1, hb2, rfl, a1, a2, a3, a4, a5⟩ := h
  refine ⟨⟨_, _, _, _⟩, rfl, PartAg_one _ _ _ _ _ _ _ _, fun k => k = s ∨ k = s + 3 ∨ k = bm, 309, 312, #[pb s, pb (s + 3)], #[pb (s + 3)], ?_, ⟨rfl, rfl, ⟨_, _, rfl⟩, ⟨_, _, rfl⟩, fun args w => by kernel_rfl, fun args w => by kernel_rfl, ?_, ?_⟩⟩
  · rintro k (rfl | rfl | rfl)
    · exact ⟨hb1, _, _, _, a1, by decide⟩
    · exact ⟨by omega, _, _, _, a4, by decide⟩
    · exact ⟨hB, _, _, _, hbm, by decide⟩
  · intro S w' hk hs g y c H hg hm hnf
    exact right_1 w' g s bm y.ch (hbm.kept hk (hs _ (.inr (.inr rfl)))) (a1.kept hk (hs _ (.inl rfl))) (a4.kept hk (hs _ (.inr (.inl rfl)))) (cell_of_row _ _ 3 _ _ _ hg)
  · intro S w' hk hs g y hg
    refine (drop_1 w' g (s + 3) _ (a4.kept hk (hs _ (.inr (.inl rfl)))) hg rfl).mono ?_
    rintro e w'' ⟨rfl, rfl⟩
    refine ⟨rfl, ?_, ((Kept.refl (fun k => k = g) w').setCell (p := ⟨g, 3, none⟩) (.inl rfl) _)⟩
    have h0 := blkU_set hg 3 (.int .i64 0)
    exact h0
set_option maxRecDepth 100000 in
set_option maxHeartbeats 4000000 in
theorem part_ok_2 {B : Nat} {w : World} {pv : Value} (h : Part2 B w pv) : ∃ x : Q4, pv = q4v x ∧ PartOk 2 B w x := by
  obtain ⟨s, bw, hb1, hb2, rfl, a1, a2, a3, a4, a5⟩ := h
  refine ⟨⟨_, _, _, _⟩, rfl, PartAg_one _ _ _ _ _ _ _ _, fun k => k = s ∨ k = s + 3 ∨ k = s, 304, 307, #[pb s, pb (s + 3)], #[pb (s + 3)], ?_, ⟨rfl, rfl, ⟨_, _, rfl⟩, ⟨_, _, rfl⟩, fun args w => by kernel_rfl, fun args w => by kernel_rfl, ?_, ?_⟩⟩
  · rintro k (rfl | rfl | rfl)
    · exact ⟨hb1, _, _, _, a1, by decide⟩
    · exact ⟨by omega, _, _, _, a4, by decide⟩
    · exact ⟨hb1, _, _, _, a1, by decide⟩
  · intro S w' hk hs g y c H hg hm hnf
    exact right_2 w' g s y.ep (a1.kept hk (hs _ (.inl rfl))) (a4.kept hk (hs _ (.inr (.inl rfl)))) (cell_of_row _ _ 4 _ _ _ hg)
  · intro S w' hk hs g y hg
    refine (drop_2 w' g (s + 3) _ (a4.kept hk (hs _ (.inr (.inl rfl)))) hg rfl).mono ?_
    rintro e w'' ⟨rfl, rfl⟩
    refine ⟨rfl, ?_, ((Kept.refl (fun k => k = g) w').setCell (p := ⟨g, 4, none⟩) (.inl rfl) _)⟩
    have h0 := blkU_set hg 4 (.int .u64 0)
    exact h0
set_option maxRecDepth 100000 in
set_option maxHeartbeats 4000000 in
theorem part_ok_3 {B : Nat} {w : World} {pv : Value} (h : Part3 B w pv) : ∃ x : Q4, pv = q4v x ∧ PartOk 3 B w x := by
  obtain ⟨s, bw, hb1, hb2, rfl, a1, a2, a3, a4, a5⟩ := h
  refine ⟨⟨_, _, _, _⟩, rfl, PartAg_one _ _ _ _ _ _ _ _, fun k => k = s ∨ k = s + 3 ∨ k = s, 304, 307, #[pb s, pb (s + 3)], #[pb (s + 3)], ?_, ⟨rfl, rfl, ⟨_, _, rfl⟩, ⟨_, _, rfl⟩, fun args w => by kernel_rfl, fun args w => by kernel_rfl, ?_, ?_⟩⟩
  · rintro k (rfl | rfl | rfl)
    · exact ⟨hb1, _, _, _, a1, by decide⟩
    · exact ⟨by omega, _, _, _, a4, by decide⟩
    · exact ⟨hb1, _, _, _, a1, by decide⟩
  · intro S w' hk hs g y c H hg hm hnf
    exact right_3 w' g s y.se (a1.kept hk (hs _ (.inl rfl))) (a4.kept hk (hs _ (.inr (.inl rfl)))) (cell_of_row _ _ 7 _ _ _ hg)
  · intro S w' hk hs g y hg
    refine (drop_3 w' g (s + 3) _ (a4.kept hk (hs _ (.inr (.inl rfl)))) hg rfl).mono ?_
    rintro e w'' ⟨rfl, rfl⟩
    refine ⟨rfl, ?_, ((Kept.refl (fun k => k = g) w').setCell (p := ⟨g, 7, none⟩) (.inl rfl) _)⟩
    have h0 := blkU_set hg 7 (.int .u64 0)
    exact h0
set_option maxRecDepth 100000 in
set_option maxHeartbeats 4000000 in
theorem part_ok_4 {B : Nat} {w : World} {pv : Value} (h : Part4 B w pv) : ∃ x : Q4, pv = q4v x ∧ PartOk 4 B w x := by
  obtain ⟨s, bw, hb1, hb2, rfl, a1, a2, a3, a4, a5⟩ := h
  refine ⟨⟨_, _, _, _⟩, rfl, PartAg_one _ _ _ _ _ _ _ _, fun k => k = s ∨ k = s + 3 ∨ k = s, 304, 307, #[pb s, pb (s + 3)], #[pb (s + 3)], ?_, ⟨rfl, rfl, ⟨_, _, rfl⟩, ⟨_, _, rfl⟩, fun args w => by kernel_rfl, fun args w => by kernel_rfl, ?_, ?_⟩⟩
  · rintro k (rfl | rfl | rfl)
    · exact ⟨hb1, _, _, _, a1, by decide⟩
    · exact ⟨by omega, _, _, _, a4, by decide⟩
    · exact ⟨hb1, _, _, _, a1, by decide⟩
  · intro S w' hk hs g y c H hg hm hnf
    exact right_4 w' g s y.dn (a1.kept hk (hs _ (.inl rfl))) (a4.kept hk (hs _ (.inr (.inl rfl)))) (cell_of_row _ _ 8 _ _ _ hg)
  · intro S w' hk hs g y hg
    refine (drop_4 w' g (s + 3) _ (a4.kept hk (hs _ (.inr (.inl rfl)))) hg rfl).mono ?_
    rintro e w'' ⟨rfl, rfl⟩
    refine ⟨rfl, ?_, ((Kept.refl (fun k => k = g) w').setCell (p := ⟨g, 8, none⟩) (.inl rfl) _)⟩
    have h0 := blkU_set hg 8 (.int .u64 0)
    exact h0
set_option maxRecDepth 100000 in
set_option maxHeartbeats 4000000 in
theorem part_ok_5 {B : Nat} {w : World} {pv : Value} (h : Part5 B w pv) : ∃ x : Q4, pv = q4v x ∧ PartOk 5 B w x := by
  obtain ⟨bm, hB, hbm, s, bw, hb1, hb2, rfl, a1, a2, a3, a4, a5⟩ := h
  refine ⟨⟨_, _, _, _⟩, rfl, PartAg_one _ _ _ _ _ _ _ _, fun k => k = s ∨ k = s + 3 ∨ k = bm, 309, 312, #[pb s, pb (s + 3)], #[pb (s + 3)], ?_, ⟨rfl, rfl, ⟨_, _, rfl⟩, ⟨_, _, rfl⟩, fun args w => by kernel_rfl, fun args w => by kernel_rfl, ?_, ?_⟩⟩
  · rintro k (rfl | rfl | rfl)
    · exact ⟨hb1, _, _, _, a1, by decide⟩
    · exact ⟨by omega, _, _, _, a4, by decide⟩
    · exact ⟨hB, _, _, _, hbm, by decide⟩
  · intro S w' hk hs g y c H hg hm hnf
    exact right_5 w' g s bm y.sl (hbm.kept hk (hs _ (.inr (.inr rfl)))) (a1.kept hk (hs _ (.inl rfl))) (a4.kept hk (hs _ (.inr (.inl rfl)))) (cell_of_row _ _ 10 _ _ _ hg)
  · intro S w' hk hs g y hg
    refine (drop_5 w' g (s + 3) _ (a4.kept hk (hs _ (.inr (.inl rfl)))) hg rfl).mono ?_
    rintro e w'' ⟨rfl, rfl⟩
    refine ⟨rfl, ?_, ((Kept.refl (fun k => k = g) w').setCell (p := ⟨g, 10, none⟩) (.inl rfl) _)⟩
    have h0 := blkU_set hg 10 (.int .i64 0)
    exact h0
set_option maxRecDepth 100000 in
set_option maxHeartbeats 4000000 in
theorem part_ok_6 {B : Nat} {w : World} {pv : Value} (h : Part6 B w pv) : ∃ x : Q4, pv = q4v x ∧ PartOk 6 B w x := by
  obtain ⟨s, bw, hb1, hb2, rfl, a1, a2, a3, a4, a5⟩ := h
  refine ⟨⟨_, _, _, _⟩, rfl, PartAg_one _ _ _ _ _ _ _ _, fun k => k = s ∨ k = s + 3 ∨ k = s, 304, 307, #[pb s, pb (s + 3)], #[pb (s + 3)], ?_, ⟨rfl, rfl, ⟨_, _, rfl⟩, ⟨_, _, rfl⟩, fun args w => by kernel_rfl, fun args w => by kernel_rfl, ?_, ?_⟩⟩
  · rintro k (rfl | rfl | rfl)
    · exact ⟨hb1, _, _, _, a1, by decide⟩
    · exact ⟨by omega, _, _, _, a4, by decide⟩
    · exact ⟨hb1, _, _, _, a1, by decide⟩
  · intro S w' hk hs g y c H hg hm hnf
    exact right_6 w' g s y.nu (a1.kept hk (hs _ (.inl rfl))) (a4.kept hk (hs _ (.inr (.inl rfl)))) (cell_of_row _ _ 6 _ _ _ hg)
  · intro S w' hk hs g y hg
    refine (drop_6 w' g (s + 3) _ (a4.kept hk (hs _ (.inr (.inl rfl)))) hg rfl).mono ?_
    rintro e w'' ⟨rfl, rfl⟩
    refine ⟨rfl, ?_, ((Kept.refl (fun k => k = g) w').setCell (p := ⟨g, 6, none⟩) (.inl rfl) _)⟩
    have h0 := blkU_set hg 6 (.int .u64 0)
    exact h0
set_option maxRecDepth 100000 in
set_option maxHeartbeats 4000000 in
theorem part_ok_7 {B : Nat} {w : World} {pv : Value} (h : Part7 B w pv) : ∃ x : Q4, pv = q4v x ∧ PartOk 7 B w x := by
  obtain ⟨bm, hB, hbm, s, bw, hb1, hb2, rfl, a1, a2, a3, a4, a5⟩ := h
  refine ⟨⟨_, _, _, _⟩, rfl, PartAg_one _ _ _ _ _ _ _ _, fun k => k = s ∨ k = s + 3 ∨ k = bm, 309, 312, #[pb s, pb (s + 3)], #[pb (s + 3)], ?_, ⟨rfl, rfl, ⟨_, _, rfl⟩, ⟨_, _, rfl⟩, fun args w => by kernel_rfl, fun args w => by kernel_rfl, ?_, ?_⟩⟩
  · rintro k (rfl | rfl | rfl)
    · exact ⟨hb1, _, _, _, a1, by decide⟩
    · exact ⟨by omega, _, _, _, a4, by decide⟩
    · exact ⟨hB, _, _, _, hbm, by decide⟩
  · intro S w' hk hs g y c H hg hm hnf
    exact right_7 w' g s bm y.sl (hbm.kept hk (hs _ (.inr (.inr rfl)))) (a1.kept hk (hs _ (.inl rfl))) (a4.kept hk (hs _ (.inr (.inl rfl)))) (cell_of_row _ _ 10 _ _ _ hg)
  · intro S w' hk hs g y hg
    refine (drop_5 w' g (s + 3) _ (a4.kept hk (hs _ (.inr (.inl rfl)))) hg rfl).mono ?_
    rintro e w'' ⟨rfl, rfl⟩
    refine ⟨rfl, ?_, ((Kept.refl (fun k => k = g) w').setCell (p := ⟨g, 10, none⟩) (.inl rfl) _)⟩
    have h0 := blkU_set hg 10 (.int .i64 0)
    exact h0
set_option maxRecDepth 100000 in
set_option maxHeartbeats 4000000 in
theorem part_ok_8 {B : Nat} {w : World} {pv : Value} (h : Part8 B w pv) : ∃ x : Q4, pv = q4v x ∧ PartOk 8 B w x := by
  obtain ⟨s, bw, hb1, hb2, rfl, a1, a2, a3, a4, a5⟩ := h
  refine ⟨⟨_, _, _, _⟩, rfl, PartAg_one _ _ _ _ _ _ _ _, fun k => k = s ∨ k = s + 3 ∨ k = s, 313, 316, #[pb s, pb (s + 3)], #[pb (s + 3)], ?_, ⟨rfl, rfl, ⟨_, _, rfl⟩, ⟨_, _, rfl⟩, fun args w => by kernel_rfl, fun args w => by kernel_rfl, ?_, ?_⟩⟩
  · rintro k (rfl | rfl | rfl)
    · exact ⟨hb1, _, _, _, a1, by decide⟩
    · exact ⟨by omega, _, _, _, a4, by decide⟩
    · exact ⟨hb1, _, _, _, a1, by decide⟩
  · intro S w' hk hs g y c H hg hm hnf
    exact right_8 w' g s y.ke (a1.kept hk (hs _ (.inl rfl))) (a4.kept hk (hs _ (.inr (.inl rfl)))) (cell_of_row _ _ 11 _ _ _ hg)
  · intro S w' hk hs g y hg
    refine (drop_8 w' g (s + 3) _ (a4.kept hk (hs _ (.inr (.inl rfl)))) hg rfl).mono ?_
    rintro e w'' ⟨rfl, rfl⟩
    refine ⟨rfl, ?_, ((Kept.refl (fun k => k = g) w').setCell (p := ⟨g, 11, none⟩) (.inl rfl) _)⟩
    have h0 := blkU_set hg 11 (.int .u32 0)
    exact h0
set_option maxRecDepth 100000 in
set_option maxHeartbeats 4000000 in
theorem part_ok_9 {B : Nat} {w : World} {pv : Value} (h : Part9 B w pv) : ∃ x : Q4, pv = q4v x ∧ PartOk 9 B w x := by
  obtain ⟨bm, hB, hbm, s, bw, hb1, hb2, rfl, a1, a2, a3, a4, a5⟩ := h
  refine ⟨⟨_, _, _, _⟩, rfl, PartAg_one _ _ _ _ _ _ _ _, fun k => k = s ∨ k = s + 3 ∨ k = bm, 317, 320, #[pb s, pb (s + 3)], #[pb (s + 3)], ?_, ⟨rfl, rfl, ⟨_, _, rfl⟩, ⟨_, _, rfl⟩, fun args w => by kernel_rfl, fun args w => by kernel_rfl, ?_, ?_⟩⟩
  · rintro k (rfl | rfl | rfl)
    · exact ⟨hb1, _, _, _, a1, by decide⟩
    · exact ⟨by omega, _, _, _, a4, by decide⟩
    · exact ⟨hB, _, _, _, hbm, by decide⟩
  · intro S w' hk hs g y c H hg hm hnf
    exact right_9 w' g s bm y.co (hbm.kept hk (hs _ (.inr (.inr rfl)))) (a1.kept hk (hs _ (.inl rfl))) (a4.kept hk (hs _ (.inr (.inl rfl)))) (cell_of_row _ _ 12 _ _ _ hg)
  · intro S w' hk hs g y hg
    refine (drop_9 w' g (s + 3) _ (a4.kept hk (hs _ (.inr (.inl rfl)))) hg rfl).mono ?_
    rintro e w'' ⟨rfl, rfl⟩
    refine ⟨rfl, ?_, ((Kept.refl (fun k => k = g) w').setCell (p := ⟨g, 12, none⟩) (.inl rfl) _)⟩
    have h0 := blkU_set hg 12 (.int .i64 0)
    exact h0
set_option maxRecDepth 100000 in
set_option maxHeartbeats 4000000 in
theorem part_ok_10 {B : Nat} {w : World} {pv : Value} (h : Part10 B w pv) : ∃ x : Q4, pv = q4v x ∧ PartOk 10 B w x := by
  obtain ⟨s, bw, hb1, hb2, rfl, a1, a2, a3, a4, a5⟩ := h
  refine ⟨⟨_, _, _, _⟩, rfl, PartAg_one _ _ _ _ _ _ _ _, fun k => k = s ∨ k = s + 3 ∨ k = s, 304, 307, #[pb s, pb (s + 3)], #[pb (s + 3)], ?_, ⟨rfl, rfl, ⟨_, _, rfl⟩, ⟨_, _, rfl⟩, fun args w => by kernel_rfl, fun args w => by kernel_rfl, ?_, ?_⟩⟩
  · rintro k (rfl | rfl | rfl)
    · exact ⟨hb1, _, _, _, a1, by decide⟩
    · exact ⟨by omega, _, _, _, a4, by decide⟩
    · exact ⟨hb1, _, _, _, a1, by decide⟩
  · intro S w' hk hs g y c H hg hm hnf
    exact right_10 w' g s y.ve (a1.kept hk (hs _ (.inl rfl))) (a4.kept hk (hs _ (.inr (.inl rfl)))) (cell_of_row _ _ 9 _ _ _ hg)
  · intro S w' hk hs g y hg
    refine (drop_10 w' g (s + 3) _ (a4.kept hk (hs _ (.inr (.inl rfl)))) hg rfl).mono ?_
    rintro e w'' ⟨rfl, rfl⟩
    refine ⟨rfl, ?_, ((Kept.refl (fun k => k = g) w').setCell (p := ⟨g, 9, none⟩) (.inl rfl) _)⟩
    have h0 := blkU_set hg 9 (.int .u64 0)
    exact h0
set_option maxRecDepth 100000 in
set_option maxHeartbeats 4000000 in
theorem part_ok_11 {B : Nat} {w : World} {pv : Value} (h : Part11 B w pv) : ∃ x : Q4, pv = q4v x ∧ PartOk 11 B w x := by
  obtain ⟨s, hb1, rfl, a1, a2, a3, a4⟩ := h
  refine ⟨⟨_, _, _, _⟩, rfl, PartAg_one _ _ _ _ _ _ _ _, fun k => k = s ∨ k = s + 3 ∨ k = s, 260, 263, #[pb s, pb (s + 3)], #[pb (s + 3)], ?_, ⟨rfl, rfl, ⟨_, _, rfl⟩, ⟨_, _, rfl⟩, fun args w => by kernel_rfl, fun args w => by kernel_rfl, ?_, ?_⟩⟩
  · rintro k (rfl | rfl | rfl)
    · exact ⟨hb1, _, _, _, a1, by decide⟩
    · exact ⟨by omega, _, _, _, a4, by decide⟩
    · exact ⟨hb1, _, _, _, a1, by decide⟩
  · intro S w' hk hs g y c H hg hm hnf
    exact right_11 w' g s y.ck y.cc y.ce y.cn hm.ce0 (a1.kept hk (hs _ (.inl rfl))) (a4.kept hk (hs _ (.inr (.inl rfl)))) ⟨cell_of_row _ _ 13 _ _ _ hg, cell_of_row _ _ 14 _ _ _ hg, cell_of_row _ _ 15 _ _ _ hg, cell_of_row _ _ 16 _ _ _ hg⟩
  · intro S w' hk hs g y hg
    refine (drop_11 w' g (s + 3) _ (a4.kept hk (hs _ (.inr (.inl rfl)))) hg rfl).mono ?_
    rintro e w'' ⟨rfl, W0, n, hk0, rfl⟩
    replace hg := hk0.heap (fun h => h) hg
    refine ⟨rfl, ?_, ((((((Kept.mono (T := fun k => k = g) hk0 (fun _ _ h => h.elim)).setCell (p := ⟨g, 13, none⟩) (.inl rfl) _).setCell (p := ⟨g, 14, none⟩) (.inl rfl) _).setCell (p := ⟨g, 15, none⟩) (.inl rfl) _).setCell (p := ⟨g, 16, none⟩) (.inl rfl) _).drewN n)⟩
    have h0 := blkU_set hg 13 (.int .i64 0)
    have h1 := blkU_set h0 14 (.int .i64 0)
    have h2 := blkU_set h1 15 (.int .u64 0)
    have h3 := blkU_set h2 16 (.int .i64 0)
    exact h3
set_option maxRecDepth 100000 in
set_option maxHeartbeats 4000000 in
theorem part_ok_12 {B : Nat} {w : World} {pv : Value} (h : Part12 B w pv) : ∃ x : Q4, pv = q4v x ∧ PartOk 12 B w x := by
  obtain ⟨s, hb1, rfl, a1, a2, a3, a4⟩ := h
  refine ⟨⟨_, _, _, _⟩, rfl, PartAg_one _ _ _ _ _ _ _ _, fun k => k = s ∨ k = s + 3 ∨ k = s, 266, 269, #[pb s, pb (s + 3)], #[pb (s + 3)], ?_, ⟨rfl, rfl, ⟨_, _, rfl⟩, ⟨_, _, rfl⟩, fun args w => by kernel_rfl, fun args w => by kernel_rfl, ?_, ?_⟩⟩
  · rintro k (rfl | rfl | rfl)
    · exact ⟨hb1, _, _, _, a1, by decide⟩
    · exact ⟨by omega, _, _, _, a4, by decide⟩
    · exact ⟨hb1, _, _, _, a1, by decide⟩
  · intro S w' hk hs g y c H hg hm hnf
    exact right_12 w' g s (lcf y c) y.gn H hm.ns hm.ge0 hm.ge1 hnf (a1.kept hk (hs _ (.inl rfl))) (a4.kept hk (hs _ (.inr (.inl rfl)))) ⟨cell_of_row _ _ 17 _ _ _ hg, cell_of_row _ _ 18 _ _ _ hg, cell_of_row _ _ 19 _ _ _ hg, cell_of_row _ _ 20 _ _ _ hg, cell_of_row _ _ 21 _ _ _ hg⟩
  · intro S w' hk hs g y hg
    refine (drop_12 w' g (s + 3) _ (a4.kept hk (hs _ (.inr (.inl rfl)))) hg rfl).mono ?_
    rintro e w'' ⟨rfl, W0, n, hk0, rfl⟩
    replace hg := hk0.heap (fun h => h) hg
    refine ⟨rfl, ?_, (((((((Kept.mono (T := fun k => k = g) hk0 (fun _ _ h => h.elim)).setCell (p := ⟨g, 17, none⟩) (.inl rfl) _).setCell (p := ⟨g, 18, none⟩) (.inl rfl) _).setCell (p := ⟨g, 19, none⟩) (.inl rfl) _).setCell (p := ⟨g, 20, none⟩) (.inl rfl) _).setCell (p := ⟨g, 21, none⟩) (.inl rfl) _).drewN n)⟩
    have h0 := blkU_set hg 17 (.int .i64 0)
    have h1 := blkU_set h0 18 (.int .u64 0)
    have h2 := blkU_set h1 19 (.slice none 0 0)
    have h3 := blkU_set h2 20 (.bool false)
    have h4 := blkU_set h3 21 (.int .i64 0)
    exact h4
set_option maxRecDepth 100000 in
set_option maxHeartbeats 4000000 in
theorem part_ok_13 {B : Nat} {w : World} {pv : Value} (h : Part13 B w pv) : ∃ x : Q4, pv = q4v x ∧ PartOk 13 B w x := by
  obtain ⟨s, hb1, rfl, a1, a2, a3, a4⟩ := h
  refine ⟨⟨_, _, _, _⟩, rfl, PartAg_one _ _ _ _ _ _ _ _, fun k => k = s ∨ k = s + 3 ∨ k = s, 272, 275, #[pb s, pb (s + 3)], #[pb (s + 3)], ?_, ⟨rfl, rfl, ⟨_, _, rfl⟩, ⟨_, _, rfl⟩, fun args w => by kernel_rfl, fun args w => by kernel_rfl, ?_, ?_⟩⟩
  · rintro k (rfl | rfl | rfl)
    · exact ⟨hb1, _, _, _, a1, by decide⟩
    · exact ⟨by omega, _, _, _, a4, by decide⟩
    · exact ⟨hb1, _, _, _, a1, by decide⟩
  · intro S w' hk hs g y c H hg hm hnf
    exact right_13 w' g s y.vo c.vs H hm.vs hm.vok (a1.kept hk (hs _ (.inl rfl))) (a4.kept hk (hs _ (.inr (.inl rfl)))) (cell_of_row _ _ 22 _ _ _ hg)
  · intro S w' hk hs g y hg
    refine (drop_13 w' g (s + 3) _ (a4.kept hk (hs _ (.inr (.inl rfl)))) hg rfl).mono ?_
    rintro e w'' ⟨rfl, rfl⟩
    refine ⟨rfl, ?_, ((Kept.refl (fun k => k = g) w').setCell (p := ⟨g, 22, none⟩) (.inl rfl) _)⟩
    have h0 := blkU_set hg 22 (.slice none 0 0)
    exact h0
set_option maxRecDepth 100000 in
set_option maxHeartbeats 4000000 in
theorem part_ok_14 {B : Nat} {w : World} {pv : Value} (h : Part14 B w pv) : ∃ x : Q4, pv = q4v x ∧ PartOk 14 B w x := by
  obtain ⟨s, hb1, rfl, a1, a2, a3, a4⟩ := h
  refine ⟨⟨_, _, _, _⟩, rfl, PartAg_one _ _ _ _ _ _ _ _, fun k => k = s ∨ k = s + 3 ∨ k = s, 276, 279, #[pb s, pb (s + 3)], #[pb (s + 3)], ?_, ⟨rfl, rfl, ⟨_, _, rfl⟩, ⟨_, _, rfl⟩, fun args w => by kernel_rfl, fun args w => by kernel_rfl, ?_, ?_⟩⟩
  · rintro k (rfl | rfl | rfl)
    · exact ⟨hb1, _, _, _, a1, by decide⟩
    · exact ⟨by omega, _, _, _, a4, by decide⟩
    · exact ⟨hb1, _, _, _, a1, by decide⟩
  · intro S w' hk hs g y c H hg hm hnf
    exact right_14 w' g s y.up c.us H hm.us (a1.kept hk (hs _ (.inl rfl))) (a4.kept hk (hs _ (.inr (.inl rfl)))) (cell_of_row _ _ 23 _ _ _ hg)
  · intro S w' hk hs g y hg
    refine (drop_14 w' g (s + 3) _ (a4.kept hk (hs _ (.inr (.inl rfl)))) hg rfl).mono ?_
    rintro e w'' ⟨rfl, rfl⟩
    refine ⟨rfl, ?_, ((Kept.refl (fun k => k = g) w').setCell (p := ⟨g, 23, none⟩) (.inl rfl) _)⟩
    have h0 := blkU_set hg 23 (.slice none 0 0)
    exact h0
set_option maxRecDepth 100000 in
set_option maxHeartbeats 4000000 in
theorem part_ok_15 {B : Nat} {w : World} {pv : Value} (h : Part15 B w pv) : ∃ x : Q4, pv = q4v x ∧ PartOk 15 B w x := by
  obtain ⟨s, hb1, rfl, a1, a2, a3, a4⟩ := h
  refine ⟨⟨_, _, _, _⟩, rfl, PartAg_one _ _ _ _ _ _ _ _, fun k => k = s ∨ k = s + 3 ∨ k = s, 276, 279, #[pb s, pb (s + 3)], #[pb (s + 3)], ?_, ⟨rfl, rfl, ⟨_, _, rfl⟩, ⟨_, _, rfl⟩, fun args w => by kernel_rfl, fun args w => by kernel_rfl, ?_, ?_⟩⟩
  · rintro k (rfl | rfl | rfl)
    · exact ⟨hb1, _, _, _, a1, by decide⟩
    · exact ⟨by omega, _, _, _, a4, by decide⟩
    · exact ⟨hb1, _, _, _, a1, by decide⟩
  · intro S w' hk hs g y c H hg hm hnf
    exact right_15 w' g s y.up c.us H hm.us (a1.kept hk (hs _ (.inl rfl))) (a4.kept hk (hs _ (.inr (.inl rfl)))) (cell_of_row _ _ 23 _ _ _ hg)
  · intro S w' hk hs g y hg
    refine (drop_15 w' g (s + 3) _ (a4.kept hk (hs _ (.inr (.inl rfl)))) hg rfl).mono ?_
    rintro e w'' ⟨rfl, rfl⟩
    refine ⟨rfl, ?_, ((Kept.refl (fun k => k = g) w').setCell (p := ⟨g, 23, none⟩) (.inl rfl) _)⟩
    have h0 := blkU_set hg 23 (.slice none 0 0)
    exact h0
set_option maxRecDepth 100000 in
set_option maxHeartbeats 4000000 in
theorem part_ok_16 {B : Nat} {w : World} {pv : Value} (h : Part16 B w pv) : ∃ x : Q4, pv = q4v x ∧ PartOk 16 B w x := by
  obtain ⟨s, bm, hb1, hB, rfl, a1, a4, hbm⟩ := h
  refine ⟨⟨_, _, _, _⟩, rfl, PartAg_one _ _ _ _ _ _ _ _, fun k => k = s ∨ k = s + 3 ∨ k = bm, 325, 328, #[pb s, pb (s + 3)], #[pb (s + 3)], ?_, ⟨rfl, rfl, ⟨_, _, rfl⟩, ⟨_, _, rfl⟩, fun args w => by kernel_rfl, fun args w => by kernel_rfl, ?_, ?_⟩⟩
  · rintro k (rfl | rfl | rfl)
    · exact ⟨hb1, _, _, _, a1, by decide⟩
    · exact ⟨by omega, _, _, _, a4, by decide⟩
    · exact ⟨hB, _, _, _, hbm, by decide⟩
  · intro S w' hk hs g y c H hg hm hnf
    exact right_16 w' g s bm y.da c.ds H hm.ds (hbm.kept hk (hs _ (.inr (.inr rfl)))) (a1.kept hk (hs _ (.inl rfl))) (a4.kept hk (hs _ (.inr (.inl rfl)))) (cell_of_row _ _ 24 _ _ _ hg)
  · intro S w' hk hs g y hg
    refine (drop_16 w' g (s + 3) _ (a4.kept hk (hs _ (.inr (.inl rfl)))) hg rfl).mono ?_
    rintro e w'' ⟨rfl, rfl⟩
    refine ⟨rfl, ?_, ((Kept.refl (fun k => k = g) w').setCell (p := ⟨g, 24, none⟩) (.inl rfl) _)⟩
    have h0 := blkU_set hg 24 (.slice none 0 0)
    exact h0
set_option maxRecDepth 100000 in
set_option maxHeartbeats 4000000 in
theorem part_ok_17 {B : Nat} {w : World} {pv : Value} (h : Part17 B w pv) : ∃ x : Q4, pv = q4v x ∧ PartOk 17 B w x := by
  obtain ⟨s, bm, hb1, hB, rfl, a1, a4, hbm⟩ := h
  refine ⟨⟨_, _, _, _⟩, rfl, PartAg_one _ _ _ _ _ _ _ _, fun k => k = s ∨ k = s + 3 ∨ k = bm, 325, 328, #[pb s, pb (s + 3)], #[pb (s + 3)], ?_, ⟨rfl, rfl, ⟨_, _, rfl⟩, ⟨_, _, rfl⟩, fun args w => by kernel_rfl, fun args w => by kernel_rfl, ?_, ?_⟩⟩
  · rintro k (rfl | rfl | rfl)
    · exact ⟨hb1, _, _, _, a1, by decide⟩
    · exact ⟨by omega, _, _, _, a4, by decide⟩
    · exact ⟨hB, _, _, _, hbm, by decide⟩
  · intro S w' hk hs g y c H hg hm hnf
    exact right_17 w' g s bm y.da c.ds H hm.ds (hbm.kept hk (hs _ (.inr (.inr rfl)))) (a1.kept hk (hs _ (.inl rfl))) (a4.kept hk (hs _ (.inr (.inl rfl)))) (cell_of_row _ _ 24 _ _ _ hg)
  · intro S w' hk hs g y hg
    refine (drop_16 w' g (s + 3) _ (a4.kept hk (hs _ (.inr (.inl rfl)))) hg rfl).mono ?_
    rintro e w'' ⟨rfl, rfl⟩
    refine ⟨rfl, ?_, ((Kept.refl (fun k => k = g) w').setCell (p := ⟨g, 24, none⟩) (.inl rfl) _)⟩
    have h0 := blkU_set hg 24 (.slice none 0 0)
    exact h0
/-- partAt, of any bit. -/
theorem partAt_ok (i : Nat) (hi : i < 18) (w : World) (B : Nat) (hB : B ≤ w.heap.size) : Calls Tryz.prog 125 #[.int .u32 (bitN i)] w fun e w' => ∃ x : Q4, e = .returned (q4v x) ∧ PartOk i B w' x ∧ Kept NoB w w' := by
  have hcase : i = 0 ∨ i = 1 ∨ i = 2 ∨ i = 3 ∨ i = 4 ∨ i = 5 ∨ i = 6 ∨ i = 7 ∨ i = 8 ∨ i = 9 ∨ i = 10 ∨ i = 11 ∨ i = 12 ∨ i = 13 ∨ i = 14 ∨ i = 15 ∨ i = 16 ∨ i = 17 := by omega
  rcases hcase with rfl | rfl | rfl | rfl | rfl | rfl | rfl | rfl | rfl | rfl | rfl | rfl | rfl | rfl | rfl | rfl | rfl | rfl
  · refine (partAt_0 w B hB).mono ?_
    rintro e w' ⟨pv, rfl, hp, hk⟩
    obtain ⟨x, rfl, hx⟩ := part_ok_0 hp
    exact ⟨x, rfl, hx, hk⟩
  · refine (partAt_1 w B hB).mono ?_
    rintro e w' ⟨pv, rfl, hp, hk⟩
    obtain ⟨x, rfl, hx⟩ := part_ok_1 hp
    exact ⟨x, rfl, hx, hk⟩
  · refine (partAt_2 w B hB).mono ?_
    rintro e w' ⟨pv, rfl, hp, hk⟩
    obtain ⟨x, rfl, hx⟩ := part_ok_2 hp
    exact ⟨x, rfl, hx, hk⟩
  · refine (partAt_3 w B hB).mono ?_
    rintro e w' ⟨pv, rfl, hp, hk⟩
    obtain ⟨x, rfl, hx⟩ := part_ok_3 hp
    exact ⟨x, rfl, hx, hk⟩
  · refine (partAt_4 w B hB).mono ?_
    rintro e w' ⟨pv, rfl, hp, hk⟩
    obtain ⟨x, rfl, hx⟩ := part_ok_4 hp
    exact ⟨x, rfl, hx, hk⟩
  · refine (partAt_5 w B hB).mono ?_
    rintro e w' ⟨pv, rfl, hp, hk⟩
    obtain ⟨x, rfl, hx⟩ := part_ok_5 hp
    exact ⟨x, rfl, hx, hk⟩
  · refine (partAt_6 w B hB).mono ?_
    rintro e w' ⟨pv, rfl, hp, hk⟩
    obtain ⟨x, rfl, hx⟩ := part_ok_6 hp
    exact ⟨x, rfl, hx, hk⟩
  · refine (partAt_7 w B hB).mono ?_
    rintro e w' ⟨pv, rfl, hp, hk⟩
    obtain ⟨x, rfl, hx⟩ := part_ok_7 hp
    exact ⟨x, rfl, hx, hk⟩
  · refine (partAt_8 w B hB).mono ?_
    rintro e w' ⟨pv, rfl, hp, hk⟩
    obtain ⟨x, rfl, hx⟩ := part_ok_8 hp
    exact ⟨x, rfl, hx, hk⟩
  · refine (partAt_9 w B hB).mono ?_
    rintro e w' ⟨pv, rfl, hp, hk⟩
    obtain ⟨x, rfl, hx⟩ := part_ok_9 hp
    exact ⟨x, rfl, hx, hk⟩
  · refine (partAt_10 w B hB).mono ?_
    rintro e w' ⟨pv, rfl, hp, hk⟩
    obtain ⟨x, rfl, hx⟩ := part_ok_10 hp
    exact ⟨x, rfl, hx, hk⟩
  · refine (partAt_11 w B hB).mono ?_
    rintro e w' ⟨pv, rfl, hp, hk⟩
    obtain ⟨x, rfl, hx⟩ := part_ok_11 hp
    exact ⟨x, rfl, hx, hk⟩
  · refine (partAt_12 w B hB).mono ?_
    rintro e w' ⟨pv, rfl, hp, hk⟩
    obtain ⟨x, rfl, hx⟩ := part_ok_12 hp
    exact ⟨x, rfl, hx, hk⟩
  · refine (partAt_13 w B hB).mono ?_
    rintro e w' ⟨pv, rfl, hp, hk⟩
    obtain ⟨x, rfl, hx⟩ := part_ok_13 hp
    exact ⟨x, rfl, hx, hk⟩
  · refine (partAt_14 w B hB).mono ?_
    rintro e w' ⟨pv, rfl, hp, hk⟩
    obtain ⟨x, rfl, hx⟩ := part_ok_14 hp
    exact ⟨x, rfl, hx, hk⟩
  · refine (partAt_15 w B hB).mono ?_
    rintro e w' ⟨pv, rfl, hp, hk⟩
    obtain ⟨x, rfl, hx⟩ := part_ok_15 hp
    exact ⟨x, rfl, hx, hk⟩
  · refine (partAt_16 w B hB).mono ?_
    rintro e w' ⟨pv, rfl, hp, hk⟩
    obtain ⟨x, rfl, hx⟩ := part_ok_16 hp
    exact ⟨x, rfl, hx, hk⟩
  · refine (partAt_17 w B hB).mono ?_
    rintro e w' ⟨pv, rfl, hp, hk⟩
    obtain ⟨x, rfl, hx⟩ := part_ok_17 hp
    exact ⟨x, rfl, hx, hk⟩
end Go.Proofs.YtcbenminaakahaaGreatDoor
