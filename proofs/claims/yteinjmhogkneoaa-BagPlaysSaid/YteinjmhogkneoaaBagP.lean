/-
  The walk of BagPlays.
-/
import Derived.Test.YteinjmhogkneoaaBagD
import Derived.Test.YteinjmhogkneoaaBagAA
import Derived.Test.YteinjmhogkneoaaBagAC
namespace Go.Proofs.Yteinjmhogkneoaa
open Go.RowKit Go.Shelf
set_option linter.unusedVariables false

theorem step_any (w0 : World) (B g : Nat) (row : Option Nat) (most last : Int) (a : Option Addr) (c : Nat) (l : List It) (kd i v : Int) (w : World) (h0 : Kept NoB w0 w) (hB0 : w0.heap.size ≤ B) (hBw : B ≤ w.heap.size) (hb : Bg B w g row (max most 0) last l) (hr : RRow B w a c l) (hinc : Inc last l) (hl : l.length ≤ 1000) (hla : 0 ≤ last) (hla2 : last ≤ 1000) :
    Calls Try.prog 8 #[.pointer (some ⟨g, 0, none⟩), rbv most last a l.length c, .agg #[.int .i64 kd, .int .i64 i, .int .i64 v]] w (StQ w0 w B g most last l.length) := by
  by_cases k0 : kd = 0
  · subst k0; exact step0 w0 B g row most last a c l i v w h0 hB0 hBw hb hr hinc hl hla hla2
  by_cases k1 : kd = 1
  · subst k1; exact step1 w0 B g row most last a c l i v w h0 hB0 hBw hb hr hinc hl hla hla2
  by_cases k2 : kd = 2
  · subst k2; exact step2 w0 B g row most last a c l i v w h0 hB0 hBw hb hr hinc hl
  by_cases k3 : kd = 3
  · subst k3; exact step3 w0 B g row most last a c l i v w h0 hB0 hBw hb hr hinc hl
  by_cases k4 : kd = 4
  · subst k4; exact step4 w0 B g row most last a c l i v w h0 hB0 hBw hb hr hinc hl
  exact step5 w0 B g row most last a c l kd i v k0 k1 k2 k3 k4 w h0 hB0 hBw hb hr hinc hl
/-- Between two calls of BagPlays. -/
def PlI (w : World) (g b6 : Nat) (most : Int) (k : Nat) (wr : World) : Prop :=
  ∃ (la : Int) (l : List It) (row : Option Nat) (a : Option Addr) (c : Nat), 0 ≤ la ∧ la ≤ k ∧ l.length ≤ k ∧ Inc la l ∧ Bg w.heap.size wr g row (max most 0) la l ∧ RRow w.heap.size wr a c l ∧ wr.heap[b6]? = some (.cells #[.int .i64 most, .int .i64 la, .slice a l.length c] 27 (0, 0)) ∧ Kept NoB w wr
theorem PlI.put {w w5 : World} {g b6 k : Nat} {most la la0 : Int} {l : List It} {row : Option Nat} {a a0 : Option Addr} {c n0 c0 : Nat} (h1 : 0 ≤ la) (h2 : la ≤ k) (h3 : l.length ≤ k) (hi : Inc la l) (hb : Bg w.heap.size w5 g row (max most 0) la l) (hr : RRow w.heap.size w5 a c l) (h6 : w5.heap[b6]? = some (.cells #[.int .i64 most, .int .i64 la0, .slice a0 n0 c0] 27 (0, 0))) (hk : Kept NoB w w5) (hw : w.heap.size ≤ b6) :
    (Bg w.heap.size (((w5.setCell ⟨b6, 0, none⟩ (.int .i64 most)).setCell ⟨b6, 1, none⟩ (.int .i64 la)).setCell ⟨b6, 2, none⟩ (.slice a l.length c)) g row (max most 0) la l ∧ RRow w.heap.size (((w5.setCell ⟨b6, 0, none⟩ (.int .i64 most)).setCell ⟨b6, 1, none⟩ (.int .i64 la)).setCell ⟨b6, 2, none⟩ (.slice a l.length c)) a c l) ∧ PlI w g b6 most k (((w5.setCell ⟨b6, 0, none⟩ (.int .i64 most)).setCell ⟨b6, 1, none⟩ (.int .i64 la)).setCell ⟨b6, 2, none⟩ (.slice a l.length c)) := by
  obtain ⟨_, _, _, _, _, _, hown, hrow, hgl, hh⟩ := hb.cells
  have hko := Kept.one (Kept.one (Kept.one (Kept.refl (One b6) w5) 0 (.int .i64 most)) 1 (.int .i64 la)) 2 (.slice a l.length c)
  have b1 := blk_set (blk_set (blk_set h6 0 (.int .i64 most)) 1 (.int .i64 la)) 2 (.slice a l.length c)
  have HBB : Bg w.heap.size (((w5.setCell ⟨b6, 0, none⟩ (.int .i64 most)).setCell ⟨b6, 1, none⟩ (.int .i64 la)).setCell ⟨b6, 2, none⟩ (.slice a l.length c)) g row (max most 0) la l := by
    refine hb.kept hko (fun h2 => blk_ne hh h6 (by decide) h2) (fun r hr' h9 => ?_)
    have h9 : r = b6 := h9
    subst h9
    rcases hown.2 with ⟨hv, _⟩ | ⟨r2, cap, cur, hv, _, hh2, _⟩
    · rw [hv] at hrow; rw [← hrow] at hr'; cases hr'
    · rw [hv] at hrow
      rw [← hrow] at hr'
      injection hr' with hr'
      subst hr'
      exact blk_ne h6 hh2 (by decide) rfl
  have HRR : RRow w.heap.size (((w5.setCell ⟨b6, 0, none⟩ (.int .i64 most)).setCell ⟨b6, 1, none⟩ (.int .i64 la)).setCell ⟨b6, 2, none⟩ (.slice a l.length c)) a c l := RRow.kept hr hko (fun k cs fr hh2 h9 => blk_ne hh2 h6 (by decide) h9)
  refine ⟨⟨HBB, HRR⟩, la, l, row, a, c, h1, h2, h3, hi, HBB, HRR, b1, ((hk.setCell (p := ⟨b6, 0, none⟩) (.inr hw) _).setCell (p := ⟨b6, 1, none⟩) (.inr hw) _).setCell (p := ⟨b6, 2, none⟩) (.inr hw) _⟩
theorem PlI.low {w wr : World} {g b6 k : Nat} {most : Int} (h : PlI w g b6 most k wr) : w.heap.size ≤ wr.heap.size := by
  obtain ⟨la, l, row, a, c, h1, h2, h3, h4, h5, h6, h7, h8⟩ := h
  exact h8.size
theorem PlI.no {w wr w' : World} {g b6 k : Nat} {most : Int} (h : PlI w g b6 most k wr) (hk : Kept NoB wr w') : PlI w g b6 most k w' := by
  obtain ⟨la, l, row, a, c, h1, h2, h3, h4, h5, h6, h7, h8⟩ := h
  exact ⟨la, l, row, a, c, h1, h2, h3, h4, h5.keptNo hk, h6.no hk, hk.heap (fun h => h) h7, h8.trans hk (fun _ _ h => h)⟩
/-- Behind a step, its answer laid into the round's own variable. -/
structure Mid (w W8 : World) (g b6 t8 : Nat) (most la : Int) (a : Option Addr) (n c : Nat) (la5 : Int) (l5 : List It) (row5 : Option Nat) (a5 : Option Addr) (c5 : Nat) : Prop where
  bg : Bg w.heap.size W8 g row5 (max most 0) la5 l5
  rr : RRow w.heap.size W8 a5 c5 l5
  ht8 : W8.heap[t8]? = some (.cells #[.int .i64 most, .int .i64 la5, .slice a5 l5.length c5] 27 (0, 0))
  hb6 : W8.heap[b6]? = some (.cells #[.int .i64 most, .int .i64 la, .slice a n c] 27 (0, 0))
  ne : b6 ≠ t8
  kept : Kept NoB w W8
theorem mid_A {w w5 : World} {g b6 : Nat} {most la la5 : Int} {a a5 : Option Addr} {n c c5 : Nat} {l5 : List It} {row5 : Option Nat} (hb : Bg w.heap.size w5 g row5 (max most 0) la5 l5) (hr : RRow w.heap.size w5 a5 c5 l5) (hk : Kept NoB w w5)
    (h6 : w5.heap[b6]? = some (.cells #[.int .i64 most, .int .i64 la, .slice a n c] 27 (0, 0))) :
    Mid w (w5.alloc (.cells #[.int .i64 most, .int .i64 la5, .slice a5 l5.length c5] 27)) g b6 w5.heap.size most la a n c la5 l5 row5 a5 c5 :=
  ⟨hb.alloc _, hr.alloc _, heap_alloc_new w5 _, blk_alloc h6 _, by have := heap_lt h6; omega, hk.alloc _⟩
theorem mid_B {w w5 : World} {g b6 t8 : Nat} {most la la5 : Int} {a a5 : Option Addr} {n c c5 : Nat} {l5 : List It} {row5 : Option Nat} (hb : Bg w.heap.size w5 g row5 (max most 0) la5 l5) (hr : RRow w.heap.size w5 a5 c5 l5) (hk : Kept NoB w w5)
    (h6 : w5.heap[b6]? = some (.cells #[.int .i64 most, .int .i64 la, .slice a n c] 27 (0, 0)))
    (h8 : w5.heap[t8]? = some (.cells #[.int .i64 0, .int .i64 0, .slice none 0 0] 27 (0, 0))) (hw : w.heap.size ≤ t8) (hne : b6 ≠ t8) :
    Mid w (((w5.setCell ⟨t8, 0, none⟩ (.int .i64 most)).setCell ⟨t8, 1, none⟩ (.int .i64 la5)).setCell ⟨t8, 2, none⟩ (.slice a5 l5.length c5)) g b6 t8 most la a n c la5 l5 row5 a5 c5 := by
  obtain ⟨_, _, _, _, _, _, hown, hrow, hgl, hh⟩ := hb.cells
  have hko := Kept.one (Kept.one (Kept.one (Kept.refl (One t8) w5) 0 (.int .i64 most)) 1 (.int .i64 la5)) 2 (.slice a5 l5.length c5)
  refine ⟨hb.kept hko (fun h2 => blk_ne hh h8 (by decide) h2) (fun r hr' h9 => ?_), RRow.kept hr hko (fun k cs fr hh2 h9 => blk_ne hh2 h8 (by decide) h9), blk_set (blk_set (blk_set h8 0 _) 1 _) 2 _, blk_set_other (blk_set_other (blk_set_other h6 0 _ (Ne.symm hne)) 1 _ (Ne.symm hne)) 2 _ (Ne.symm hne), hne, ((hk.setCell (p := ⟨t8, 0, none⟩) (.inr hw) _).setCell (p := ⟨t8, 1, none⟩) (.inr hw) _).setCell (p := ⟨t8, 2, none⟩) (.inr hw) _⟩
  have h9 : r = t8 := h9
  subst h9
  rcases hown.2 with ⟨hv, _⟩ | ⟨r2, cap, cur, hv, _, hh2, _⟩
  · rw [hv] at hrow; rw [← hrow] at hr'; cases hr'
  · rw [hv] at hrow
    rw [← hrow] at hr'
    injection hr' with hr'
    subst hr'
    exact blk_ne h8 hh2 (by decide) rfl
theorem Mid.c {w W8 : World} {g b6 t8 : Nat} {most la la5 : Int} {a a5 : Option Addr} {n c c5 : Nat} {l5 : List It} {row5 : Option Nat} (h : Mid w W8 g b6 t8 most la a n c la5 l5 row5 a5 c5) :
    (W8.cell? ⟨t8, 0, none⟩ = some (.int .i64 most) ∧ W8.cell? ⟨t8, 1, none⟩ = some (.int .i64 la5) ∧ W8.cell? ⟨t8, 2, none⟩ = some (.slice a5 l5.length c5)) ∧
    (W8.cell? ⟨b6, 0, none⟩ = some (.int .i64 most) ∧ W8.cell? ⟨b6, 1, none⟩ = some (.int .i64 la) ∧ W8.cell? ⟨b6, 2, none⟩ = some (.slice a n c)) ∧
    (W8.frozen? ⟨b6, 0, none⟩ = false ∧ W8.frozen? ⟨b6, 1, none⟩ = false ∧ W8.frozen? ⟨b6, 2, none⟩ = false) ∧ ¬ b6 = t8 ∧ ¬ t8 = b6 :=
  ⟨⟨cell_of_row _ _ 0 _ _ _ h.ht8, cell_of_row _ _ 1 _ _ _ h.ht8, cell_of_row _ _ 2 _ _ _ h.ht8⟩, ⟨cell_of_row _ _ 0 _ _ _ h.hb6, cell_of_row _ _ 1 _ _ _ h.hb6, cell_of_row _ _ 2 _ _ _ h.hb6⟩, ⟨blk_frozen0 h.hb6 0, blk_frozen0 h.hb6 1, blk_frozen0 h.hb6 2⟩, h.ne, Ne.symm h.ne⟩
set_option maxRecDepth 100000 in
set_option maxHeartbeats 4000000 in
theorem BagPlays_any (most : Int) (v : Value) (n : Nat) (it : Nat → Op') (w : World) (h : OpsAt w v n it) :
    Calls Try.prog 3 #[.int .i64 most, v] w fun e w' => e = .returned (.bool true) ∧ Kept NoB w w' := by
  obtain ⟨a, cap, rfl, hn, hc⟩ := h
  have HC := Lib.hid hc
  clear hc
  go_enter Try.func3, Try.ntmps3
  go_wp2_with fail
  refine (BNew_any w.heap.size most w (Nat.le_refl _)).mono ?_
  rintro e w1 ⟨rfl, hb1, hk1⟩
  have hs1 := hk1.size
  have hkA := hk1.alloc (.cells #[.int .i64 most, .int .i64 0, .slice none 0 0] 27)
  obtain ⟨g, hg⟩ : ∃ g, g = w.heap.size := ⟨_, rfl⟩
  rw [← hg] at hb1 ⊢
  have HP := Lib.hid (show PlI w g w1.heap.size most 0 (w1.alloc (.cells #[.int .i64 most, .int .i64 0, .slice none 0 0] 27)) from
    ⟨0, [], none, none, 0, by omega, by omega, by simp, Inc.nil, (by rw [hg] at hb1 ⊢; exact hb1.alloc _), World.ownsRow_nil _ _ _ _, heap_alloc_new w1 _, hkA⟩)
  clear hb1 hk1 hkA hg
  go_wp2
  obtain ⟨b6, hb6⟩ : ∃ b6, b6 = w1.heap.size := ⟨_, rfl⟩
  rw [← hb6] at HP ⊢
  have hw6 : w.heap.size ≤ b6 := by omega
  clear hb6 hs1
  go_loopw [7] (fun i wr => ∃ k : Nat, i = .int .i64 k ∧ k ≤ n ∧ k ≤ 60 ∧ PlI w g b6 most k wr) (fun i _ => 60 - (intOf i).toNat)
  case atStart => exact ⟨0, rfl, by omega, by omega, HP.out⟩
  case round =>
    obtain ⟨k, rfl, hk, hk60, hpl⟩ := hrel
    have HPL := Lib.hid hpl
    obtain ⟨la, l, row, a', c', g1, g2, g3, g4, g5, g6, g7, g8⟩ := hpl
    by_cases hlt : k < n
    · by_cases h60 : k < 60
      · obtain ⟨b, o, rfl, hb, hcell⟩ := HC.out (by omega)
        obtain ⟨e0, e1, e2⟩ := hcell k hlt
        have c0 := g8.cell (p := ⟨b, o + k * 3, none⟩) (fun h => h) e0
        have c1 := g8.cell (p := ⟨b, o + k * 3 + 1, none⟩) (fun h => h) e1
        have c2 := g8.cell (p := ⟨b, o + k * 3 + 2, none⟩) (fun h => h) e2
        have q0 : wr.cell? ⟨b6, 0, none⟩ = some (.int .i64 most) := cell_of_row _ _ 0 _ _ _ g7
        have q1 : wr.cell? ⟨b6, 1, none⟩ = some (.int .i64 la) := cell_of_row _ _ 1 _ _ _ g7
        have q2 : wr.cell? ⟨b6, 2, none⟩ = some (.slice a' l.length c') := cell_of_row _ _ 2 _ _ _ g7
        obtain ⟨kd, hkd⟩ : ∃ kd, kd = (it k).kind := ⟨_, rfl⟩
        obtain ⟨x, hx⟩ : ∃ x, x = (it k).i := ⟨_, rfl⟩
        obtain ⟨y, hy⟩ : ∃ y, y = (it k).v := ⟨_, rfl⟩
        rw [← hkd] at c0
        rw [← hx] at c1
        rw [← hy] at c2
        have hkn : (k : Int) < (n : Int) := by omega
        have hsz := g8.size
        have HSTEP := Lib.hid (fun (W : World) (hk : Kept NoB wr W) => step_any w w.heap.size g row most la a' c' l kd x y W (g8.trans hk (fun _ _ h => h)) (Nat.le_refl _) (Nat.le_trans hsz hk.size) (g5.keptNo hk) (g6.no hk) g4 (by omega) g1 (by omega))
        have H7 := Lib.hid g7
        clear hcell e0 e1 e2 hkd hx hy hb g4 g5 g6 g7 g8
        go_wp2_with fail
        have w0a := cell_alloc q0 (.cells #[.int .i64 0, .int .i64 0, .slice none 0 0] 27)
        have w1a := cell_alloc q1 (.cells #[.int .i64 0, .int .i64 0, .slice none 0 0] 27)
        have w2a := cell_alloc q2 (.cells #[.int .i64 0, .int .i64 0, .slice none 0 0] 27)
        have u0a := cell_alloc c0 (.cells #[.int .i64 0, .int .i64 0, .slice none 0 0] 27)
        have u1a := cell_alloc c1 (.cells #[.int .i64 0, .int .i64 0, .slice none 0 0] 27)
        have u2a := cell_alloc c2 (.cells #[.int .i64 0, .int .i64 0, .slice none 0 0] 27)
        go_region_law (first
          | (go_simp; go_at_call 8; refine (HSTEP.out _ (by first | exact Kept.refl NoB _ | exact (Kept.refl NoB _).drew)).mono ?_; rintro e w5 ⟨v5, rfl, la5, l5, row5, a5, c5, rfl, hb5, hr5, hi5, hl5, hx5, hy5, hk5, ho5⟩; have HM := Lib.hid (mid_A hb5 hr5 hk5 (ho5 b6 _ _ H7.out)); have hltA := heap_lt (ho5 b6 _ _ H7.out); have HI5 := Lib.hid hi5; clear hb5 hr5 hi5 hk5 ho5)
          | (go_simp; go_at_call 8; refine (HSTEP.out _ (by first | exact (Kept.refl NoB _).alloc _ | exact ((Kept.refl NoB _).alloc _).drew)).mono ?_; rintro e w5 ⟨v5, rfl, la5, l5, row5, a5, c5, rfl, hb5, hr5, hi5, hl5, hx5, hy5, hk5, ho5⟩; have h85 := ho5 wr.heap.size _ _ (heap_alloc_new wr _); have HM := Lib.hid (mid_B (t8 := wr.heap.size) hb5 hr5 hk5 (ho5 b6 _ _ (blk_alloc H7.out _)) h85 (by omega) (by have := heap_lt H7.out; omega)); have x0 : w5.cell? ⟨wr.heap.size, 0, none⟩ = some (.int .i64 0) := cell_of_row _ _ 0 _ _ _ h85; have x1 : w5.cell? ⟨wr.heap.size, 1, none⟩ = some (.int .i64 0) := cell_of_row _ _ 1 _ _ _ h85; have x2 : w5.cell? ⟨wr.heap.size, 2, none⟩ = some (.slice none 0 0) := cell_of_row _ _ 2 _ _ _ h85; have f0 : w5.frozen? ⟨wr.heap.size, 0, none⟩ = false := blk_frozen0 h85 0; have f1 : w5.frozen? ⟨wr.heap.size, 1, none⟩ = false := blk_frozen0 h85 1; have f2 : w5.frozen? ⟨wr.heap.size, 2, none⟩ = false := blk_frozen0 h85 2; clear h85; have HI5 := Lib.hid hi5; clear hb5 hr5 hi5 hk5 ho5))
        all_goals
          first
            | (obtain ⟨W8, hW8⟩ : ∃ W8, W8 = w5.alloc (.cells #[.int .i64 most, .int .i64 la5, .slice a5 l5.length c5] 27) := ⟨_, rfl⟩; rw [← hW8] at HM ⊢)
            | (obtain ⟨W8, hW8⟩ : ∃ W8, W8 = ((w5.setCell ⟨wr.heap.size, 0, none⟩ (.int .i64 most)).setCell ⟨wr.heap.size, 1, none⟩ (.int .i64 la5)).setCell ⟨wr.heap.size, 2, none⟩ (.slice a5 l5.length c5) := ⟨_, rfl⟩; rw [← hW8] at HM ⊢)
          obtain ⟨⟨t0, t1, t2⟩, ⟨y0, y1, y2⟩, ⟨z0, z1, z2⟩, n8, n9⟩ := HM.out.c
          clear hW8 q0 q1 q2 c0 c1 c2 w0a w1a w2a u0a u1a u2a
          have hm := HM.out
          have hpl := PlI.put (k := k + 1) (by omega) (by omega) (by omega) HI5.out hm.bg hm.rr hm.hb6 hm.kept hw6
          have HPUT := Lib.hid hpl
          clear hpl hm
          go_wp2_with fail
          refine (same_any w.heap.size g row5 (max most 0) most la5 a5 c5 l5 _ HPUT.out.1.1 HPUT.out.1.2 (by omega) HPUT.out.2.low).mono ?_
          rintro e w9 ⟨rfl, hk9⟩
          have HNX := Lib.hid (HPUT.out.2.no hk9)
          clear hk9
          go_wp2
          exact ⟨⟨k + 1, by go_num, by omega, by omega, HNX.out⟩, by simp [intOf]; omega⟩
      · obtain rfl : k = 60 := by omega
        have HK := Lib.hid g8
        clear g4 g5 g6 g7 g8
        go_wp2_with fail
        refine (awake6_any _).mono ?_
        rintro e w2 ⟨rfl, hk2⟩
        go_wp2
        go_ret
        exact ⟨rfl, HK.out.trans hk2 (fun _ _ h => h)⟩
    · obtain rfl : k = n := by omega
      have HK := Lib.hid g8
      clear g4 g5 g6 g7 g8
      go_wp2_with fail
      refine (awake6_any _).mono ?_
      rintro e w2 ⟨rfl, hk2⟩
      go_wp2
      go_ret
      exact ⟨rfl, HK.out.trans hk2 (fun _ _ h => h)⟩
end Go.Proofs.Yteinjmhogkneoaa
