/-
  The law's step: Set.
-/
import Derived.Test.YteinjmhogkneoaaBagJ
import Derived.Deep.RegionHeld3
namespace Go.Proofs.Yteinjmhogkneoaa
open Go.RowKit Go.Shelf
set_option linter.unusedVariables false

theorem nth_sett (l : List It) (k : Nat) (v : Int) (hk : k < l.length) (j : Nat) (hj : j < l.length) : (nth (sett l k v) j).1 = (nth l j).1 := by
  unfold sett
  by_cases h : k = j
  · subst h
    unfold nth
    rw [List.getD_eq_getElem?_getD, List.getElem?_set_self hk]
    rfl
  · unfold nth
    rw [List.getD_eq_getElem?_getD, List.getElem?_set_ne h, List.getD_eq_getElem?_getD]
theorem Inc.sett {la : Int} {l : List It} (h : Inc la l) (k : Nat) (v : Int) (hk : k < l.length) : Inc la (sett l k v) := by
  refine ⟨fun i j hij hj => ?_, fun i hi => ?_⟩
  · rw [sett_len] at hj
    rw [nth_sett l k v hk i (by omega), nth_sett l k v hk j hj]
    exact h.1 i j hij hj
  · rw [sett_len] at hi
    rw [nth_sett l k v hk i hi]
    exact h.2 i hi
theorem set_key (B g : Nat) (row : Option Nat) (most last : Int) (a : Option Addr) (c : Nat) (l : List It) (i v : Int) (hinc : Inc last l) (hl : l.length ≤ 1000) :
    ∃ (ok : Bool) (l' : List It), Inc last l' ∧ l'.length ≤ l.length + 1 ∧
      (∀ W, B ≤ W.heap.size → RRow B W a c l → Calls Try.prog 27 #[rbv most last a l.length c, .int .i64 i, .int .i64 v] W fun e w' => ∃ b, e = .returned b ∧ RB B W most last l' b w') ∧
      (∀ W, Bg B W g row (max most 0) last l → Calls Try.prog 22 #[.pointer (some ⟨g, 0, none⟩), .int .i64 i, .int .i64 v] W fun e w' => e = .returned (.bool ok) ∧ Bg B w' g row (max most 0) last l' ∧ Kept (Tw g row) W w') ∧
      (∀ W, Calls Try.prog 28 #[rbv most last a l.length c, .int .i64 i] W fun e w' => e = .returned (.bool ok) ∧ Kept NoB W w') := by
  by_cases hin : 0 ≤ i ∧ i < (l.length : Int)
  · obtain ⟨k, rfl⟩ : ∃ k : Nat, i = k := ⟨i.toNat, by omega⟩
    have hk : k < l.length := by omega
    exact ⟨true, sett l k v, hinc.sett k v hk, by rw [sett_len]; omega, fun W hW hrW => RSet_yes B most last a c l k v W hrW hk (by omega) hW, fun W hbW => BSet_yes B g row (max most 0) last l k v W hbW hk, fun W => RHas_yes most last a l.length c k W hk⟩
  · refine ⟨false, l, hinc, by omega, fun W hW hrW => RSet_no B most last a c l i v W hrW (by omega), fun W hbW => ?_, fun W => RHas_no most last a l.length c i W (by omega)⟩
    refine (BSet_no B g row (max most 0) last l i v W hbW (by omega)).mono ?_
    rintro e w' ⟨rfl, rfl⟩
    exact ⟨rfl, hbW, Kept.refl _ _⟩
theorem SB.drew {w0 w W : World} {most last : Int} {a : Option Addr} {n c : Nat} {kd i v : Int} (h : SB w0 w most last a n c kd i v W) : SB w0 w most last a n c kd i v W.drew := h.no (Kept.refl _ _).drew
theorem SB.c5 {w0 w W : World} {most last : Int} {a : Option Addr} {n c : Nat} {kd i v : Int} (h : SB w0 w most last a n c kd i v W) :
    W.cell? ⟨w.heap.size, 0, none⟩ = some (.int .i64 most) ∧ W.cell? ⟨w.heap.size, 1, none⟩ = some (.int .i64 last) ∧ W.cell? ⟨w.heap.size, 2, none⟩ = some (.slice a n c) ∧ W.cell? ⟨w.heap.size + 1, 1, none⟩ = some (.int .i64 i) ∧ W.cell? ⟨w.heap.size + 1, 2, none⟩ = some (.int .i64 v) :=
  ⟨h.cells.1, h.cells.2.1, h.cells.2.2.1, h.cells.2.2.2.2.1, h.cells.2.2.2.2.2⟩
theorem SB.c5s {w0 w W : World} {most last : Int} {a : Option Addr} {n c : Nat} {kd i v : Int} (h : SB w0 w most last a n c kd i v W) (x y z : Value) :
    (((W.setCell ⟨w.heap.size + 1 + 1, 0, none⟩ x).setCell ⟨w.heap.size + 1 + 1, 1, none⟩ y).setCell ⟨w.heap.size + 1 + 1, 2, none⟩ z).cell? ⟨w.heap.size, 0, none⟩ = some (.int .i64 most) ∧
    (((W.setCell ⟨w.heap.size + 1 + 1, 0, none⟩ x).setCell ⟨w.heap.size + 1 + 1, 1, none⟩ y).setCell ⟨w.heap.size + 1 + 1, 2, none⟩ z).cell? ⟨w.heap.size, 1, none⟩ = some (.int .i64 last) ∧
    (((W.setCell ⟨w.heap.size + 1 + 1, 0, none⟩ x).setCell ⟨w.heap.size + 1 + 1, 1, none⟩ y).setCell ⟨w.heap.size + 1 + 1, 2, none⟩ z).cell? ⟨w.heap.size, 2, none⟩ = some (.slice a n c) ∧
    (((W.setCell ⟨w.heap.size + 1 + 1, 0, none⟩ x).setCell ⟨w.heap.size + 1 + 1, 1, none⟩ y).setCell ⟨w.heap.size + 1 + 1, 2, none⟩ z).cell? ⟨w.heap.size + 1, 1, none⟩ = some (.int .i64 i) ∧
    (((W.setCell ⟨w.heap.size + 1 + 1, 0, none⟩ x).setCell ⟨w.heap.size + 1 + 1, 1, none⟩ y).setCell ⟨w.heap.size + 1 + 1, 2, none⟩ z).cell? ⟨w.heap.size + 1, 2, none⟩ = some (.int .i64 v) := by
  have b1 := blk_set_other (blk_set_other (blk_set_other h.bag 0 x (show w.heap.size + 1 + 1 ≠ w.heap.size by omega)) 1 y (show w.heap.size + 1 + 1 ≠ w.heap.size by omega)) 2 z (show w.heap.size + 1 + 1 ≠ w.heap.size by omega)
  have b2 := blk_set_other (blk_set_other (blk_set_other h.op 0 x (show w.heap.size + 1 + 1 ≠ w.heap.size + 1 by omega)) 1 y (show w.heap.size + 1 + 1 ≠ w.heap.size + 1 by omega)) 2 z (show w.heap.size + 1 + 1 ≠ w.heap.size + 1 by omega)
  exact ⟨cell_of_row _ _ 0 _ _ _ b1, cell_of_row _ _ 1 _ _ _ b1, cell_of_row _ _ 2 _ _ _ b1, cell_of_row _ _ 1 _ _ _ b2, cell_of_row _ _ 2 _ _ _ b2⟩
set_option maxRecDepth 100000 in
set_option maxHeartbeats 4000000 in
theorem step3 (w0 : World) (B g : Nat) (row : Option Nat) (most last : Int) (a : Option Addr) (c : Nat) (l : List It) (i v : Int) (w : World) (h0 : Kept NoB w0 w) (hB0 : w0.heap.size ≤ B) (hBw : B ≤ w.heap.size) (hb : Bg B w g row (max most 0) last l) (hr : RRow B w a c l) (hinc : Inc last l) (hl : l.length ≤ 1000) :
    Calls Try.prog 8 #[.pointer (some ⟨g, 0, none⟩), rbv most last a l.length c, .agg #[.int .i64 3, .int .i64 i, .int .i64 v]] w (StQ w0 w B g most last l.length) := by
  have SB0 := sb_start w0 w most last a l.length c 3 i v h0
  have hk0 := (((Kept.refl NoB w).alloc (.cells #[.int .i64 most, .int .i64 last, .slice a l.length c] 27)).alloc (.cells #[.int .i64 3, .int .i64 i, .int .i64 v] 31)).alloc (.cells #[.int .i64 0, .int .i64 0, .slice none 0 0] 27)
  have HB := Lib.hid (hb.keptNo hk0)
  have HR := Lib.hid (hr.no hk0)
  have HST := Lib.hid SB0
  have hsz := hk0.size
  obtain ⟨ok, l', hinc', hl', hcr, hcb, hch⟩ := set_key B g row most last a c l i v hinc hl
  have HCR := Lib.hid hcr
  have HCB := Lib.hid hcb
  have HCH := Lib.hid hch
  have HI := Lib.hid hinc'
  clear hcr hcb hch hinc' hb hr hinc SB0 hk0
  go_enter Try.func8, Try.ntmps8
  go_wp2_with fail
  obtain ⟨W, hW⟩ : ∃ W, W = ((w.alloc (.cells #[.int .i64 most, .int .i64 last, .slice a l.length c] 27)).alloc (.cells #[.int .i64 3, .int .i64 i, .int .i64 v] 31)).alloc (.cells #[.int .i64 0, .int .i64 0, .slice none 0 0] 27) := ⟨_, rfl⟩
  rw [← hW] at HB HR HST hsz ⊢
  clear hW
  have hzW : B ≤ W.heap.size := by omega
  go_region_held3 (fun w' => w'.cell? ⟨w.heap.size, 0, none⟩ = some (.int .i64 most) ∧ w'.cell? ⟨w.heap.size, 1, none⟩ = some (.int .i64 last) ∧ w'.cell? ⟨w.heap.size, 2, none⟩ = some (.slice a l.length c) ∧ w'.cell? ⟨w.heap.size + 1, 1, none⟩ = some (.int .i64 i) ∧ w'.cell? ⟨w.heap.size + 1, 2, none⟩ = some (.int .i64 v))
    (first | exact HST.out.c5 | exact HST.out.drew.c5 | exact HST.out.c5s _ _ _ | go_keep)
    (first
      | (go_at_call 27; (with_reducible refine (HCR.out _ (by first | exact hzW | (simp; exact hzW)) (by first | exact HR.out | exact HR.out.drew)).mono ?_); rintro e w5 ⟨b, rfl, a5, c5, rfl, hr5, hk5⟩; have hk5' : Kept NoB W w5 := (by first | exact hk5 | exact (Kept.refl NoB W).drew.trans hk5 (fun _ _ h => h)); replace HST := Lib.hid (HST.out.no hk5'); replace HB := Lib.hid (HB.out.keptNo hk5'); have HR5 := Lib.hid hr5; clear hr5 hk5 hk5' HR)
      | (go_at_call 22; (with_reducible refine (HCB.out _ (by first | exact HB.out | exact HB.out.drew)).mono ?_); rintro e w6 ⟨rfl, hb6, hk6⟩; have hk6' : Kept (Tw g row) w5 w6 := (by first | exact hk6 | exact (Kept.refl _ w5).drew.trans hk6 (fun _ _ h => h)); replace HST := Lib.hid (HST.out.turn HB.out hB0 hk6'); replace HR5 := Lib.hid (HR5.out.turn HB.out hk6'); replace HB := Lib.hid hb6; clear hb6 hk6 hk6')
      | (go_at_call 28; (with_reducible refine (HCH.out _).mono ?_); rintro e w7 ⟨rfl, hk7⟩; have hk7' : Kept NoB w6 w7 := (by first | exact hk7 | exact (Kept.refl NoB w6).drew.trans hk7 (fun _ _ h => h)); replace HST := Lib.hid (HST.out.no hk7'); replace HR5 := Lib.hid (HR5.out.no hk7'); replace HB := Lib.hid (HB.out.keptNo hk7'); obtain ⟨v0, v1, v2, s0, s1, s2⟩ := HST.out.outs; clear hk7 hk7'))
  all_goals
    have HEND := Lib.hid (st_end (last := last) (n0 := l.length) HST.out HB.out HR5.out HI.out hl' (by omega) (by omega))
    go_wp2
    obtain ⟨h1, p0, p1, p2⟩ := HEND.out
    refine bodyPost_ret (v := .tuple #[rbv most last a5 l'.length c5, .bool true]) ?_ rfl ⟨_, rfl, by first | exact h1 | exact h1.drew⟩
    simp [results, Try.results8, go_sem, p0, p1, p2]
end Go.Proofs.Yteinjmhogkneoaa
