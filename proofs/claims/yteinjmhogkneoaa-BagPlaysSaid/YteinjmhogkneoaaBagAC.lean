/-
  The law's step: At, No, Upto.
-/
import Derived.Test.YteinjmhogkneoaaBagAB
namespace Go.Proofs.Yteinjmhogkneoaa
open Go.RowKit Go.Shelf
set_option linter.unusedVariables false

theorem at_key (B g : Nat) (row : Option Nat) (most last : Int) (a : Option Addr) (c : Nat) (l : List It) (i : Int) :
    ∃ (x y : Int) (ok : Bool),
      (∀ W, RRow B W a c l → Calls Try.prog 25 #[rbv most last a l.length c, .int .i64 i] W fun e w' => e = .returned (.tuple #[.agg #[.int .i64 x, .int .i64 y], .bool ok]) ∧ Kept NoB W w') ∧
      (∀ W, Bg B W g row (max most 0) last l → Calls Try.prog 21 #[.pointer (some ⟨g, 0, none⟩), .int .i64 i] W fun e w' => e = .returned (.tuple #[.int .i64 y, .bool ok]) ∧ W = w') ∧
      (∀ W, Bg B W g row (max most 0) last l → Calls Try.prog 18 #[.pointer (some ⟨g, 0, none⟩), .int .i64 i] W fun e w' => e = .returned (.int .i64 x) ∧ W = w') := by
  by_cases hin : 0 ≤ i ∧ i < (l.length : Int)
  · obtain ⟨k, rfl⟩ : ∃ k : Nat, i = k := ⟨i.toNat, by omega⟩
    have hk : k < l.length := by omega
    exact ⟨(nth l k).1, (nth l k).2, true, fun W hrW => RAt_yes B most last a c k l W hrW hk, fun W hbW => At_yes B g row (max most 0) last l k W hbW hk, fun W hbW => No_yes B g row (max most 0) last l k W hbW hk⟩
  · exact ⟨0, 0, false, fun W hrW => RAt_no most last a l.length c i W (by omega), fun W hbW => At_no B g row (max most 0) last l i W hbW (by omega), fun W hbW => No_no B g row (max most 0) last l i W hbW (by omega)⟩
theorem c7 {w0 w W : World} {most last : Int} {a : Option Addr} {n c : Nat} {kd i v : Int} {b8 : Nat} {x y : Int} (h : SB w0 w most last a n c kd i v W) (ht : W.heap[b8]? = some (.cells #[.int .i64 x, .int .i64 y] 56 (0, 0))) :
    W.cell? ⟨w.heap.size, 0, none⟩ = some (.int .i64 most) ∧ W.cell? ⟨w.heap.size, 1, none⟩ = some (.int .i64 last) ∧ W.cell? ⟨w.heap.size, 2, none⟩ = some (.slice a n c) ∧ W.cell? ⟨w.heap.size + 1, 1, none⟩ = some (.int .i64 i) ∧ W.cell? ⟨w.heap.size + 1, 2, none⟩ = some (.int .i64 v) ∧ W.cell? ⟨b8, 0, none⟩ = some (.int .i64 x) ∧ W.cell? ⟨b8, 1, none⟩ = some (.int .i64 y) :=
  ⟨h.cells.1, h.cells.2.1, h.cells.2.2.1, h.cells.2.2.2.2.1, h.cells.2.2.2.2.2, cell_of_row _ _ 0 _ _ _ ht, cell_of_row _ _ 1 _ _ _ ht⟩
theorem c7s {w0 w W : World} {most last : Int} {a : Option Addr} {n c : Nat} {kd i v : Int} {b8 : Nat} {x y : Int} (h : SB w0 w most last a n c kd i v W) (ht : W.heap[b8]? = some (.cells #[.int .i64 x, .int .i64 y] 56 (0, 0))) (x' y' z' : Value) :
    (((W.setCell ⟨w.heap.size + 1 + 1, 0, none⟩ x').setCell ⟨w.heap.size + 1 + 1, 1, none⟩ y').setCell ⟨w.heap.size + 1 + 1, 2, none⟩ z').cell? ⟨w.heap.size, 0, none⟩ = some (.int .i64 most) ∧
    (((W.setCell ⟨w.heap.size + 1 + 1, 0, none⟩ x').setCell ⟨w.heap.size + 1 + 1, 1, none⟩ y').setCell ⟨w.heap.size + 1 + 1, 2, none⟩ z').cell? ⟨w.heap.size, 1, none⟩ = some (.int .i64 last) ∧
    (((W.setCell ⟨w.heap.size + 1 + 1, 0, none⟩ x').setCell ⟨w.heap.size + 1 + 1, 1, none⟩ y').setCell ⟨w.heap.size + 1 + 1, 2, none⟩ z').cell? ⟨w.heap.size, 2, none⟩ = some (.slice a n c) ∧
    (((W.setCell ⟨w.heap.size + 1 + 1, 0, none⟩ x').setCell ⟨w.heap.size + 1 + 1, 1, none⟩ y').setCell ⟨w.heap.size + 1 + 1, 2, none⟩ z').cell? ⟨w.heap.size + 1, 1, none⟩ = some (.int .i64 i) ∧
    (((W.setCell ⟨w.heap.size + 1 + 1, 0, none⟩ x').setCell ⟨w.heap.size + 1 + 1, 1, none⟩ y').setCell ⟨w.heap.size + 1 + 1, 2, none⟩ z').cell? ⟨w.heap.size + 1, 2, none⟩ = some (.int .i64 v) ∧
    (((W.setCell ⟨w.heap.size + 1 + 1, 0, none⟩ x').setCell ⟨w.heap.size + 1 + 1, 1, none⟩ y').setCell ⟨w.heap.size + 1 + 1, 2, none⟩ z').cell? ⟨b8, 0, none⟩ = some (.int .i64 x) ∧
    (((W.setCell ⟨w.heap.size + 1 + 1, 0, none⟩ x').setCell ⟨w.heap.size + 1 + 1, 1, none⟩ y').setCell ⟨w.heap.size + 1 + 1, 2, none⟩ z').cell? ⟨b8, 1, none⟩ = some (.int .i64 y) := by
  have hne := blk_ne h.out ht (by decide)
  have b3 := blk_set_other (blk_set_other (blk_set_other ht 0 x' hne) 1 y' hne) 2 z' hne
  obtain ⟨e1, e2, e3, e4, e5⟩ := h.c5s x' y' z'
  exact ⟨e1, e2, e3, e4, e5, cell_of_row _ _ 0 _ _ _ b3, cell_of_row _ _ 1 _ _ _ b3⟩
set_option maxRecDepth 100000 in
set_option maxHeartbeats 4000000 in
theorem step5 (w0 : World) (B g : Nat) (row : Option Nat) (most last : Int) (a : Option Addr) (c : Nat) (l : List It) (kd i v : Int) (n0 : ¬ kd = 0) (n1 : ¬ kd = 1) (n2 : ¬ kd = 2) (n3 : ¬ kd = 3) (n4 : ¬ kd = 4) (w : World) (h0 : Kept NoB w0 w) (hB0 : w0.heap.size ≤ B) (hBw : B ≤ w.heap.size) (hb : Bg B w g row (max most 0) last l) (hr : RRow B w a c l) (hinc : Inc last l) (hl : l.length ≤ 1000) :
    Calls Try.prog 8 #[.pointer (some ⟨g, 0, none⟩), rbv most last a l.length c, .agg #[.int .i64 kd, .int .i64 i, .int .i64 v]] w (StQ w0 w B g most last l.length) := by
  have SB0 := sb_start w0 w most last a l.length c kd i v h0
  have hk0 := (((Kept.refl NoB w).alloc (.cells #[.int .i64 most, .int .i64 last, .slice a l.length c] 27)).alloc (.cells #[.int .i64 kd, .int .i64 i, .int .i64 v] 31)).alloc (.cells #[.int .i64 0, .int .i64 0, .slice none 0 0] 27)
  have HB := Lib.hid (hb.keptNo hk0)
  have HR := Lib.hid (hr.no hk0)
  have HST := Lib.hid SB0
  have hsz := hk0.size
  obtain ⟨x, y, ok, hca, hcb, hcn⟩ := at_key B g row most last a c l i
  have HCA := Lib.hid hca
  have HCB := Lib.hid hcb
  have HCN := Lib.hid hcn
  have HI := Lib.hid hinc
  obtain ⟨u, hu⟩ : ∃ u, u = upto l v := ⟨_, rfl⟩
  have HU := Lib.hid hu
  clear hca hcb hcn hb hr hinc SB0 hk0 hu
  go_enter Try.func8, Try.ntmps8
  go_wp2_with fail
  refine (HCA.out _ HR.out).mono ?_
  rintro e w3 ⟨rfl, hk3⟩
  have hs3 := hk3.size
  have hkA := hk3.trans ((Kept.refl NoB w3).alloc (.cells #[.int .i64 x, .int .i64 y] 56)) (fun _ _ h => h)
  replace HST := Lib.hid (HST.out.no hkA)
  replace HB := Lib.hid (HB.out.keptNo hkA)
  replace HR := Lib.hid (HR.out.no hkA)
  have HT := Lib.hid (heap_alloc_new w3 (.cells #[.int .i64 x, .int .i64 y] 56))
  have q5 := HST.out.cells.2.2.2.2.1
  clear hkA hk3
  go_wp2_with fail
  refine (HCB.out _ HB.out).mono ?_
  rintro e w4 ⟨rfl, rfl⟩
  clear q5
  go_wp2_with fail
  obtain ⟨W, hW⟩ : ∃ W, W = w3.alloc (.cells #[.int .i64 x, .int .i64 y] 56) := ⟨_, rfl⟩
  rw [← hW] at HB HR HST HT ⊢
  clear hW
  go_region_held3 (fun w' => w'.cell? ⟨w.heap.size, 0, none⟩ = some (.int .i64 most) ∧ w'.cell? ⟨w.heap.size, 1, none⟩ = some (.int .i64 last) ∧ w'.cell? ⟨w.heap.size, 2, none⟩ = some (.slice a l.length c) ∧ w'.cell? ⟨w.heap.size + 1, 1, none⟩ = some (.int .i64 i) ∧ w'.cell? ⟨w.heap.size + 1, 2, none⟩ = some (.int .i64 v) ∧ w'.cell? ⟨w3.heap.size, 0, none⟩ = some (.int .i64 x) ∧ w'.cell? ⟨w3.heap.size, 1, none⟩ = some (.int .i64 y))
    (first | exact c7 HST.out HT.out | exact c7 HST.out.drew (HT.out : W.drew.heap[w3.heap.size]? = _) | exact c7 HST.out.drew HT.out | exact c7s HST.out HT.out _ _ _ | go_keep)
    (first
      | (go_at_call 18; (with_reducible refine (HCN.out _ (by first | exact HB.out | exact HB.out.drew)).mono ?_); rintro e w5 ⟨rfl, rfl⟩)
      | (go_at_call 19; (with_reducible refine (Upto_any B g row (max most 0) last last l v _ (by first | exact HB.out | exact HB.out.drew) HI.out (by omega)).mono ?_); rintro e w6 ⟨rfl, hk6⟩; rw [← HU.out]; have hk6' : Kept NoB W w6 := (by first | exact hk6 | exact (Kept.refl NoB W).drew.trans hk6 (fun _ _ h => h)); replace HST := Lib.hid (HST.out.no hk6'); replace HB := Lib.hid (HB.out.keptNo hk6'); replace HR := Lib.hid (HR.out.no hk6'); replace HT := Lib.hid (hk6'.heap (fun h => h) HT.out); clear hk6 hk6')
      | (go_at_call 30; (with_reducible refine (RUpto_any B most last a c l v _ (by first | exact HR.out | exact HR.out.drew) (by omega)).mono ?_); rintro e w7 ⟨rfl, hk7⟩; rw [← HU.out]; have hk7' : Kept NoB w6 w7 := (by first | exact hk7 | exact (Kept.refl NoB w6).drew.trans hk7 (fun _ _ h => h)); replace HST := Lib.hid (HST.out.no hk7'); replace HB := Lib.hid (HB.out.keptNo hk7'); replace HR := Lib.hid (HR.out.no hk7'); replace HT := Lib.hid (hk7'.heap (fun h => h) HT.out); obtain ⟨v0, v1, v2, s0, s1, s2⟩ := HST.out.outs; clear hk7 hk7'))
  all_goals
    have HEND := Lib.hid (st_end (last := last) (n0 := l.length) HST.out HB.out HR.out HI.out (by omega) (by omega) (by omega))
    go_wp2
    obtain ⟨h1, p0, p1, p2⟩ := HEND.out
    refine bodyPost_ret (v := .tuple #[rbv most last a l.length c, .bool true]) ?_ rfl ⟨_, rfl, by first | exact h1 | exact h1.drew⟩
    simp [results, Try.results8, go_sem, p0, p1, p2]
end Go.Proofs.Yteinjmhogkneoaa
