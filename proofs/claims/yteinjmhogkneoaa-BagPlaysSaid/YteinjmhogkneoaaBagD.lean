/-
  The law's step: Take.
-/
import Derived.Test.YteinjmhogkneoaaBagJ
namespace Go.Proofs.Yteinjmhogkneoaa
open Go.RowKit Go.Shelf
set_option linter.unusedVariables false

theorem take_key (B g : Nat) (row : Option Nat) (most last : Int) (a : Option Addr) (c : Nat) (l : List It) (i : Int) (hinc : Inc last l) (hl : l.length ≤ 1000) :
    ∃ (x y : Int) (ok : Bool) (l' : List It), Inc last l' ∧ l'.length ≤ l.length + 1 ∧
      (∀ W, RRow B W a c l → Calls Try.prog 25 #[rbv most last a l.length c, .int .i64 i] W fun e w' => e = .returned (.tuple #[.agg #[.int .i64 x, .int .i64 y], .bool ok]) ∧ Kept NoB W w') ∧
      (∀ W, B ≤ W.heap.size → RRow B W a c l → Calls Try.prog 26 #[rbv most last a l.length c, .int .i64 i] W fun e w' => ∃ b, e = .returned b ∧ RB B W most last l' b w') ∧
      (∀ W, Bg B W g row (max most 0) last l → Calls Try.prog 14 #[.pointer (some ⟨g, 0, none⟩), .int .i64 i] W fun e w' => e = .returned (.tuple #[.int .i64 y, .bool ok]) ∧ Bg B w' g row (max most 0) last l' ∧ Kept (Tw g row) W w') := by
  by_cases hin : 0 ≤ i ∧ i < (l.length : Int)
  · obtain ⟨k, rfl⟩ : ∃ k : Nat, i = k := ⟨i.toNat, by omega⟩
    have hk : k < l.length := by omega
    exact ⟨(nth l k).1, (nth l k).2, true, l.eraseIdx k, hinc.sub (List.eraseIdx_sublist _ _), by have := List.length_eraseIdx_le l k; omega, fun W hrW => RAt_yes B most last a c k l W hrW hk, fun W hW hrW => RTake_yes B most last a c l k W hrW hk (by omega) hW, fun W hbW => Take_yes B g row (max most 0) last l k W hbW hk (by omega)⟩
  · refine ⟨0, 0, false, l, hinc, by omega, fun W hrW => RAt_no most last a l.length c i W (by omega), fun W hW hrW => RTake_no B most last a c l i W hrW (by omega), fun W hbW => ?_⟩
    refine (Take_no B g row (max most 0) last l i W hbW (by omega)).mono ?_
    rintro e w' ⟨rfl, rfl⟩
    exact ⟨rfl, hbW, Kept.refl _ _⟩
set_option maxRecDepth 100000 in
set_option maxHeartbeats 4000000 in
theorem step2 (w0 : World) (B g : Nat) (row : Option Nat) (most last : Int) (a : Option Addr) (c : Nat) (l : List It) (i v : Int) (w : World) (h0 : Kept NoB w0 w) (hB0 : w0.heap.size ≤ B) (hBw : B ≤ w.heap.size) (hb : Bg B w g row (max most 0) last l) (hr : RRow B w a c l) (hinc : Inc last l) (hl : l.length ≤ 1000) :
    Calls Try.prog 8 #[.pointer (some ⟨g, 0, none⟩), rbv most last a l.length c, .agg #[.int .i64 2, .int .i64 i, .int .i64 v]] w (StQ w0 w B g most last l.length) := by
  have SB0 := sb_start w0 w most last a l.length c 2 i v h0
  have hk0 := (((Kept.refl NoB w).alloc (.cells #[.int .i64 most, .int .i64 last, .slice a l.length c] 27)).alloc (.cells #[.int .i64 2, .int .i64 i, .int .i64 v] 31)).alloc (.cells #[.int .i64 0, .int .i64 0, .slice none 0 0] 27)
  have HB := Lib.hid (hb.keptNo hk0)
  have HR := Lib.hid (hr.no hk0)
  have HS := Lib.hid SB0
  have hsz := hk0.size
  obtain ⟨x, y, ok, l', hinc', hl', hca, hct, hcb⟩ := take_key B g row most last a c l i hinc hl
  have HCA := Lib.hid hca
  have HCT := Lib.hid hct
  have HCB := Lib.hid hcb
  have HI := Lib.hid hinc'
  clear hca hct hcb hinc' hb hr hinc SB0 hk0
  go_enter Try.func8, Try.ntmps8
  go_wp2_with fail
  refine (HCA.out _ HR.out).mono ?_
  rintro e w3 ⟨rfl, hk3⟩
  have hs3 := hk3.size
  have hkA := hk3.trans ((Kept.refl NoB w3).alloc (.cells #[.int .i64 x, .int .i64 y] 56)) (fun _ _ h => h)
  have SA := HS.out.no hkA
  have BA := HB.out.keptNo hkA
  have RA := HR.out.no hkA
  have T8 := heap_alloc_new w3 (.cells #[.int .i64 x, .int .i64 y] 56)
  have HSA := Lib.hid SA
  have HBA := Lib.hid BA
  have HRA := Lib.hid RA
  have HT8 := Lib.hid T8
  have q5 := SA.cells.2.2.2.2.1
  clear SA BA RA T8 hkA hk3
  go_wp2_with fail
  refine (HCB.out _ HBA.out).mono ?_
  rintro e w4 ⟨rfl, hb4, hk4⟩
  have hs4 := HSA.out.turn HBA.out hB0 hk4
  have hr4 := HRA.out.turn HBA.out hk4
  have ht8 := hk4.heap (HBA.out.apart HT8.out (by decide) (by decide)) HT8.out
  have t1 : w4.cell? ⟨w3.heap.size, 1, none⟩ = some (.int .i64 y) := cell_of_row _ _ 1 _ _ _ ht8
  have hz4 := hk4.size
  obtain ⟨c0, c1, c2, _, d1, _⟩ := hs4.cells
  have HS4 := Lib.hid hs4
  have HR4 := Lib.hid hr4
  have HB4 := Lib.hid hb4
  have HT4 := Lib.hid ht8
  have hz : B ≤ w4.heap.size := by simp at hz4; omega
  clear hs4 hr4 ht8 hb4 hk4 q5
  go_wp2_with fail
  go_region_law ((go_simp; go_at_call 26; refine (HCT.out _ (by exact hz) (by first | exact HR4.out | exact HR4.out.drew)).mono ?_; rintro e w5 ⟨b, rfl, a5, c5, rfl, hr5, hk5⟩; have hk5' : Kept NoB w4 w5 := (by first | exact hk5 | exact (Kept.refl NoB w4).drew.trans hk5 (fun _ _ h => h)); have hs5 := HS4.out.no hk5'; obtain ⟨v0, v1, v2, s0, s1, s2⟩ := hs5.outs; have t1' : w5.cell? ⟨w3.heap.size, 1, none⟩ = some (.int .i64 y) := cell_of_row _ _ 1 _ _ _ (hk5'.heap (fun h => h) HT4.out); have HEND := Lib.hid (st_end (last := last) (n0 := l.length) hs5 (HB4.out.keptNo hk5') hr5 HI.out hl' (by omega) (by omega)); clear hs5 hr5 hk5 hk5'))
  all_goals
    go_wp2
    obtain ⟨h1, p0, p1, p2⟩ := HEND.out
    refine bodyPost_ret (v := .tuple #[rbv most last a5 l'.length c5, .bool true]) ?_ rfl ⟨_, rfl, by first | exact h1 | exact h1.drew⟩
    simp [results, Try.results8, go_sem, p0, p1, p2]
end Go.Proofs.Yteinjmhogkneoaa
