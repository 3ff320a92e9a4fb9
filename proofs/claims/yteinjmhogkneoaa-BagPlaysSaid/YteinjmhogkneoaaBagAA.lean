/-
  The law's step: Keep.
-/
import Derived.Test.YteinjmhogkneoaaBagJ
namespace Go.Proofs.Yteinjmhogkneoaa
open Go.RowKit Go.Shelf
set_option linter.unusedVariables false

set_option maxRecDepth 100000 in
set_option maxHeartbeats 4000000 in
theorem step4 (w0 : World) (B g : Nat) (row : Option Nat) (most last : Int) (a : Option Addr) (c : Nat) (l : List It) (i v : Int) (w : World) (h0 : Kept NoB w0 w) (hB0 : w0.heap.size ≤ B) (hBw : B ≤ w.heap.size) (hb : Bg B w g row (max most 0) last l) (hr : RRow B w a c l) (hinc : Inc last l) (hl : l.length ≤ 1000) :
    Calls Try.prog 8 #[.pointer (some ⟨g, 0, none⟩), rbv most last a l.length c, .agg #[.int .i64 4, .int .i64 i, .int .i64 v]] w (StQ w0 w B g most last l.length) := by
  have SB0 := sb_start w0 w most last a l.length c 4 i v h0
  have hk0 := (((Kept.refl NoB w).alloc (.cells #[.int .i64 most, .int .i64 last, .slice a l.length c] 27)).alloc (.cells #[.int .i64 4, .int .i64 i, .int .i64 v] 31)).alloc (.cells #[.int .i64 0, .int .i64 0, .slice none 0 0] 27)
  have HB := Lib.hid (hb.keptNo hk0)
  have HR := Lib.hid (hr.no hk0)
  have HS := Lib.hid SB0
  have hsz := hk0.size
  have HI0 := Lib.hid hinc
  have HI := Lib.hid (show Inc last (kept6 l) from hinc.sub List.filter_sublist)
  have hle := kept6_le l
  clear hb hr SB0 hk0 hinc
  go_enter Try.func8, Try.ntmps8
  go_wp2_with fail
  refine (ROdd_any B most last a c l _ HR.out (by omega) (by omega)).mono ?_
  rintro e w3 ⟨a3, c3, rfl, hr3, hk3⟩
  have hs3 := hk3.size
  obtain ⟨n, hn⟩ : ∃ n : Int, n = (l.length : Int) - (kept6 l).length := ⟨_, rfl⟩
  have HN := Lib.hid hn
  have hkA := hk3.trans ((Kept.refl NoB w3).alloc (.cells #[.int .i64 most, .int .i64 last, .slice a3 (kept6 l).length c3] 27)) (fun _ _ h => h)
  have HSA := Lib.hid (HS.out.no hkA)
  have HBA := Lib.hid (HB.out.keptNo hkA)
  have HRA := Lib.hid (hr3.alloc (.cells #[.int .i64 most, .int .i64 last, .slice a3 (kept6 l).length c3] 27))
  have HT8 := Lib.hid (heap_alloc_new w3 (.cells #[.int .i64 most, .int .i64 last, .slice a3 (kept6 l).length c3] 27))
  rw [← hn]
  clear hkA hr3 hk3 hn
  go_wp2_with fail
  obtain ⟨W4, hW4⟩ : ∃ W4, W4 = w3.alloc (.cells #[.int .i64 most, .int .i64 last, .slice a3 (kept6 l).length c3] 27) := ⟨_, rfl⟩
  have hz4 : w3.heap.size < W4.heap.size := by rw [hW4]; simp
  rw [← hW4] at HSA HBA HRA HT8 ⊢
  clear hW4
  have t0 : W4.cell? ⟨w3.heap.size, 0, none⟩ = some (.int .i64 most) := cell_of_row _ _ 0 _ _ _ HT8.out
  have t1 : W4.cell? ⟨w3.heap.size, 1, none⟩ = some (.int .i64 last) := cell_of_row _ _ 1 _ _ _ HT8.out
  have t2 : W4.cell? ⟨w3.heap.size, 2, none⟩ = some (.slice a3 (kept6 l).length c3) := cell_of_row _ _ 2 _ _ _ HT8.out
  go_region_law ((go_simp; go_at_call 15; refine (Keep_any B g row (max most 0) last last l _ (by first | exact HBA.out | exact HBA.out.drew) HI0.out (by omega)).mono ?_; rintro e w5 ⟨rfl, hb5, hk5⟩; have hk5' : Kept (Tw g row) W4 w5 := (by first | exact hk5 | exact (Kept.refl _ W4).drew.trans hk5 (fun _ _ h => h)); have hs5 := HSA.out.turn HBA.out hB0 hk5'; have hr5 := HRA.out.turn HBA.out hk5'; obtain ⟨v0, v1, v2, s0, s1, s2⟩ := hs5.outs; have ht5 := hk5'.heap (HBA.out.apart HT8.out (by decide) (by decide)) HT8.out; have t0' : w5.cell? ⟨w3.heap.size, 0, none⟩ = some (.int .i64 most) := cell_of_row _ _ 0 _ _ _ ht5; have t1' : w5.cell? ⟨w3.heap.size, 1, none⟩ = some (.int .i64 last) := cell_of_row _ _ 1 _ _ _ ht5; have t2' : w5.cell? ⟨w3.heap.size, 2, none⟩ = some (.slice a3 (kept6 l).length c3) := cell_of_row _ _ 2 _ _ _ ht5; have HEND := Lib.hid (st_end (last := last) (n0 := l.length) hs5 hb5 hr5 HI.out (by omega) (by omega) (by omega)); rw [← HN.out]; clear hs5 hr5 hk5 hk5' ht5 hb5))
  all_goals
    go_wp2
    obtain ⟨h1, p0, p1, p2⟩ := HEND.out
    refine bodyPost_ret (v := .tuple #[rbv most last a3 (kept6 l).length c3, .bool true]) ?_ rfl ⟨_, rfl, by first | exact h1 | exact h1.drew⟩
    simp [results, Try.results8, go_sem, p0, p1, p2]
end Go.Proofs.Yteinjmhogkneoaa
