/-
  The chapter's answers on bags: At of no place, Upto.
-/
import Derived.Test.YteinjmhogkneoaaBagX
namespace Go.Proofs.Yteinjmhogkneoaa
open Go.RowKit
set_option linter.unusedVariables false

set_option maxRecDepth 100000 in
theorem RAt_no (most last : Int) (a : Option Addr) (n c : Nat) (i : Int) (w : World) (hi : i < 0 ∨ (n : Int) ≤ i) : Calls Try.prog 25 #[rbv most last a n c, .int .i64 i] w fun e w' =>
    e = .returned (.tuple #[.agg #[.int .i64 0, .int .i64 0], .bool false]) ∧ Kept NoB w w' := by
  have hz := heap_alloc_new w (.cells #[.int .i64 most, .int .i64 last, .slice a n c] 27)
  have hy2 := heap_alloc_new (w.alloc (.cells #[.int .i64 most, .int .i64 last, .slice a n c] 27)) (.cells #[.int .i64 0, .int .i64 0] 56)
  rw [show (w.alloc (.cells #[.int .i64 most, .int .i64 last, .slice a n c] 27)).heap.size = w.heap.size + 1 by simp] at hy2
  have HY2 := Lib.hid hy2
  have HK := Lib.hid (((Kept.refl NoB w).alloc (.cells #[.int .i64 most, .int .i64 last, .slice a n c] 27)).alloc (.cells #[.int .i64 0, .int .i64 0] 56))
  have HI := Lib.hid hi
  clear hz hy2 hi
  go_enter Try.func25, Try.ntmps25
  go_wp2_with fail
  refine (RHas_no most last _ n c i _ HI.out).mono ?_
  rintro e w2 ⟨rfl, hk2⟩
  have b1 := hk2.heap (fun h => h) HY2.out
  have m0 : w2.cell? ⟨w.heap.size + 1, 0, none⟩ = some (.int .i64 0) := cell_of_row _ _ 0 _ _ _ b1
  have m1 : w2.cell? ⟨w.heap.size + 1, 1, none⟩ = some (.int .i64 0) := cell_of_row _ _ 1 _ _ _ b1
  have z0 : w2.frozen? ⟨w.heap.size + 1, 0, none⟩ = false := blk_frozen0 b1 0
  have z1 : w2.frozen? ⟨w.heap.size + 1, 1, none⟩ = false := blk_frozen0 b1 1
  have b2 := blk_set (blk_set b1 0 (.int .i64 0)) 1 (.int .i64 0)
  have p0 := cell_of_row _ _ 0 _ _ _ b2
  have p1 := cell_of_row _ _ 1 _ _ _ b2
  have HK3 := Lib.hid (((HK.out.trans hk2 (fun _ _ h => h)).setCell (p := ⟨w.heap.size + 1, 0, none⟩) (.inr (by show w.heap.size ≤ w.heap.size + 1; omega)) (.int .i64 0)).setCell (p := ⟨w.heap.size + 1, 1, none⟩) (.inr (by show w.heap.size ≤ w.heap.size + 1; omega)) (.int .i64 0))
  have P0 := Lib.hid p0
  have P1 := Lib.hid p1
  clear b1 b2 hk2 p0 p1
  go_wp2
  refine bodyPost_ret (v := .tuple #[.agg #[.int .i64 0, .int .i64 0], .bool false]) ?_ rfl ⟨rfl, HK3.out⟩
  have p0 := P0.out
  have p1 := P1.out
  simp at p0 p1
  simp [results, Try.results25, go_sem, p0, p1]

theorem upto_take (l : List It) (no : Int) (k : Nat) (h : k < l.length) : upto (l.take (k + 1)) no = upto (l.take k) no + (if (nth l k).1 ≤ no then 1 else 0) := by
  unfold upto
  rw [show l.take (k + 1) = l.take k ++ [nth l k] by rw [List.take_add_one, nth_lt h]; rfl, List.filter_append, List.length_append]
  by_cases hc : (nth l k).1 ≤ no
  · simp [hc]
  · simp [hc]
theorem upto_le (l : List It) (no : Int) : upto l no ≤ l.length := List.length_filter_le _ _
set_option maxRecDepth 100000 in
theorem RUpto_any (B : Nat) (most last : Int) (a : Option Addr) (c : Nat) (l : List It) (no : Int) (w : World) (h : RRow B w a c l) (hl : l.length ≤ 100000) : Calls Try.prog 30 #[rbv most last a l.length c, .int .i64 no] w fun e w' =>
    e = .returned (.int .i64 (upto l no : Nat)) ∧ Kept NoB w w' := by
  have HK := Lib.hid ((Kept.refl NoB w).alloc (.cells #[.int .i64 most, .int .i64 last, .slice a l.length c] 27))
  have HR := Lib.hid (h.alloc (.cells #[.int .i64 most, .int .i64 last, .slice a l.length c] 27))
  clear h
  go_enter Try.func30, Try.ntmps30
  go_wp2
  obtain ⟨W, hW⟩ : ∃ W, W = w.alloc (.cells #[.int .i64 most, .int .i64 last, .slice a l.length c] 27) := ⟨_, rfl⟩
  have hb : W.heap[w.heap.size]? = some (.cells #[.int .i64 most, .int .i64 last, .slice a l.length c] 27 (0, 0)) := by rw [hW]; exact heap_alloc_new w _
  rw [← hW] at HK HR ⊢
  have q2 : W.cell? ⟨w.heap.size, 2, none⟩ = some (.slice a l.length c) := cell_of_row _ _ 2 _ _ _ hb
  clear hW hb
  go_loopw [5, 6] (fun i j wr => ∃ k : Nat, i = .int .i64 (upto (l.take k) no : Nat) ∧ j = .int .i64 k ∧ k ≤ l.length ∧ wr = W) (fun i j _ => l.length - (intOf j).toNat)
  case atStart => exact ⟨0, rfl, rfl, Nat.zero_le _, rfl⟩
  case round =>
    obtain ⟨k, rfl, rfl, hk, rfl⟩ := hrel
    by_cases hlt : k < l.length
    · obtain ⟨r, rfl, _, hc, _⟩ := HR.out.items (by omega)
      obtain ⟨e0, _⟩ := hc k hlt
      have HU := Lib.hid (upto_take l no k hlt)
      have hle := upto_le (l.take k) no
      rw [List.length_take] at hle
      obtain ⟨u, hu⟩ : ∃ u, u = upto (l.take k) no := ⟨_, rfl⟩
      obtain ⟨x, hx⟩ : ∃ x, x = (nth l k).1 := ⟨_, rfl⟩
      rw [← hu] at HU hle ⊢
      rw [← hx] at HU e0
      clear hc hu hx
      by_cases hxn : x ≤ no
      · have HU2 := Lib.hid (HU.out.trans (by rw [if_pos hxn]))
        go_wp2
        exact ⟨⟨k + 1, by rw [HU2.out]; go_num, by go_num, by omega, trivial⟩, by simp [intOf]; omega⟩
      · have HU2 := Lib.hid (HU.out.trans (by rw [if_neg hxn]))
        go_wp2
        exact ⟨⟨k + 1, by rw [HU2.out]; go_num, by go_num, by omega, trivial⟩, by simp [intOf]; omega⟩
    · obtain rfl : k = l.length := by omega
      have HT := Lib.hid (List.take_length (l := l))
      go_wp2
      go_ret
      exact ⟨by show Ending.returned (.int .i64 (upto (l.take l.length) no : Nat)) = _; rw [HT.out], HK.out⟩
end Go.Proofs.Yteinjmhogkneoaa
