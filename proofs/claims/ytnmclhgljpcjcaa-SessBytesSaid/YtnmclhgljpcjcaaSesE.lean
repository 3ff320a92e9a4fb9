/-
  Package sess: a table in memory; isClient, isRow, New, Get, Judge.
-/
import Derived.Test.YtnmclhgljpcjcaaSesD
namespace Go.Proofs.Ytnmclhgljpcjcaa
open Go.RowKit
set_option linter.unusedVariables false

def cliB (s : Int) : Bool := decide (1 ≤ s ∧ s ≤ 6)
theorem cliB_yes {s : Int} (h : 1 ≤ s) (h' : s ≤ 6) : cliB s = true := decide_eq_true ⟨h, h'⟩
theorem cliB_no {s : Int} (h : s < 1 ∨ 6 < s) : cliB s = false := decide_eq_false (by omega)
theorem isClient_any (s : Int) (w : World) : Calls Try.prog 80 #[.int .i64 s] w fun e w' => e = .returned (.bool (cliB s)) ∧ w = w' := by
  obtain ⟨b, hb⟩ : ∃ b, b = cliB s := ⟨_, rfl⟩
  have HB := Lib.hid hb
  rw [← hb]
  clear hb
  go_enter Try.func80, Try.ntmps80
  go_wp2
  all_goals
    go_ret
    refine ⟨ret_bool16 ?_, rfl⟩
    rw [HB.out]
    symm
    first
      | (exact cliB_no (by omega))
      | (unfold cliB; rw [Bool.eq_iff_iff, decide_eq_true_iff, decide_eq_true_iff]; omega)
theorem rowOf_ex (L : List Rw) (s : Int) : ∃ y, y = (atR L s).getD rw0 := ⟨_, rfl⟩
/-- A row's cells from o on. -/
def RwA (cs : Array Value) (o : Nat) (v : Rw) : Prop := cs[o]? = some (.int .i64 v.s) ∧ cs[o + 1]? = some (.int .u64 v.b) ∧ cs[o + 2]? = some (.int .u64 v.k) ∧ cs[o + 3]? = some (.int .i64 v.ch) ∧ cs[o + 4]? = some (.int .u64 v.ep)
/-- Block g is a table of these rows. -/
structure TabAt (w : World) (g : Nat) (L : List Rw) : Prop where
  row : ∃ cs : Array Value, w.heap[g]? = some (.cells cs 136 (0, 0)) ∧ cs.size = 30 ∧ ∀ i : Nat, i < 6 → RwA cs (i * 5) ((atR L ((i : Int) + 1)).getD rw0)
  srt : SrtR L
  ok : ∀ r ∈ L, FineR r ∧ FitR r
theorem TabAt.kept {S : Nat → Prop} {w w' : World} {g : Nat} {L : List Rw} (h : TabAt w g L) (hk : Kept S w w') (hg : ¬ S g) : TabAt w' g L := by
  obtain ⟨cs, h1, h2⟩ := h.row
  exact ⟨⟨cs, hk.heap hg h1, h2⟩, h.srt, h.ok⟩
theorem TabAt.no {w w' : World} {g : Nat} {L : List Rw} (h : TabAt w g L) (hk : Kept NoB w w') : TabAt w' g L := h.kept hk (fun h => h)
theorem TabAt.at_ {w : World} {g : Nat} {L : List Rw} (h : TabAt w g L) (i : Nat) (hi : i < 6) : RwAt w g (i * 5) ((atR L ((i : Int) + 1)).getD rw0) := by
  obtain ⟨cs, h1, h2, h3⟩ := h.row
  obtain ⟨e0, e1, e2, e3, e4⟩ := h3 i hi
  exact ⟨(cell_of_row _ _ _ _ _ _ h1).trans e0, (cell_of_row _ _ _ _ _ _ h1).trans e1, (cell_of_row _ _ _ _ _ _ h1).trans e2, (cell_of_row _ _ _ _ _ _ h1).trans e3, (cell_of_row _ _ _ _ _ _ h1).trans e4⟩
theorem TabAt.f {w : World} {g : Nat} {L : List Rw} (h : TabAt w g L) (o : Nat) : w.frozen? ⟨g, o, none⟩ = false := by
  obtain ⟨cs, h1, _⟩ := h.row
  exact blkR_frozen h1 o
theorem TabAt.lt {w : World} {g : Nat} {L : List Rw} (h : TabAt w g L) : g < w.heap.size := by
  obtain ⟨cs, h1, _⟩ := h.row
  exact heap_lt h1
theorem SNew_any (w : World) : Calls Try.prog 38 #[] w fun e w' => e = .returned (.pointer (some ⟨w.heap.size, 0, none⟩)) ∧ TabAt w' w.heap.size [] ∧ Kept NoB w w' := by
  go_enter Try.func38, Try.ntmps38
  go_wp2
  go_ret
  refine ⟨rfl, ⟨⟨_, heap_alloc_new w _, rfl, fun i hi => ?_⟩, List.Pairwise.nil, (fun v hv => by cases hv)⟩, (Kept.refl NoB w).alloc _⟩
  match i, hi with
  | 0, _ | 1, _ | 2, _ | 3, _ | 4, _ | 5, _ => exact ⟨rfl, rfl, rfl, rfl, rfl⟩
theorem SJudge_nil (w : World) (s n : Int) : Calls Try.prog 47 #[.pointer none, .int .i64 s, .int .u64 n] w fun e w' => e = .returned (.int .i64 2) ∧ w = w' := by
  go_enter Try.func47, Try.ntmps47
  go_wp2
  go_ret
  exact ⟨rfl, rfl⟩
set_option maxRecDepth 100000 in
theorem SJudge_any (w : World) (g : Nat) (s n : Int) (L : List Rw) (h : TabAt w g L) (hn : 0 ≤ n) : Calls Try.prog 47 #[.pointer (some ⟨g, 0, none⟩), .int .i64 s, .int .u64 n] w fun e w' =>
    e = .returned (.int .i64 (judR L s n)) ∧ w = w' := by
  have HI := Lib.hid (isClient_any s w)
  obtain ⟨j, hj⟩ : ∃ j, j = judR L s n := ⟨_, rfl⟩
  have HJ := Lib.hid hj
  rw [← hj]
  clear hj
  by_cases hbad : s < 1 ∨ 6 < s ∨ n = 0
  · have HX : Hid (j = 2) := Lib.hid (by rw [HJ.out]; unfold judR; rw [if_pos hbad])
    by_cases hb : s < 1 ∨ 6 < s
    · have hc := cliB_no hb
      rw [hc] at HI
      clear hbad hb hc h
      go_enter Try.func47, Try.ntmps47
      go_wp2_with fail
      refine HI.out.mono ?_
      rintro e w1 ⟨rfl, rfl⟩
      go_wp2
      go_ret
      exact ⟨ret_int16 HX.out.symm, rfl⟩
    · obtain rfl : n = 0 := by omega
      have hc : cliB s = true := cliB_yes (by omega) (by omega)
      rw [hc] at HI
      clear hbad hb hc h
      go_enter Try.func47, Try.ntmps47
      go_wp2_with fail
      refine HI.out.mono ?_
      rintro e w1 ⟨rfl, rfl⟩
      go_wp2
      go_ret
      exact ⟨ret_int16 HX.out.symm, rfl⟩
  · have hc : cliB s = true := cliB_yes (by omega) (by omega)
    rw [hc] at HI
    clear hc
    obtain ⟨i, hi⟩ : ∃ i : Nat, s = (i : Int) + 1 := ⟨(s - 1).toNat, by omega⟩
    subst hi
    have hi6 : i < 6 := by omega
    have h1 : (0 : Int) ≤ (i : Int) := by omega
    have h2 : (i : Int) + 1 ≤ 6 := by omega
    have h3 : (n == 0) = false := by rw [beq_eq_false_iff_ne]; omega
    obtain ⟨c0, c1, c2, c3, c4⟩ := h.at_ i hi6
    obtain ⟨y, hy⟩ : ∃ y, y = ((atR L ((i : Int) + 1)).getD rw0).b := ⟨_, rfl⟩
    rw [← hy] at c1
    have HX : Hid (j = if y < n then 0 else if y = n then 1 else 2) := Lib.hid (by rw [HJ.out]; unfold judR numR; rw [if_neg hbad, ← hy])
    clear h hbad hy HJ c0 c2 c3 c4
    go_enter Try.func47, Try.ntmps47
    go_wp2_with fail
    refine HI.out.mono ?_
    rintro e w1 ⟨rfl, rfl⟩
    by_cases hlt : y < n
    · have HL := Lib.hid hlt
      go_wp2
      go_ret
      exact ⟨ret_int16 (by rw [HX.out, if_pos (by have := HL.out; omega)]), rfl⟩
    · by_cases heq : n = y
      · have hb1 : (n == y) = true := by simpa using heq
        have hge : decide (y < n) = false := decide_eq_false hlt
        have HQ := Lib.hid heq
        clear heq hlt
        go_wp2
        go_ret
        exact ⟨ret_int16 (by rw [HX.out, if_neg (by have := HQ.out; omega), if_pos (by have := HQ.out; omega)]), rfl⟩
      · have hb1 : (n == y) = false := by simpa using heq
        have hge : decide (y < n) = false := decide_eq_false hlt
        have HQ : Hid (¬ y < n ∧ ¬ y = n) := Lib.hid ⟨hlt, fun h => heq h.symm⟩
        clear heq hlt
        go_wp2
        go_ret
        exact ⟨ret_int16 (by rw [HX.out, if_neg (by have := HQ.out; omega), if_neg (by have := HQ.out; omega)]), rfl⟩
/-- A row in a block's five cells, stored one by one. -/
def five16 (w : World) (b o : Nat) (v : Rw) : World := ((((w.setCell ⟨b, o, none⟩ (.int .i64 v.s)).setCell ⟨b, o + 1, none⟩ (.int .u64 v.b)).setCell ⟨b, o + 2, none⟩ (.int .u64 v.k)).setCell ⟨b, o + 3, none⟩ (.int .i64 v.ch)).setCell ⟨b, o + 4, none⟩ (.int .u64 v.ep)
theorem five16_at {w : World} {b : Nat} {y0 y1 y2 y3 y4 : Value} {t : TypeId} (h : w.heap[b]? = some (.cells #[y0, y1, y2, y3, y4] t (0, 0))) (v : Rw) : (five16 w b 0 v).heap[b]? = some (.cells #[.int .i64 v.s, .int .u64 v.b, .int .u64 v.k, .int .i64 v.ch, .int .u64 v.ep] t (0, 0)) :=
  blkR_set (blkR_set (blkR_set (blkR_set (blkR_set h 0 _) 1 _) 2 _) 3 _) 4 _
theorem Kept.five16 {S : Nat → Prop} {a w : World} (h : Kept S a w) {b : Nat} (hb : S b ∨ a.heap.size ≤ b) (o : Nat) (v : Rw) : Kept S a (Go.Proofs.Ytnmclhgljpcjcaa.five16 w b o v) :=
  ((((h.setCell (p := ⟨b, o, none⟩) hb _).setCell (p := ⟨b, o + 1, none⟩) hb _).setCell (p := ⟨b, o + 2, none⟩) hb _).setCell (p := ⟨b, o + 3, none⟩) hb _).setCell (p := ⟨b, o + 4, none⟩) hb _
/-- What Get tells. -/
def hasB (L : List Rw) (s : Int) : Bool := (atR L s).isSome
theorem atR_bad {L : List Rw} (h : ∀ r ∈ L, FineR r ∧ FitR r) {s : Int} (hs : s < 1 ∨ 6 < s) : atR L s = none := by
  refine atR_none (fun v hv => ?_)
  have := (h v hv).1
  unfold FineR at this
  omega
theorem SGet_nil (w : World) (s : Int) : Calls Try.prog 40 #[.pointer none, .int .i64 s] w fun e w' => e = .returned (.tuple #[rvv rw0, .bool false]) ∧ Kept NoB w w' := by
  obtain ⟨r0, r1, r2, r3, r4⟩ := cells5r (v := rw0) (heap_alloc_new w (.cells #[.int .i64 0, .int .u64 0, .int .u64 0, .int .i64 0, .int .u64 0] 75))
  have z0 := blkR_frozen (heap_alloc_new w (.cells #[.int .i64 0, .int .u64 0, .int .u64 0, .int .i64 0, .int .u64 0] 75))
  have HK := Lib.hid ((Kept.refl NoB w).alloc (.cells #[.int .i64 0, .int .u64 0, .int .u64 0, .int .i64 0, .int .u64 0] 75))
  go_enter Try.func40, Try.ntmps40
  go_wp2
  exact bodyPost_ret (v := .tuple #[.agg #[.int .i64 0, .int .u64 0, .int .u64 0, .int .i64 0, .int .u64 0], .bool false]) (by simp [results, Try.results40, go_sem, r0, r1, r2, r3, r4]; simp [rw0]) rfl ⟨rfl, HK.out⟩
set_option maxRecDepth 100000 in
theorem SGet_any (w : World) (g : Nat) (s : Int) (L : List Rw) (h : TabAt w g L) : Calls Try.prog 40 #[.pointer (some ⟨g, 0, none⟩), .int .i64 s] w fun e w' =>
    e = .returned (.tuple #[rvv ((atR L s).getD rw0), .bool (hasB L s)]) ∧ Kept NoB w w' := by
  have HR := Lib.hid (heap_alloc_new w (.cells #[.int .i64 0, .int .u64 0, .int .u64 0, .int .i64 0, .int .u64 0] 75))
  have HK := Lib.hid ((Kept.refl NoB w).alloc (.cells #[.int .i64 0, .int .u64 0, .int .u64 0, .int .i64 0, .int .u64 0] 75))
  have HI := Lib.hid (isClient_any s (w.alloc (.cells #[.int .i64 0, .int .u64 0, .int .u64 0, .int .i64 0, .int .u64 0] 75)))
  by_cases hb : s < 1 ∨ 6 < s
  · have hc := cliB_no hb
    rw [hc] at HI
    have hnone := atR_bad h.ok hb
    rw [show hasB L s = false by unfold hasB; rw [hnone]; rfl, hnone]
    obtain ⟨r0, r1, r2, r3, r4⟩ := cells5r (v := rw0) HR.out
    have z0 := blkR_frozen HR.out
    clear hb hc h hnone
    go_enter Try.func40, Try.ntmps40
    go_wp2_with fail
    refine HI.out.mono ?_
    rintro e w1 ⟨rfl, rfl⟩
    go_wp2
    exact bodyPost_ret (v := .tuple #[.agg #[.int .i64 0, .int .u64 0, .int .u64 0, .int .i64 0, .int .u64 0], .bool false]) (by simp [results, Try.results40, go_sem, r0, r1, r2, r3, r4]; simp [rw0]) rfl ⟨rfl, HK.out⟩
  · have hc : cliB s = true := cliB_yes (by omega) (by omega)
    rw [hc] at HI
    clear hc
    obtain ⟨i, hi⟩ : ∃ i : Nat, s = (i : Int) + 1 := ⟨(s - 1).toNat, by omega⟩
    subst hi
    have hi6 : i < 6 := by omega
    have h1 : (0 : Int) ≤ (i : Int) := by omega
    have h2 : (i : Int) < 6 := by omega
    have HC := Lib.hid ((h.no HK.out).at_ i hi6)
    have hgl := h.lt
    have hq : ¬ g = w.heap.size := by omega
    have hbn : hasB L ((i : Int) + 1) = (((atR L ((i : Int) + 1)).getD rw0).b != 0) := by
      unfold hasB
      cases ha : atR L ((i : Int) + 1) with
      | none => rfl
      | some x =>
        have hx := (h.ok x (atR_slot ha).2).1
        unfold FineR at hx
        simp
        omega
    rw [hbn]
    obtain ⟨⟨y0, y1, y2, y3, y4⟩, hy⟩ : ∃ y, y = (atR L ((i : Int) + 1)).getD rw0 := ⟨_, rfl⟩
    rw [← hy] at HC ⊢
    obtain ⟨bb, hbb⟩ : ∃ b : Bool, b = (y1 != 0) := ⟨_, rfl⟩
    have HBB := Lib.hid hbb
    clear h hb hbn hy hbb hgl
    go_enter Try.func40, Try.ntmps40
    go_wp2_with fail
    refine HI.out.mono ?_
    rintro e w1 ⟨rfl, rfl⟩
    obtain ⟨W, hW⟩ : ∃ W, W = w.alloc (.cells #[.int .i64 0, .int .u64 0, .int .u64 0, .int .i64 0, .int .u64 0] 75) := ⟨_, rfl⟩
    have HSZ : Hid (W.heap.size = w.heap.size + 1) := Lib.hid (by rw [hW]; simp)
    rw [← hW] at HR HK HC ⊢
    clear hW HI
    obtain ⟨c0, c1, c2, c3, c4⟩ := HC.out
    obtain ⟨r0, r1, r2, r3, r4⟩ := cells5r (v := rw0) HR.out
    have z0 := blkR_frozen HR.out
    go_wp2_with fail
    have HK2 := Lib.hid (HK.out.alloc (.cells #[.int .i64 y0, .int .u64 y1, .int .u64 y2, .int .i64 y3, .int .u64 y4] 75))
    have HR2 := Lib.hid (blkR_alloc HR.out (.cells #[.int .i64 y0, .int .u64 y1, .int .u64 y2, .int .i64 y3, .int .u64 y4] 75))
    have HY2 := Lib.hid (heap_alloc_new W (.cells #[.int .i64 y0, .int .u64 y1, .int .u64 y2, .int .i64 y3, .int .u64 y4] 75))
    have hne : ¬ W.heap.size = w.heap.size := by have := HSZ.out; omega
    have hne2 : ¬ w.heap.size = W.heap.size := by have := HSZ.out; omega
    generalize hW2 : W.alloc (.cells #[.int .i64 y0, .int .u64 y1, .int .u64 y2, .int .i64 y3, .int .u64 y4] 75) = W2 at HK2 HR2 HY2 ⊢
    clear hW2 c0 c1 c2 c3 c4 r0 r1 r2 r3 r4 z0 HC
    obtain ⟨c0, c1, c2, c3, c4⟩ := cells5r (v := ⟨y0, y1, y2, y3, y4⟩) HY2.out
    obtain ⟨r0, r1, r2, r3, r4⟩ := cells5r (v := rw0) HR2.out
    have z0 := blkR_frozen HR2.out
    go_region
    all_goals
      go_wp2
      have hF := five16_at HR2.out ⟨y0, y1, y2, y3, y4⟩
      have hK := (HK2.out.five16 (b := w.heap.size) (.inr (Nat.le_refl _)) 0 ⟨y0, y1, y2, y3, y4⟩).drew
      clear r0 r1 r2 r3 r4 c0 c1 c2 c3 c4 z0
      obtain ⟨r0, r1, r2, r3, r4⟩ := cells5r (v := ⟨y0, y1, y2, y3, y4⟩) hF
      clear hF
      unfold five16 at r0 r1 r2 r3 r4 hK
      simp only [Nat.zero_add] at r0 r1 r2 r3 r4 hK
      rw [← HBB.out]
      generalize hW : World.setCell _ _ _ = W3 at r0 r1 r2 r3 r4 hK ⊢
      exact bodyPost_ret (v := .tuple #[.agg #[.int .i64 y0, .int .u64 y1, .int .u64 y2, .int .i64 y3, .int .u64 y4], .bool bb]) (by simp [results, Try.results40, go_sem, cell_drew r0, cell_drew r1, cell_drew r2, cell_drew r3, cell_drew r4]) rfl ⟨rfl, hK⟩
end Go.Proofs.Ytnmclhgljpcjcaa
