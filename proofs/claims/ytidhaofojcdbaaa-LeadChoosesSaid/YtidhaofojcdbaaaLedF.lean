/-
  Package accept: Best of no votes. Package lead: lead, where nobody told votes.
-/
import Derived.Test.YtidhaofojcdbaaaLedD
import Derived.Test.YtidhaofojcdbaaaLedE
import Derived.Laws.MakeOwn
namespace Go.Proofs.Ytidhaofojcdbaaa
open Go.RowKit Go.Maps Go.Sort Go.Shelf
set_option linter.unusedVariables false

theorem info_vts : (Try.prog.info? 28).map (fun i => (i.zero, i.size, i.bytes)) = some (some (.slice none 0 0), 1, 24) := by kernel_rfl
/-- Block b holds n slices of votes, all nil. -/
def NilRow (w : World) (b n : Nat) : Prop := ∃ cs : Array Value, w.heap[b]? = some (.cells cs 28 (0, 0)) ∧ cs.size = n ∧ ∀ i, i < n → cs[i]? = some (.slice none 0 0)
theorem NilRow.kept {S : Nat → Prop} {w w' : World} {b n : Nat} (h : NilRow w b n) (hk : Kept S w w') (hs : ¬ S b) : NilRow w' b n := by
  obtain ⟨cs, h1, h2⟩ := h
  exact ⟨cs, hk.heap hs h1, h2⟩
theorem NilRow.cell {w : World} {b n : Nat} (h : NilRow w b n) {i : Nat} (hi : i < n) : w.cell? ⟨b, i, none⟩ = some (.slice none 0 0) ∧ w.frozen? ⟨b, i, none⟩ = false ∧ b < w.heap.size := by
  obtain ⟨cs, h1, h2, h3⟩ := h
  exact ⟨(cell_of_row _ _ _ _ _ _ h1).trans (h3 i hi), by simp [World.frozen?, h1], heap_lt h1⟩
theorem NilRow.set {w : World} {b n : Nat} (h : NilRow w b n) {i : Nat} (hi : i < n) : NilRow (w.setCell ⟨b, i, none⟩ (.slice none 0 0)) b n := by
  obtain ⟨cs, h1, h2, h3⟩ := h
  refine ⟨_, blkA_set h1 i _, by simp [h2], fun j hj => ?_⟩
  by_cases e : i = j
  · subst e
    rw [Array.getElem?_setIfInBounds_self_of_lt (by omega)]
  · rw [Array.getElem?_setIfInBounds_ne e]
    exact h3 j hj
theorem NilRow.made (w : World) (n : Nat) : NilRow (w.alloc (.cells (madeCells #[.slice none 0 0] n) 28)) w.heap.size n := by
  refine ⟨_, heap_alloc_new w _, size_madeCells _ _, fun i hi => ?_⟩
  unfold madeCells
  simp [hi, Nat.mod_one]
theorem collectV_none (w : World) (B b : Nat) (hB : w.cell? ⟨B, 0, none⟩ = some (.map (some b))) (hm : MapV Try.prog 3 vvv w b []) :
    Calls Try.prog 102 #[.func (.func 104) #[] #[.pointer (some ⟨B, 0, none⟩)]] w fun e w' => e = .returned (.slice none 0 0) ∧ Kept NoB w w' := by
  have hseq : SeqGives Fence.wide 4 Try.prog 104 #[.pointer (some ⟨B, 0, none⟩)] vvv (fun ss => ss = []) 0 w := fun l J W hW hJ hY h0 =>
    values1_none 4 (by omega) l B b J W hJ ((hW.cell (p := ⟨B, 0, none⟩) (World.block_lt_of_cell? w _ hB)).trans hB) (hm.kept (Kept.of_below hW) (fun h => h)).2 h0
  have h := appendSeqV_none 5 (by omega) 104 #[.pointer (some ⟨B, 0, none⟩)] (enters_of Try.func104 (by kernel_rfl) rfl) w hseq
  have HA := Lib.hid (callsIn_wide.1 h)
  clear h hseq
  go_enter Try.func102, Try.ntmps102
  go_wp2_with fail
  refine HA.out.mono ?_
  rintro e w1 ⟨rfl, hb⟩
  have HK := Lib.hid (Kept.of_below hb)
  clear hb
  go_wp2
  go_ret
  exact ⟨rfl, HK.out⟩
theorem valuesV_in (w : World) (b : Nat) : Calls Try.prog 68 #[.map (some b)] w fun e w' => e = .returned (.func (.func 104) #[] #[.pointer (some ⟨w.heap.size, 0, none⟩)]) ∧ w' = w.alloc (.cells #[.map (some b)] 104) := by
  go_enter Try.func68, Try.ntmps68
  go_wp2
  go_ret
  exact ⟨rfl, rfl⟩
theorem sortedV_none (w : World) (B b : Nat) (fv : Value) (hB : w.cell? ⟨B, 0, none⟩ = some (.map (some b))) (hm : MapV Try.prog 3 vvv w b []) :
    Calls Try.prog 67 #[.func (.func 104) #[] #[.pointer (some ⟨B, 0, none⟩)], fv] w fun e w' => e = .returned (.slice none 0 0) ∧ Kept NoB w w' := by
  have HC := Lib.hid (collectV_none w B b hB hm)
  have HS := Lib.hid (fun w => AnyF.slices_SortFunc_none Try.sortV none 0 fv w)
  clear hB hm
  go_enter Try.func67, Try.ntmps67
  go_wp2_with fail
  refine HC.out.mono ?_
  rintro e w1 ⟨rfl, hk⟩
  have HK := Lib.hid hk
  clear hk
  go_wp2_with fail
  refine (HS.out _).mono ?_
  rintro e w2 ⟨rfl, rfl⟩
  go_wp2
  go_ret
  exact ⟨rfl, HK.out⟩
set_option maxRecDepth 100000 in
theorem Best_none (w : World) (b n c : Nat) (h : NilRow w b n) (hn : n ≤ 1000) : Calls Try.prog 28 #[.slice (some ⟨b, 0, none⟩) n c] w fun e w' => e = .returned (.slice none 0 0) ∧ Kept NoB w w' := by
  have hmm := @run_makeMap Try.prog
  have HK1 := Lib.hid ((Kept.refl NoB w).alloc (.map #[] 0))
  have HM1 := Lib.hid (MapV.made Try.prog 3 vvv w)
  obtain ⟨W, hW⟩ : ∃ W, W = w.alloc (.map #[] 0) := ⟨_, rfl⟩
  have HWW := Lib.hid hW
  rw [← hW] at HK1 HM1
  have HR := Lib.hid (h.kept HK1.out (fun h => h))
  have HKB := Lib.hid ((Kept.refl NoB W).alloc (.cells #[.map (some w.heap.size)] 104))
  have HS := Lib.hid (fun fv => sortedV_none (W.alloc (.cells #[.map (some w.heap.size)] 104)) W.heap.size w.heap.size fv (by rw [cell_of_row _ _ 0 _ _ _ (heap_alloc_new W (.cells #[.map (some w.heap.size)] 104))]; rfl) (HM1.out.kept HKB.out (fun h => h)))
  clear h hW
  go_enter Try.func28, Try.ntmps28
  go_wp2_with fail
  rw [← HWW.out]
  go_loopw [13] (fun i wr => ∃ j : Nat, i = .int .i64 j ∧ j ≤ n ∧ wr = W) (fun i _ => n - (RowKit.intOf i).toNat)
  case atStart => exact ⟨0, rfl, Nat.zero_le _, rfl⟩
  case round =>
    obtain ⟨j, rfl, hj, rfl⟩ := hrel
    have hj0 : (0 : Int) ≤ (j : Int) := by omega
    by_cases hlt : j < n
    · have hj1 : (j : Int) < (n : Int) := by omega
      obtain ⟨c0, _, _⟩ := HR.out.cell hlt
      go_wp2_with fail
      go_loopw [19] (fun i wr2 => i = .int .i64 0 ∧ wr2 = wr) (fun _ _ => 0)
      case atStart => exact ⟨rfl, rfl⟩
      case round =>
        obtain ⟨rfl, rfl⟩ := hrel
        go_wp2
        exact ⟨⟨j + 1, by go_num, by omega, by first | rfl | trivial⟩, by simp [RowKit.intOf]; omega⟩
    · have hj1 : decide ((j : Int) < (n : Int)) = false := decide_eq_false (by omega)
      go_wp2_with fail
      refine (valuesV_in _ _).mono ?_
      rintro e w1 ⟨rfl, rfl⟩
      go_wp2_with fail
      refine (HS.out _).mono ?_
      rintro e w2 ⟨rfl, hk⟩
      have HK2 := Lib.hid ((HK1.out.trans HKB.out (fun _ _ h => h)).trans hk (fun _ _ h => h))
      clear hk
      go_wp2
      go_ret
      exact ⟨rfl, HK2.out⟩
end Go.Proofs.Ytidhaofojcdbaaa
