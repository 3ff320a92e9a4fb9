/-
  The walk of BagNil.
-/
import Derived.Test.YteinjmhogkneoaaBagN
namespace Go.Proofs.Yteinjmhogkneoaa
open Go.RowKit Go.Shelf
set_option linter.unusedVariables false
attribute [local go_sem] Oper.semAt_some

/-- What an iterator of a bag hands to its loop. -/
def encI (x : It) : Array Value := #[.int .i64 x.1, .int .i64 x.2]
theorem stops_nil {n c : Nat} {Kp : World → World → Prop} {W0 : World} (h : W0.cell? ⟨c, 0, none⟩ = some (.pointer none)) (hc : c < W0.heap.size) :
    SeqStopsK Fence.wide n Try.prog 39 #[.pointer (some ⟨c, 0, none⟩)] encI Kp (fun xs => xs = []) (fun _ => False) 0 W0 := by
  intro l J Jx W hW hJ hJx hY h0
  refine (callsIn_wide.2 (All1N (.func (.yield l) #[] #[]) c W ((hW.cell (p := ⟨c, 0, none⟩) hc).trans h))).mono ?_
  rintro e w' ⟨rfl, rfl⟩
  exact ⟨⟨_, rfl⟩, .inl ⟨[], rfl, h0⟩⟩

set_option maxRecDepth 100000 in
set_option maxHeartbeats 2000000 in
theorem BagNil_any (i v : Int) (w : World) : Calls Try.prog 6 #[.int .i64 i, .int .i64 v] w fun e w' => e = .returned (.bool true) ∧ Kept NoB w w' := by
  refine (callsIn_wide (n := 9)).1 ?_
  refine callsIn_of_wp_marks Try.func6 rfl trivial ?_ rfl
  simp only [Try.ntmps6, List.size_toArray, List.length_cons, List.length_nil, Nat.reduceAdd, Nat.reduceSub, Array.replicate_succ, Array.replicate_zero, List.push_toArray, List.append_toArray, List.nil_append, List.cons_append]
  gi_wp2_with fail
  refine ⟨trivial, ?_⟩
  refine (callsIn_wide.2 (PutN v _)).mono ?_
  rintro e w' ⟨rfl, rfl⟩
  gi_wp2_with fail
  refine ⟨trivial, ?_⟩
  refine (callsIn_wide.2 (TwiceN i _)).mono ?_
  rintro e w' ⟨rfl, rfl⟩
  gi_wp2_with fail
  refine ⟨trivial, ?_⟩
  refine (callsIn_wide.2 (TakeN i _)).mono ?_
  rintro e w' ⟨rfl, rfl⟩
  gi_wp2_with fail
  refine ⟨trivial, ?_⟩
  refine (callsIn_wide.2 (AtN i _)).mono ?_
  rintro e w' ⟨rfl, rfl⟩
  gi_wp2_with fail
  refine ⟨trivial, ?_⟩
  refine (callsIn_wide.2 (All_any none _)).mono ?_
  rintro e w' ⟨rfl, rfl⟩
  have hne : ∀ (c : Nat) (w : World), (binOp BinOp.eql 47 (.func (.func 39) #[] #[.pointer (some ⟨c, 0, none⟩)]) .nilFunc).run Try.prog w = .ok (.bool false) w := fun _ _ => rfl
  gi_wp2
  have hB0 : Below w.heap.size w ((w.alloc (.cells #[.bool false] 4)).alloc (.cells #[.pointer none] 23)) := ((Below.refl _ w).alloc (Nat.le_refl _) _).alloc (by simp) _
  have hc1 : ((w.alloc (.cells #[.bool false] 4)).alloc (.cells #[.pointer none] 23)).cell? ⟨w.heap.size + 1, 0, none⟩ = some (.pointer none) := by
    have := heap_alloc_new (w.alloc (.cells #[.bool false] 4)) (.cells #[.pointer none] 23)
    rw [show (w.alloc (.cells #[.bool false] 4)).heap.size = w.heap.size + 1 by simp] at this
    exact cell_of_row _ _ 0 _ _ _ this
  have hg0 := blk_alloc (heap_alloc_new w (.cells #[.bool false] 4)) (.cells #[.pointer none] 23)
  refine wpIn_rangeFunc_ownF rfl (by omega) (gf := 39) (lb := #[.pointer (some ⟨w.heap.size + 1, 0, none⟩)]) rfl trivial (enters_of Try.func39 (by kernel_rfl) rfl)
    (stops_nil (Kp := Below w.heap.size) hc1 (by simp)) belowK_t (belowK_b (by simp; omega)) (Below.refl _ _) (fun _ => rfl)
    (fun pre W => (W.cell? ⟨w.heap.size, 0, none⟩ = some (.bool false) ∧ W.frozen? ⟨w.heap.size, 0, none⟩ = false) ∧ Below w.heap.size w W)
    (fun _ _ _ => False)
    (OwnFrom.and (Own.from (fun s A B row hs hg hr => ⟨cell_kept hs.1 hg hr, (frozen_kept hs.1 hg hr).trans hs.2⟩) _) (ownFrom_below (Nat.le_refl _) (by simp; omega)))
    (fun _ _ _ _ _ hs _ _ => hs)
    ⟨⟨cell_of_row _ _ 0 _ _ _ hg0, blk_frozen0 hg0 0⟩, hB0⟩ ?a1 ?assign ?body ?done ?stop
  case assign =>
    intro l x W K hK
    gi_wp2
    exact hK
  case body =>
    intro l pre x W _ h
    exact absurd h (by omega)
  case stop =>
    rintro D c pre W _ _ h _
    exact h.elim
  case done =>
    rintro D ys W hD rfl ⟨⟨hc, hf⟩, hB⟩ hK
    gi_wp2_with fail
    refine ⟨trivial, ?_⟩
    refine (callsIn_wide.2 (SetN i v _)).mono ?_
    rintro e w' ⟨rfl, rfl⟩
    gi_wp2_with fail
    refine ⟨trivial, ?_⟩
    refine (callsIn_wide.2 (NoN i _)).mono ?_
    rintro e w' ⟨rfl, rfl⟩
    gi_wp2_with fail
    refine ⟨trivial, ?_⟩
    refine (callsIn_wide.2 (LenN _)).mono ?_
    rintro e w' ⟨rfl, rfl⟩
    gi_wp2_with fail
    refine ⟨trivial, ?_⟩
    refine (callsIn_wide.2 (UptoN v _)).mono ?_
    rintro e w1 ⟨rfl, hk1⟩
    have hk2 := hk1
    gi_wp2_with fail
    refine ⟨trivial, ?_⟩
    refine (callsIn_wide.2 (KeepN _ rfl _)).mono ?_
    rintro e w2 ⟨rfl, hk3⟩
    have K2 := Lib.hid (Kept.trans hk1 hk3 (fun _ _ h => h))
    clear hk1 hk2 hk3
    gi_wp2_with fail
    refine ⟨trivial, ?_⟩
    refine (callsIn_wide.2 (LastN _)).mono ?_
    rintro e w' ⟨rfl, rfl⟩
    gi_wp2_with fail
    refine ⟨trivial, ?_⟩
    refine (callsIn_wide.2 (awake6_any _)).mono ?_
    rintro e w3 ⟨rfl, hk4⟩
    have K3 := Lib.hid (Kept.trans K2.out hk4 (fun _ _ h => h))
    have hD3 := K3.out.heap (fun h => h) hK
    have hc3 := K3.out.cell (p := ⟨w.heap.size, 0, none⟩) (fun h => h) hc
    have hf3 : w3.frozen? ⟨w.heap.size, 0, none⟩ = false := (World.frozen?_of_block (K3.out.block _ (World.block_lt_of_cell? W _ hc) (fun h => h))).trans hf
    have HB3 := Lib.hid (((hB.trans ((below_of_kept K3.out).mono hB.size)).setCell (p := ⟨w.heap.size, 0, none⟩) (Nat.le_refl _) (.bool true)))
    have HD3 := Lib.hid hD3
    have hDne : w.heap.size ≠ D := by simp at hD; omega
    have HD4 := Lib.hid (show (w3.setCell ⟨w.heap.size, 0, none⟩ (.bool true)).heap[D]? = some (.deferred (some [])) from by simp [World.setCell, Array.getElem?_modify, hD3, hDne])
    clear hk4 hK hc hf hB hD3
    gi_wp2
    refine ⟨by simp, .inl ⟨_, _, rfl, run_takeDeferred HD4.out, ?_⟩⟩
    have hc5 := cell_kept (World.cell?_setCell_same' _ _ _ (by rw [hc3]; rfl)) (grownBy_putObj' (w3.setCell ⟨w.heap.size, 0, none⟩ (.bool true)) D (.deferred none)) (fun r e => by cases e; exact ⟨_, HD4.out, rfl⟩)
    refine ⟨.bool true, ?_, rfl, kept_of_below (HB3.out.trans (belowK_b (w := w) (Nat.le_refl _) _ D _ _ (by simp at hD; omega) HD4.out rfl rfl))⟩
    simp [results, Try.f6, go_sem, hc5]
end Go.Proofs.Yteinjmhogkneoaa
