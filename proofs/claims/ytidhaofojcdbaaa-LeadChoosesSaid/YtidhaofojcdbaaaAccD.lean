/-
  Package accept: canPromise, Prepare, Accept.
-/
import Derived.Test.YtidhaofojcdbaaaAccC
import Derived.Test.YtidhaofojcdbaaaBalA
import Derived.Test.YtidhaofojcdbaaaCmdA
namespace Go.Proofs.Ytidhaofojcdbaaa
open Go.RowKit
set_option linter.unusedVariables false

/-- A ballot. -/
def IsBal (b : Int) : Prop := Fine (b / 8) (b % 8)
open Classical in
noncomputable def canX (p b : Int) : Int := if ¬ IsBal b then 1 else if b < p then 10 else 0
open Classical in
noncomputable def prepX (p b f : Int) : Int := if f < 0 ∨ 512 < f then 1 else canX p b
open Classical in
noncomputable def accX (p b s x : Int) : Int := if ¬ IsBal b ∨ s < 0 ∨ 512 ≤ s then 1 else if x ≠ 0 then x else canX p b
noncomputable def prepP (p b f : Int) : Int := if prepX p b f = 0 then b else p
noncomputable def prepL (p b f : Int) (L : List Vt) : List Vt := if prepX p b f = 0 then fromV L f else []
noncomputable def accP (p b s x : Int) : Int := if accX p b s x = 0 then b else p
noncomputable def accL (p b s x : Int) (L : List Vt) (v : Vt) : List Vt := if accX p b s x = 0 then putV L v else L
theorem ACan_any (w : World) (g bm : Nat) (p b : Int) (L : List Vt) (h : AccAt w g bm p L) (h0 : 0 ≤ b) (h1 : b ≤ 18446744073709551615) : Calls Try.prog 85 #[.pointer (some ⟨g, 0, none⟩), .int .u64 b] w fun e w' => e = .returned (.int .i64 (canX p b)) ∧ w = w' := by
  obtain ⟨c0, c1, f0, f1, hg, hne, hb⟩ := h.c
  clear h
  unfold canX
  by_cases hB : IsBal b
  · have HM := Lib.hid (bIs_yes b w h0 h1 hB)
    rw [if_neg (by simpa using hB)]
    by_cases hp : b < p
    · rw [if_pos hp]
      clear hB
      go_enter Try.func85, Try.ntmps85
      go_wp2_with (go_at_call 87; refine HM.out.mono ?_; rintro e w' ⟨rfl, rfl⟩)
      all_goals go_ret
      all_goals exact ⟨rfl, rfl⟩
    · rw [if_neg hp]
      have hp' : decide (b < p) = false := decide_eq_false hp
      clear hB hp
      go_enter Try.func85, Try.ntmps85
      go_wp2_with (go_at_call 87; refine HM.out.mono ?_; rintro e w' ⟨rfl, rfl⟩)
      all_goals go_ret
      all_goals exact ⟨rfl, rfl⟩
  · have HM := Lib.hid (bIs_no b w h0 h1 hB)
    rw [if_pos hB]
    clear hB
    go_enter Try.func85, Try.ntmps85
    go_wp2_with (go_at_call 87; refine HM.out.mono ?_; rintro e w' ⟨rfl, rfl⟩)
    all_goals go_ret
    all_goals exact ⟨rfl, rfl⟩
def AG (g : Nat) : Nat → Prop := fun k => k = g
/-- An acceptor that promises another ballot. -/
theorem AccAt.promise {w : World} {g bm : Nat} {p : Int} {L : List Vt} (h : AccAt w g bm p L) (b : Int) (h0 : 0 ≤ b) (h1 : b ≤ 18446744073709551615) : AccAt (w.setCell ⟨g, 0, none⟩ (.int .u64 b)) g bm b L := by
  refine ⟨blkA_set h.cells 0 _, ?_, h.ok, h0, h1⟩
  exact h.map.kept (S := AG g) (((Kept.refl (AG g) w).setCell (p := ⟨g, 0, none⟩) (.inl (by show g = g; rfl)) (.int .u64 b))) (fun e => h.map.ne h.cells e)
theorem APrep_nil (w : World) (b f : Int) : Calls Try.prog 48 #[.pointer none, .int .u64 b, .int .i64 f] w fun e w' => e = .returned (.tuple #[.slice none 0 0, .int .i64 2]) ∧ w = w' := by
  go_enter Try.func48, Try.ntmps48
  go_wp2
  go_ret2
  exact ⟨rfl, rfl⟩
set_option maxRecDepth 100000 in
theorem APrep_any (w : World) (g bm : Nat) (p b f : Int) (L : List Vt) (h : AccAt w g bm p L) (h0 : 0 ≤ b) (h1 : b ≤ 18446744073709551615) (hf : f ≤ 9223372036854775807) : Calls Try.prog 48 #[.pointer (some ⟨g, 0, none⟩), .int .u64 b, .int .i64 f] w fun e w' =>
    ∃ v, e = .returned (.tuple #[v, .int .i64 (prepX p b f)]) ∧ VOwn w.heap.size w' v (prepL p b f L) ∧ AccAt w' g bm (prepP p b f) L ∧ Kept (AB g bm) w w' := by
  have HA := Lib.hid h
  obtain ⟨c0, c1, f0, f1, hg, hne, hb⟩ := h.c
  have HC := Lib.hid (ACan_any w g bm p b L h h0 h1)
  clear h
  unfold prepL prepP
  by_cases hr : f < 0 ∨ 512 < f
  · have hx : prepX p b f = 1 := by unfold prepX; rw [if_pos hr]
    rw [hx, if_neg (by decide), if_neg (by decide)]
    clear hx
    by_cases hf0 : f < 0
    · clear hr
      go_enter Try.func48, Try.ntmps48
      go_wp2
      go_ret2
      exact ⟨_, rfl, VOwn.nil _ _, HA.out, Kept.refl _ _⟩
    · have hf1 : 0 ≤ f := by omega
      have hf2 : 512 < f := by omega
      clear hr hf0
      go_enter Try.func48, Try.ntmps48
      go_wp2
      go_ret2
      exact ⟨_, rfl, VOwn.nil _ _, HA.out, Kept.refl _ _⟩
  · have hx : prepX p b f = canX p b := by unfold prepX; rw [if_neg hr]
    rw [hx]
    have hf1 : 0 ≤ f := by omega
    have hf2 : f ≤ 512 := by omega
    clear hx hr
    by_cases hz : canX p b = 0
    · rw [if_pos hz, if_pos hz, hz]
      rw [hz] at HC
      have HV := Lib.hid (AVotes_any _ g bm b f L (HA.out.promise b h0 h1) (by omega))
      clear hz
      go_enter Try.func48, Try.ntmps48
      go_wp2_with (first | (go_at_call 85; refine HC.out.mono ?_; rintro e w' ⟨rfl, rfl⟩) | fail)
      refine HV.out.mono ?_
      rintro e w2 ⟨v, rfl, hv, hk⟩
      obtain ⟨a, c, rfl⟩ := hv.form
      have HV2 := Lib.hid hv
      have HA2 := Lib.hid ((HA.out.promise b h0 h1).no hk)
      have HK2 : Hid (Kept (AB g bm) w w2) := Lib.hid (((Kept.refl (AB g bm) w).setCell (p := ⟨g, 0, none⟩) (.inl (.inl rfl)) (.int .u64 b)).trans hk (fun _ _ h => h.elim))
      clear hv hk
      go_wp2
      go_ret2
      exact ⟨_, rfl, HV2.out.mono (by simp [World.setCell]), HA2.out, HK2.out⟩
    · rw [if_neg hz, if_neg hz]
      obtain ⟨x, hx⟩ : ∃ x, x = canX p b := ⟨_, rfl⟩
      rw [← hx] at hz HC ⊢
      have hxe : (x == 0) = false := by simpa using hz
      clear hx
      go_enter Try.func48, Try.ntmps48
      go_wp2_with (first | (go_at_call 85; refine HC.out.mono ?_; rintro e w' ⟨rfl, rfl⟩) | fail)
      all_goals go_ret2
      all_goals exact ⟨_, rfl, VOwn.nil _ _, HA.out, Kept.refl _ _⟩
theorem AAcc_nil (w : World) (b s k ch ep nd : Int) : Calls Try.prog 49 #[.pointer none, .int .u64 b, .int .i64 s, .agg #[.int .i64 k, .int .i64 ch, .int .u64 ep, .int .i64 nd]] w fun e w' => e = .returned (.int .i64 2) ∧ Kept NoB w w' := by
  go_enter Try.func49, Try.ntmps49
  go_wp2
  go_ret
  exact ⟨rfl, (Kept.refl _ _).alloc _⟩
theorem MapV.drew {P : Program} {k : TypeId} {f : Vt → Value} {w : World} {bm : Nat} {L : List Vt} (h : MapV P k f w bm L) : MapV P k f w.drew bm L := h
theorem AccAt.drew {w : World} {g bm : Nat} {p : Int} {L : List Vt} (h : AccAt w g bm p L) : AccAt w.drew g bm p L := ⟨h.cells, h.map, h.ok, h.p0, h.p1⟩
theorem AccAt.voted {w w' : World} {g bm : Nat} {p : Int} {L : List Vt} (h : AccAt w g bm p L) (v : Vt) (hv : VtOk v) (hg : w.grownBy w' (some bm)) (hm : MapV Try.prog 3 vvv w' bm (putV L v)) : AccAt w' g bm p (putV L v) := by
  refine ⟨?_, hm, fun x hx => ?_, h.p0, h.p1⟩
  · exact (Kept.grown (S := AG bm) (Kept.refl _ w) hg (fun k hk => by injection hk with hk; exact .inl hk.symm)).heap (fun e => h.map.ne h.cells (by have e : g = bm := e; exact e.symm)) h.cells
  · rcases putV_mem hx with rfl | hx
    · exact hv
    · exact h.ok x hx
set_option maxRecDepth 100000 in
set_option maxHeartbeats 1000000 in
theorem AAcc_any (w : World) (g bm : Nat) (p b s k ch ep nd x : Int) (L : List Vt) (h : AccAt w g bm p L) (h0 : 0 ≤ b) (h1 : b ≤ 18446744073709551615) (hp0 : 0 ≤ ep) (hp1 : ep ≤ 18446744073709551615) (hx : Chk k ch ep nd x) : Calls Try.prog 49 #[.pointer (some ⟨g, 0, none⟩), .int .u64 b, .int .i64 s, .agg #[.int .i64 k, .int .i64 ch, .int .u64 ep, .int .i64 nd]] w fun e w' =>
    e = .returned (.int .i64 (accX p b s x)) ∧ AccAt w' g bm (accP p b s x) (accL p b s x L ⟨s, b, k, ch, ep, nd⟩) ∧ Kept (AB g bm) w w' := by
  have HK0 := Lib.hid ((Kept.refl NoB w).alloc (.cells #[.int .i64 k, .int .i64 ch, .int .u64 ep, .int .i64 nd] 39))
  have h' := h.no HK0.out
  have hfew := h.few
  have HA := Lib.hid h'
  have hgl : g < w.heap.size := heap_lt h.cells
  have hbl : bm < w.heap.size := h.map.lt
  have HC : Hid (∀ w, Calls Try.prog 52 #[.agg #[.int .i64 k, .int .i64 ch, .int .u64 ep, .int .i64 nd]] w fun e w' => e = .returned (.int .i64 x) ∧ Kept NoB w w') :=
    Lib.hid (fun w => (Check_any k ch ep nd w hp0).mono (by rintro e w' ⟨y, hy, rfl, hk⟩; exact ⟨by rw [hy.one hx], hk⟩))
  have HKA : Hid (Kept (AB g bm) w (w.alloc (.cells #[.int .i64 k, .int .i64 ch, .int .u64 ep, .int .i64 nd] 39))) := Lib.hid (HK0.out.mono (fun _ _ h => h.elim))
  clear h h' hx
  unfold accL accP
  by_cases hB : IsBal b
  · have HM := Lib.hid (bIs_yes b (w.alloc (.cells #[.int .i64 k, .int .i64 ch, .int .u64 ep, .int .i64 nd] 39)) h0 h1 hB)
    by_cases hr : s < 0 ∨ 512 ≤ s
    · have hX : accX p b s x = 1 := by unfold accX; rw [if_pos (.inr hr)]
      rw [hX, if_neg (by decide), if_neg (by decide)]
      clear hX hB
      by_cases hs0 : s < 0
      · clear hr
        go_enter Try.func49, Try.ntmps49
        go_wp2_with (go_at_call 87; refine HM.out.mono ?_; rintro e w' ⟨rfl, rfl⟩)
        all_goals go_ret
        all_goals exact ⟨rfl, HA.out, HKA.out⟩
      · have hs1 : 0 ≤ s := by omega
        have hs2 : 512 ≤ s := by omega
        clear hr hs0
        go_enter Try.func49, Try.ntmps49
        go_wp2_with (go_at_call 87; refine HM.out.mono ?_; rintro e w' ⟨rfl, rfl⟩)
        all_goals go_ret
        all_goals exact ⟨rfl, HA.out, HKA.out⟩
    · have hs1 : 0 ≤ s := by omega
      have hs2 : s < 512 := by omega
      have hX : accX p b s x = if x ≠ 0 then x else canX p b := by
        unfold accX
        rw [if_neg (by rintro (h | h)
                       · exact h hB
                       · exact hr h)]
      rw [hX]
      clear hX hr hB
      have hd : decide (512 ≤ s) = false := decide_eq_false (by omega)
      have hrow := heap_alloc_new w (.cells #[.int .i64 k, .int .i64 ch, .int .u64 ep, .int .i64 nd] 39)
      have HR := Lib.hid hrow
      by_cases hx0 : x = 0
      · subst hx0
        rw [if_neg (by decide)]
        have HCAN := fun w' (h : AccAt w' g bm p L) => ACan_any w' g bm p b L h h0 h1
        have HCAN := Lib.hid HCAN
        by_cases hz : canX p b = 0
        · rw [if_pos hz, if_pos hz]
          rw [hz] at HCAN
          rw [hz]
          clear hz hrow
          go_enter Try.func49, Try.ntmps49
          go_wp2_with (go_at_call 87; refine HM.out.mono ?_; rintro e w' ⟨rfl, rfl⟩)
          refine (HC.out _).mono ?_
          rintro e w2 ⟨rfl, hk⟩
          have HA2 := Lib.hid (HA.out.no hk)
          have HR2 := Lib.hid (hk.heap (fun h => h) HR.out)
          have HK2 := Lib.hid (HKA.out.trans hk (fun _ _ h => h.elim))
          obtain ⟨c0, c1, f0, f1, hg, hne, hb⟩ := HA2.out.c
          clear hk
          go_wp2_with (go_at_call 85; refine (HCAN.out _ HA2.out).mono ?_; rintro e w' ⟨rfl, rfl⟩)
          have HA3 := Lib.hid (HA2.out.promise b h0 h1)
          have HR3 := Lib.hid (blkA_set_other HR2.out 0 (.int .u64 b) (show g ≠ w.heap.size by omega))
          have HK3 := Lib.hid (HK2.out.setCell (p := ⟨g, 0, none⟩) (.inl (.inl rfl)) (.int .u64 b))
          clear HA2 HR2 HK2 c0 c1 f0 f1 hg hne hb
          obtain ⟨W, hW⟩ : ∃ W, W = w2.setCell ⟨g, 0, none⟩ (.int .u64 b) := ⟨_, rfl⟩
          rw [← hW] at HA3 HR3 HK3 ⊢
          obtain ⟨c0, c1, f0, f1, hg, hne, hb⟩ := HA3.out.c
          have d0 : W.cell? ⟨w.heap.size, 0, none⟩ = some (.int .i64 k) := cell_of_row _ _ 0 _ _ _ HR3.out
          have d1 : W.cell? ⟨w.heap.size, 1, none⟩ = some (.int .i64 ch) := cell_of_row _ _ 1 _ _ _ HR3.out
          have d2 : W.cell? ⟨w.heap.size, 2, none⟩ = some (.int .u64 ep) := cell_of_row _ _ 2 _ _ _ HR3.out
          have d3 : W.cell? ⟨w.heap.size, 3, none⟩ = some (.int .i64 nd) := cell_of_row _ _ 3 _ _ _ HR3.out
          have hwf : (Lit.int .i64 s).wf = true := WalkArith.wf_i64 (by omega)
          clear hW c0 f0 f1
          obtain ⟨w1, hrun, hm1, hg1⟩ := run_store_mv (P := Try.prog) W.drew 104 3 48 Try.underlying3 Try.underlying104 bm vvv L ⟨s, b, k, ch, ep, nd⟩ HA3.out.map.drew hwf (by omega)
          have hrun : (Instr.mapUpdate 104 (.map (some bm)) (.int .i64 s) (.agg #[.int .i64 s, .int .u64 b, .int .i64 k, .int .i64 ch, .int .u64 ep, .int .i64 nd])).run Try.prog W.drew = .ok () w1 := hrun
          have HM1 := Lib.hid hm1
          have HG1 := Lib.hid hg1
          clear hm1 hg1
          go_region
          all_goals
            go_wp2
            go_ret
            exact ⟨rfl, HA3.out.drew.voted _ ⟨by omega, by omega, h0, h1, hp0, hp1⟩ HG1.out HM1.out, HK3.out.drew.grown HG1.out (fun i hi => by injection hi with hi; exact .inl (.inr hi.symm))⟩
        · rw [if_neg hz, if_neg hz]
          obtain ⟨y, hy⟩ : ∃ y, y = canX p b := ⟨_, rfl⟩
          rw [← hy] at hz HCAN ⊢
          have hye : (y == 0) = false := by simpa using hz
          clear hy hrow
          go_enter Try.func49, Try.ntmps49
          go_wp2_with (go_at_call 87; refine HM.out.mono ?_; rintro e w' ⟨rfl, rfl⟩)
          refine (HC.out _).mono ?_
          rintro e w2 ⟨rfl, hk⟩
          have HA2 := Lib.hid (HA.out.no hk)
          have HK2 := Lib.hid (HKA.out.trans hk (fun _ _ h => h.elim))
          clear hk
          go_wp2_with (go_at_call 85; refine (HCAN.out _ HA2.out).mono ?_; rintro e w' ⟨rfl, rfl⟩)
          all_goals go_ret
          all_goals exact ⟨rfl, HA2.out, HK2.out⟩
      · rw [if_pos hx0, if_neg hx0, if_neg hx0]
        have hxe : (x == 0) = false := by simpa using hx0
        clear hrow
        go_enter Try.func49, Try.ntmps49
        go_wp2_with (go_at_call 87; refine HM.out.mono ?_; rintro e w' ⟨rfl, rfl⟩)
        refine (HC.out _).mono ?_
        rintro e w2 ⟨rfl, hk⟩
        have HA2 := Lib.hid (HA.out.no hk)
        have HK2 := Lib.hid (HKA.out.trans hk (fun _ _ h => h.elim))
        clear hk
        go_wp2
        all_goals go_ret
        all_goals exact ⟨rfl, HA2.out, HK2.out⟩
  · have HM := Lib.hid (bIs_no b (w.alloc (.cells #[.int .i64 k, .int .i64 ch, .int .u64 ep, .int .i64 nd] 39)) h0 h1 hB)
    have hX : accX p b s x = 1 := by unfold accX; rw [if_pos (.inl hB)]
    rw [hX, if_neg (by decide), if_neg (by decide)]
    clear hX hB
    go_enter Try.func49, Try.ntmps49
    go_wp2_with (go_at_call 87; refine HM.out.mono ?_; rintro e w' ⟨rfl, rfl⟩)
    all_goals go_ret
    all_goals exact ⟨rfl, HA.out, HKA.out⟩
end Go.Proofs.Ytidhaofojcdbaaa
