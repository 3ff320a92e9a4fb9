/-
  Package conf: the rule that removes.
-/
import Derived.Test.YtbdenjmnohhhiaaDoorCnfAD
namespace Go.Proofs.YtbdenjmnohhhiaaDoor
open Go.RowKit
set_option linter.unusedVariables false
set_option linter.unusedSimpArgs false

theorem ent_rm1 : Enters 79 := fun args w => by kernel_rfl
theorem Rm1_any (x n : Int) (g : Nat) (w : World) (hg : w.cell? ⟨g, 0, none⟩ = some (.int .i64 n)) : Calls Tryd.prog 79 #[.int .i64 x, .pointer (some ⟨g, 0, none⟩)] w (BoolE (decide (x = n)) w) := by
  by_cases h : x = n
  · subst h
    go_enter Tryd.func79, Tryd.ntmps79
    go_wp2
    go_ret
    exact ⟨(by simp), Kept.refl _ _⟩
  · have hb : ((x : Int) == (n : Int)) = false := by simpa using h
    have HD : Hid (decide (x = n) = false) := Lib.hid (decide_eq_false h)
    obtain ⟨d, hd⟩ : ∃ d, d = decide (x = n) := ⟨_, rfl⟩
    rw [← hd] at HD ⊢
    clear h hd
    go_enter Tryd.func79, Tryd.ntmps79
    go_wp2
    go_ret
    exact ⟨(by rw [HD.out] <;> rfl), Kept.refl _ _⟩
theorem keep_ne (l : List Int) (n : Int) : keep l (fun x => decide (x = n)) = l.filter (fun x => decide (x ≠ n)) := by
  unfold keep
  congr 1
  funext x
  simp
set_option maxRecDepth 100000 in
set_option maxHeartbeats 1000000 in
theorem do_remove_join (B r cap : Nat) (l : List Cf) (us : Nat → Value) (j : Nat) (nd : Int) (w : World) (hr : RowC w r cap l us) (ho : OwnC B w l us) (hB : B ≤ r) (hj : j < l.length) (hjn : (nthC l j).jn = nd) :
    Calls Tryd.prog 58 #[.pointer (some ⟨r, j * 5, none⟩), .int .i64 nd] w (DoEnd B r cap (l.set j (turnC (nthC l j) 1 nd)) w) := by
  have hr1 := hr.kept ((Kept.refl NoB w).alloc (.cells #[.int .i64 nd] 3)) (fun h => h)
  have hw1 : Kept NoB w (w.alloc (.cells #[.int .i64 nd] 3)) := (Kept.refl NoB w).alloc _
  have hrl := hr.lt
  obtain ⟨c4, f4⟩ := hr1.cell (m := j * 5 + 4) (by omega)
  rw [cellC4, hjn] at c4
  have HF : Hid (l.set j (turnC (nthC l j) 1 nd) = l.set j { nthC l j with jn := 0 }) := Lib.hid (by rw [turn1, if_pos hjn])
  have HR1 := Lib.hid hr1
  have HO1 := Lib.hid (ho.kept hw1 (fun _ _ _ _ h => h))
  have HK1 := Lib.hid hw1
  have HO := Lib.hid ho
  clear hr ho hjn hr1 hw1
  go_enter Tryd.func58, Tryd.ntmps58
  go_wp2_with fail
  go_quiet (fail)
  go_wp2
  go_end0
  have hq : Kept NoB (w.alloc (.cells #[.int .i64 nd] 3)) ((w.alloc (.cells #[.int .i64 nd] 3)).drewN nq) := (Kept.refl _ _).drewN _
  have hr2 := HR1.out.kept hq (fun h => h)
  have ho2 := HO1.out.kept hq (fun _ _ _ _ h => h)
  rw [HF.out]
  refine ⟨rfl, ⟨_, hr2.setJn hj 0, ho2.store hr2 hj { nthC l j with jn := 0 } _ rfl ⟨(HO.out.1 j hj).2.1, (HO.out.1 j hj).2.2.1⟩⟩, ?_⟩
  exact kept_le ((HK1.out.trans hq (fun _ _ h => h)).mono (fun _ _ h => h.elim)) hB _
theorem last_two {c : Cf} {b : Bool} {nd : Int} (hj : c.jn ≠ nd) (hb : b = (c.fr && decide (c.last ≠ nd))) : turnC c 1 nd = { c with ns := c.ns.filter (fun x => decide (x ≠ nd)), fr := b } := by
  rw [turn1, if_neg hj, hb]
/-- Behind the store of Fresh: what DeleteFunc does, and the last store. -/
theorem rem_fin (B r cap : Nat) (l : List Cf) (us : Nat → Value) (j : Nat) (nd : Int) (a : Option Addr) (c : Nat) (w V X W3 : World) (y : Cf) (b : Bool)
    (hrV : RowC V r cap l us) (hoV : OwnC B V l us) (hkV : Kept NoB w V) (hus : us j = .slice a (nthC l j).ns.length c) (hiV : V.heap[w.heap.size]? = some (.cells #[.int .i64 nd] 3 (0, 0)))
    (hrl : ∀ i k, i < l.length → (us i).ownBlock = some k → k ≠ w.heap.size ∧ k ≠ r) (hX : Kept NoB V X) (hW : W3 = X.setCell ⟨r, j * 5 + 3, none⟩ (.bool b)) (hB : B ≤ r) (hBw : B ≤ w.heap.size) (hj : j < l.length) (hy : nthC l j = y) (h5 : y.ns.length ≤ 5)
    (hF : l.set j (turnC (nthC l j) 1 nd) = l.set j { nthC l j with ns := (nthC l j).ns.filter (fun x => decide (x ≠ nd)), fr := b }) :
    W3.cell? ⟨r, j * 5 + 2, none⟩ = some (.slice a y.ns.length c) ∧
    Calls Tryd.prog 78 #[.slice a y.ns.length c, .func (.func 79) #[] #[.pointer (some ⟨w.heap.size, 0, none⟩)]] W3 fun e w' =>
      e = .returned (.slice a (y.ns.filter (fun x => decide (x ≠ nd))).length c) ∧ (∃ u, w'.cell? ⟨r, j * 5 + 2, none⟩ = some u) ∧ w'.frozen? ⟨r, j * 5 + 2, none⟩ = false ∧
      DoEnd B r cap (l.set j (turnC (nthC l j) 1 nd)) w (.returned (.tuple #[])) (w'.setCell ⟨r, j * 5 + 2, none⟩ (.slice a (y.ns.filter (fun x => decide (x ≠ nd))).length c)) := by
  subst hy
  have hrX := hrV.kept hX (fun h => h)
  have hoX := hoV.kept hX (fun _ _ _ _ h => h)
  have hs3 := hrX.setFr hj b
  have hb0 := (hoX.1 j hj).2
  have ho3 := hoX.store hrX (o := j * 5 + 3) hj { nthC l j with fr := b } (.bool b) rfl ⟨hb0.1, hb0.2.1⟩
  rw [← hW] at hs3 ho3
  have hj1 : j < (l.set j { nthC l j with fr := b }).length := by rw [List.length_set]; exact hj
  have hu1 : upd us j (us j) j = .slice a (nthC l j).ns.length c := by rw [upd_at, hus]
  have hd2 := (hs3.cell (m := j * 5 + 2) (by omega)).1
  rw [cellC2, hu1] at hd2
  have hown := (ho3.1 j hj1).1
  rw [hu1, nthC_sets hj] at hown
  have hk3 : Kept (fun k => k = r) X W3 := by rw [hW]; exact (Kept.refl (fun k => k = r) X).setCell (p := ⟨r, j * 5 + 3, none⟩) (.inl rfl) _
  have hneb : w.heap.size ≠ r := by
    intro e
    obtain ⟨cs, hh, _⟩ := hrV
    rw [← e, hiV] at hh
    injection hh with hh
    injection hh with _ ht
    exact absurd ht (by decide)
  have hi3 : W3.heap[w.heap.size]? = some (.cells #[.int .i64 nd] 3 (0, 0)) := hk3.heap (fun h => hneb h) (hX.heap (fun h => h) hiV)
  have hown' : ∀ k, (Value.slice a (nthC l j).ns.length c).ownBlock = some k → k ≠ w.heap.size ∧ k ≠ r := fun k hk => hrl j k hj (by rw [hus]; exact hk)
  refine ⟨hd2, ?_⟩
  have hdel := Delete_any B c a (nthC l j).ns 79 #[.pointer (some ⟨w.heap.size, 0, none⟩)] (fun x => decide (x = nd)) W3 hown (by omega) ent_rm1
    (fun x w' _ hk => Rm1_any x nd w.heap.size w' (cells1 (hk.heap (fun h => (hown' _ h).1 rfl) hi3)))
  refine hdel.mono ?_
  rintro e w6 ⟨rfl, hown6, hk6⟩
  rw [keep_ne] at *
  have hr6 := hs3.kept hk6 (fun h => (hown' r h).2 rfl)
  obtain ⟨d6, g6⟩ := hr6.cell (m := j * 5 + 2) (by omega)
  have hs7 := hr6.setNs hj1 (.slice a ((nthC l j).ns.filter (fun x => decide (x ≠ nd))).length c) ((nthC l j).ns.filter (fun x => decide (x ≠ nd)))
  have hlen : ((nthC l j).ns.filter (fun x => decide (x ≠ nd))).length ≤ (nthC l j).ns.length := List.length_filter_le _ _
  have ho6 : OwnC B w6 ((l.set j { nthC l j with fr := b }).set j { nthC (l.set j { nthC l j with fr := b }) j with ns := (nthC l j).ns.filter (fun x => decide (x ≠ nd)) }) (upd (upd us j (us j)) j (.slice a ((nthC l j).ns.filter (fun x => decide (x ≠ nd))).length c)) := by
    refine ho3.upd hk6 hj1 _ _ (fun i hi hij k hk h => ?_) hown6 ?_ (fun i hi hij k hk h => ?_)
    · exact ho3.2 i j k hi hj1 hij hk (by rw [hu1]; exact h)
    · rw [nthC_sets hj]; exact ⟨hb0.1, hb0.2.1, by show ((nthC l j).ns.filter _).length ≤ 1000; omega⟩
    · refine ho3.2 i j k hi hj1 hij h ?_
      rw [hu1]
      rcases a with _ | ⟨_, _, _⟩ <;> exact hk
  have hkr : Kept (fun k => k = r) w6 (w6.setCell ⟨r, j * 5 + 2, none⟩ (.slice a ((nthC l j).ns.filter (fun x => decide (x ≠ nd))).length c)) := (Kept.refl (fun k => k = r) w6).setCell (p := ⟨r, j * 5 + 2, none⟩) (.inl rfl) _
  have ho7 := ho6.kept hkr (fun i hi k h1 h2 => row_ne hr6 (ho6.1 i hi).1 (h2 ▸ h1))
  rw [nthC_sets hj, set_set] at hs7 ho7
  refine ⟨rfl, ⟨_, d6⟩, g6, ?_⟩
  rw [hF]
  have hkw : Kept (fun k => B ≤ k) w W3 := ((hkV.trans hX (fun _ _ h => h)).mono (fun _ _ h => h.elim)).trans hk3 (fun i hi h => by have h : i = r := h; rw [h]; exact hB)
  exact ⟨rfl, ⟨_, hs7, ho7⟩, kept_le (hkw.trans hk6 (fun i hi h => (World.ownsRow.lt (hoV.1 j hj).1 i (by rw [hus]; exact h)).1)) hB _⟩
set_option maxRecDepth 100000 in
set_option maxHeartbeats 2000000 in
/-- Behind the store of Fresh: the nodes without one. -/
theorem do_remove_node (B r cap : Nat) (l : List Cf) (us : Nat → Value) (j : Nat) (nd : Int) (w : World) (hr : RowC w r cap l us) (ho : OwnC B w l us) (hB : B ≤ r) (hBw : B ≤ w.heap.size) (hj : j < l.length) (hjn : (nthC l j).jn ≠ nd) (h1 : 1 ≤ (nthC l j).ns.length) (h5 : (nthC l j).ns.length ≤ 5) :
    Calls Tryd.prog 58 #[.pointer (some ⟨r, j * 5, none⟩), .int .i64 nd] w (DoEnd B r cap (l.set j (turnC (nthC l j) 1 nd)) w) := by
  have hr1 := hr.kept ((Kept.refl NoB w).alloc (.cells #[.int .i64 nd] 3)) (fun h => h)
  have hw1 : Kept NoB w (w.alloc (.cells #[.int .i64 nd] 3)) := (Kept.refl NoB w).alloc _
  have ho1 := ho.kept hw1 (fun _ _ _ _ h => h)
  have hrl := hr.lt
  obtain ⟨a, c, hus⟩ := ho.slice hj
  obtain ⟨c0, f0⟩ := hr1.cell (m := j * 5) (by omega)
  obtain ⟨c1, f1⟩ := hr1.cell (m := j * 5 + 1) (by omega)
  obtain ⟨c2, f2⟩ := hr1.cell (m := j * 5 + 2) (by omega)
  obtain ⟨c3, f3⟩ := hr1.cell (m := j * 5 + 3) (by omega)
  obtain ⟨c4, f4⟩ := hr1.cell (m := j * 5 + 4) (by omega)
  rw [cellC0] at c0
  rw [cellC1] at c1
  rw [cellC2, hus] at c2
  rw [cellC3] at c3
  rw [cellC4] at c4
  have HRL : Hid (∀ i k, i < l.length → (us i).ownBlock = some k → k ≠ w.heap.size ∧ k ≠ r) := Lib.hid (fun i k hi hk => ⟨by have := (World.ownsRow.lt (ho.1 i hi).1 k hk).2; omega, fun e => row_ne hr (ho.1 i hi).1 (e ▸ hk)⟩)
  obtain ⟨q, hq⟩ : ∃ q, q = decide ((nthC l j).last = nd) := ⟨_, rfl⟩
  have hbd := (ho.1 j hj).2
  have HLA : Hid (∀ w', Kept NoB (w.alloc (.cells #[.int .i64 nd] 3)) w' → _) := Lib.hid (fun w' hk => hq ▸ isLast_any _ (nthC l j) nd _ w' ((cf_eta _ _ (nthC l j) (us j) (ho1.1 j hj).1.nslB hbd).kept hk (fun _ _ _ h => h)) h1)
  rw [hus] at HLA
  obtain ⟨b, hb⟩ : ∃ b, b = ((nthC l j).fr && !q) := ⟨_, rfl⟩
  have HF : Hid (l.set j (turnC (nthC l j) 1 nd) = l.set j { nthC l j with ns := (nthC l j).ns.filter (fun x => decide (x ≠ nd)), fr := b }) := Lib.hid (by
    rw [last_two (b := b) hjn (by rw [hb, hq]; simp)])
  have hjb : ((((nthC l j).jn) : Int) == (nd : Int)) = false := by simpa using hjn
  have HR1 := Lib.hid hr1
  have HO1 := Lib.hid ho1
  have HK1 := Lib.hid hw1
  have HUS := Lib.hid hus
  have HBD := Lib.hid hbd
  have hi0 := heap_alloc_new w (.cells #[.int .i64 nd] 3)
  have HI := Lib.hid hi0
  have i0 := cells1 hi0
  have hlw : w.heap.size < (w.alloc (.cells #[.int .i64 nd] 3)).heap.size := heap_lt hi0
  have HBB := Lib.hid hb
  clear hr ho hjn hr1 ho1 hw1 hus hq hbd hi0 hb hlw
  obtain ⟨y, hy⟩ : ∃ y, y = nthC l j := ⟨_, rfl⟩
  rw [← hy] at c0 c1 c2 c3 c4 h1 h5 HLA hjb HBB HBD
  have HY := Lib.hid hy
  obtain ⟨ych, yep, ns, fr, yjn⟩ := y
  simp only at c0 c1 c2 c3 c4 h1 h5 HLA hjb HBB HBD
  clear hy
  go_enter Tryd.func58, Tryd.ntmps58
  go_wp2_with fail
  generalize w.alloc (.cells #[.int .i64 nd] 3) = W at *
  go_quiet (fail)
  go_wp2_with fail
  obtain ⟨V, hV⟩ : ∃ V, V = W.drewN nq := ⟨_, rfl⟩
  have hWV : Kept NoB W V := by rw [hV]; exact (Kept.refl _ _).drewN _
  have HWV := Lib.hid hWV
  rw [← hV]
  have c0 := hWV.cell (p := ⟨r, j * 5, none⟩) (fun h => h) c0
  have c1 := hWV.cell (p := ⟨r, j * 5 + 1, none⟩) (fun h => h) c1
  have c2 := hWV.cell (p := ⟨r, j * 5 + 2, none⟩) (fun h => h) c2
  have c3 := hWV.cell (p := ⟨r, j * 5 + 3, none⟩) (fun h => h) c3
  have c4 := hWV.cell (p := ⟨r, j * 5 + 4, none⟩) (fun h => h) c4
  have i0 := hWV.cell (p := ⟨w.heap.size, 0, none⟩) (fun h => h) i0
  have hrV := HR1.out.kept hWV (fun h => h)
  have f3 := (hrV.cell (m := j * 5 + 3) (by omega)).2
  have HRV := Lib.hid hrV
  have HOV := Lib.hid (HO1.out.kept hWV (fun _ _ _ _ h => h))
  have HKV := Lib.hid (HK1.out.trans hWV (fun _ _ h => h))
  have HIV := Lib.hid (hWV.heap (fun h => h) HI.out)
  clear hV hWV hrV
  have HKc := Lib.hid (Kept.refl NoB V)
  have ZZ : ∀ q', q = q' → True := fun _ _ => trivial
  clear ZZ
  cases fr <;> cases q
  all_goals
    have hbv : b = _ := HBB.out
    simp only [Bool.not_true, Bool.not_false, Bool.and_true, Bool.and_false, Bool.false_and, Bool.true_and] at hbv
    subst hbv
    first | (go_region_law ((go_simp; go_at_call 77; refine (HLA.out _ (by first | exact HWV.out | exact HWV.out.drew)).mono ?_; rintro e w5 ⟨rfl, hk5⟩; have hk5' : Kept NoB V w5 := (by first | exact hk5 | exact (Kept.refl NoB V).drew.trans hk5 (fun _ _ h => h)); have r5 := HRV.out.kept hk5' (fun h => h); obtain ⟨d3, g3⟩ := r5.cell (m := j * 5 + 3) (by omega); have d2 := hk5'.cell (p := ⟨r, j * 5 + 2, none⟩) (fun h => h) c2; replace HKc := Lib.hid hk5'; clear hk5 hk5' r5))) | go_region
    all_goals
      go_wp2_with fail
      first
        | (generalize hW3 : World.drew (World.setCell _ _ _) = W3
           obtain ⟨X, hX, hWX⟩ : ∃ X, Kept NoB V X ∧ W3 = X.setCell ⟨r, j * 5 + 3, none⟩ (.bool _) := ⟨_, by first | exact HKc.out.drew | exact (Kept.refl NoB V).drew, hW3.symm.trans rfl⟩)
        | (generalize hW3 : World.setCell _ _ _ = W3
           obtain ⟨X, hX, hWX⟩ : ∃ X, Kept NoB V X ∧ W3 = X.setCell ⟨r, j * 5 + 3, none⟩ (.bool _) := ⟨_, by first | exact HKc.out | exact (Kept.refl NoB V), hW3.symm⟩)
      have hfin := rem_fin B r cap l us j nd a c w V X W3 _ _ HRV.out HOV.out HKV.out HUS.out HIV.out HRL.out hX hWX hB hBw hj HY.out.symm h5 HF.out
      simp only at hfin
      have HFIN := Lib.hid hfin
      clear hfin hW3
      have d2 := HFIN.out.1
      have HC2 := Lib.hid HFIN.out.2
      clear hX hWX c0 c1 c2 c3 c4 i0
      refine HC2.out.mono ?_
      rintro e w6 ⟨rfl, ⟨u6, d6⟩, g6, hend⟩
      generalize (List.filter (fun x => decide (x ≠ nd)) ns).length = m6 at hend ⊢
      have HEND := Lib.hid hend
      clear hend d2
      go_wp2
      go_end0
      exact HEND.out
end Go.Proofs.YtbdenjmnohhhiaaDoor
