/-
  Package conf: the rule that removes. Package conf: Do. The chapter's Do. Configurations in a row of the call's own; append to it. The statements' own functions of layer 9: one in both; one order. Package conf: Begin. The chapter's Begin. One command, plainly: what P9.5 asks of it.
-/
import Derived.Test.YtidhaofojcdbaaaCnf4
import Derived.Test.YtidhaofojcdbaaaCnf2
import Derived.Test.YtidhaofojcdbaaaCnf1
import Derived.BigQuiet
import Derived.Laws.MakeOwn
namespace Go.Proofs.Ytidhaofojcdbaaa
open Go.RowKit
set_option linter.unusedVariables false
set_option linter.unusedSimpArgs false

theorem ent_rm1 : Enters 173 := fun args w => by kernel_rfl
theorem Rm1_any (x n : Int) (g : Nat) (w : World) (hg : w.cell? ⟨g, 0, none⟩ = some (.int .i64 n)) : Calls Try.prog 173 #[.int .i64 x, .pointer (some ⟨g, 0, none⟩)] w (BoolE (decide (x = n)) w) := by
  by_cases h : x = n
  · subst h
    go_enter Try.func173, Try.ntmps173
    go_wp2
    go_ret
    exact ⟨(by simp), Kept.refl _ _⟩
  · have hb : ((x : Int) == (n : Int)) = false := by simpa using h
    have HD : Hid (decide (x = n) = false) := Lib.hid (decide_eq_false h)
    obtain ⟨d, hd⟩ : ∃ d, d = decide (x = n) := ⟨_, rfl⟩
    rw [← hd] at HD ⊢
    clear h hd
    go_enter Try.func173, Try.ntmps173
    go_wp2
    go_ret
    exact ⟨(by rw [HD.out] <;> rfl), Kept.refl _ _⟩
theorem keep_ne (l : List Int) (n : Int) : keep l (fun x => decide (x = n)) = l.filter (fun x => decide (x ≠ n)) := by
  unfold keep
  congr 1
  funext x
  simp
set_option maxRecDepth 100000 in
set_option maxHeartbeats 1000000 in
theorem do_remove_join (B r cap : Nat) (l : List Cf) (us : Nat → Value) (j : Nat) (nd : Int) (w : World) (hr : RowC w r cap l us) (ho : OwnC B w l us) (hB : B ≤ r) (hj : j < l.length) (hjn : (nthC l j).jn = nd) :
    Calls Try.prog 140 #[.pointer (some ⟨r, j * 5, none⟩), .int .i64 nd] w (DoEnd B r cap (l.set j (turnC (nthC l j) 1 nd)) w) := by
  have hr1 := hr.kept ((Kept.refl NoB w).alloc (.cells #[.int .i64 nd] 3)) (fun h => h)
  have hw1 : Kept NoB w (w.alloc (.cells #[.int .i64 nd] 3)) := (Kept.refl NoB w).alloc _
  have hrl := hr.lt
  obtain ⟨c4, f4⟩ := hr1.cell (m := j * 5 + 4) (by omega)
  rw [cellC4, hjn] at c4
  have HF : Hid (l.set j (turnC (nthC l j) 1 nd) = l.set j { nthC l j with jn := 0 }) := Lib.hid (by rw [turn1, if_pos hjn])
  have HR1 := Lib.hid hr1
  have HO1 := Lib.hid (ho.kept hw1 (fun _ _ _ _ h => h))
  have HK1 := Lib.hid hw1
  have HO := Lib.hid ho
  clear hr ho hjn hr1 hw1
  go_enter Try.func140, Try.ntmps140
  go_wp2_with fail
  go_quiet (fail)
  go_wp2
  go_end0
  have hq : Kept NoB (w.alloc (.cells #[.int .i64 nd] 3)) ((w.alloc (.cells #[.int .i64 nd] 3)).drewN nq) := (Kept.refl _ _).drewN _
  have hr2 := HR1.out.kept hq (fun h => h)
  have ho2 := HO1.out.kept hq (fun _ _ _ _ h => h)
  rw [HF.out]
  refine ⟨rfl, ⟨_, hr2.setJn hj 0, ho2.store hr2 hj { nthC l j with jn := 0 } _ rfl ⟨(HO.out.1 j hj).2.1, (HO.out.1 j hj).2.2.1⟩⟩, ?_⟩
  exact kept_le ((HK1.out.trans hq (fun _ _ h => h)).mono (fun _ _ h => h.elim)) hB _
theorem last_two {c : Cf} {b : Bool} {nd : Int} (hj : c.jn ≠ nd) (hb : b = (c.fr && decide (c.last ≠ nd))) : turnC c 1 nd = { c with ns := c.ns.filter (fun x => decide (x ≠ nd)), fr := b } := by
  rw [turn1, if_neg hj, hb]
/-- Behind the store of Fresh: what DeleteFunc does, and the last store. -/
theorem rem_fin (B r cap : Nat) (l : List Cf) (us : Nat → Value) (j : Nat) (nd : Int) (a : Option Addr) (c : Nat) (w V X W3 : World) (y : Cf) (b : Bool)
    (hrV : RowC V r cap l us) (hoV : OwnC B V l us) (hkV : Kept NoB w V) (hus : us j = .slice a (nthC l j).ns.length c) (hiV : V.heap[w.heap.size]? = some (.cells #[.int .i64 nd] 3 (0, 0)))
    (hrl : ∀ i k, i < l.length → (us i).ownBlock = some k → k ≠ w.heap.size ∧ k ≠ r) (hX : Kept NoB V X) (hW : W3 = X.setCell ⟨r, j * 5 + 3, none⟩ (.bool b)) (hB : B ≤ r) (hBw : B ≤ w.heap.size) (hj : j < l.length) (hy : nthC l j = y) (h5 : y.ns.length ≤ 5)
    (hF : l.set j (turnC (nthC l j) 1 nd) = l.set j { nthC l j with ns := (nthC l j).ns.filter (fun x => decide (x ≠ nd)), fr := b }) :
    W3.cell? ⟨r, j * 5 + 2, none⟩ = some (.slice a y.ns.length c) ∧
    Calls Try.prog 172 #[.slice a y.ns.length c, .func (.func 173) #[] #[.pointer (some ⟨w.heap.size, 0, none⟩)]] W3 fun e w' =>
      e = .returned (.slice a (y.ns.filter (fun x => decide (x ≠ nd))).length c) ∧ (∃ u, w'.cell? ⟨r, j * 5 + 2, none⟩ = some u) ∧ w'.frozen? ⟨r, j * 5 + 2, none⟩ = false ∧
      DoEnd B r cap (l.set j (turnC (nthC l j) 1 nd)) w (.returned (.tuple #[])) (w'.setCell ⟨r, j * 5 + 2, none⟩ (.slice a (y.ns.filter (fun x => decide (x ≠ nd))).length c)) := by
  subst hy
  have hrX := hrV.kept hX (fun h => h)
  have hoX := hoV.kept hX (fun _ _ _ _ h => h)
  have hs3 := hrX.setFr hj b
  have hb0 := (hoX.1 j hj).2
  have ho3 := hoX.store hrX (o := j * 5 + 3) hj { nthC l j with fr := b } (.bool b) rfl ⟨hb0.1, hb0.2.1⟩
  rw [← hW] at hs3 ho3
  have hj1 : j < (l.set j { nthC l j with fr := b }).length := by rw [List.length_set]; exact hj
  have hu1 : upd us j (us j) j = .slice a (nthC l j).ns.length c := by rw [upd_at, hus]
  have hd2 := (hs3.cell (m := j * 5 + 2) (by omega)).1
  rw [cellC2, hu1] at hd2
  have hown := (ho3.1 j hj1).1
  rw [hu1, nthC_sets hj] at hown
  have hk3 : Kept (fun k => k = r) X W3 := by rw [hW]; exact (Kept.refl (fun k => k = r) X).setCell (p := ⟨r, j * 5 + 3, none⟩) (.inl rfl) _
  have hneb : w.heap.size ≠ r := by
    intro e
    obtain ⟨cs, hh, _⟩ := hrV
    rw [← e, hiV] at hh
    injection hh with hh
    injection hh with _ ht
    exact absurd ht (by decide)
  have hi3 : W3.heap[w.heap.size]? = some (.cells #[.int .i64 nd] 3 (0, 0)) := hk3.heap (fun h => hneb h) (hX.heap (fun h => h) hiV)
  have hown' : ∀ k, (Value.slice a (nthC l j).ns.length c).ownBlock = some k → k ≠ w.heap.size ∧ k ≠ r := fun k hk => hrl j k hj (by rw [hus]; exact hk)
  refine ⟨hd2, ?_⟩
  have hdel := Delete_any B c a (nthC l j).ns 173 #[.pointer (some ⟨w.heap.size, 0, none⟩)] (fun x => decide (x = nd)) W3 hown (by omega) ent_rm1
    (fun x w' _ hk => Rm1_any x nd w.heap.size w' (cells1 (hk.heap (fun h => (hown' _ h).1 rfl) hi3)))
  refine hdel.mono ?_
  rintro e w6 ⟨rfl, hown6, hk6⟩
  rw [keep_ne] at *
  have hr6 := hs3.kept hk6 (fun h => (hown' r h).2 rfl)
  obtain ⟨d6, g6⟩ := hr6.cell (m := j * 5 + 2) (by omega)
  have hs7 := hr6.setNs hj1 (.slice a ((nthC l j).ns.filter (fun x => decide (x ≠ nd))).length c) ((nthC l j).ns.filter (fun x => decide (x ≠ nd)))
  have hlen : ((nthC l j).ns.filter (fun x => decide (x ≠ nd))).length ≤ (nthC l j).ns.length := List.length_filter_le _ _
  have ho6 : OwnC B w6 ((l.set j { nthC l j with fr := b }).set j { nthC (l.set j { nthC l j with fr := b }) j with ns := (nthC l j).ns.filter (fun x => decide (x ≠ nd)) }) (upd (upd us j (us j)) j (.slice a ((nthC l j).ns.filter (fun x => decide (x ≠ nd))).length c)) := by
    refine ho3.upd hk6 hj1 _ _ (fun i hi hij k hk h => ?_) hown6 ?_ (fun i hi hij k hk h => ?_)
    · exact ho3.2 i j k hi hj1 hij hk (by rw [hu1]; exact h)
    · rw [nthC_sets hj]; exact ⟨hb0.1, hb0.2.1, by show ((nthC l j).ns.filter _).length ≤ 1000; omega⟩
    · refine ho3.2 i j k hi hj1 hij h ?_
      rw [hu1]
      rcases a with _ | ⟨_, _, _⟩ <;> exact hk
  have hkr : Kept (fun k => k = r) w6 (w6.setCell ⟨r, j * 5 + 2, none⟩ (.slice a ((nthC l j).ns.filter (fun x => decide (x ≠ nd))).length c)) := (Kept.refl (fun k => k = r) w6).setCell (p := ⟨r, j * 5 + 2, none⟩) (.inl rfl) _
  have ho7 := ho6.kept hkr (fun i hi k h1 h2 => row_ne hr6 (ho6.1 i hi).1 (h2 ▸ h1))
  rw [nthC_sets hj, set_set] at hs7 ho7
  refine ⟨rfl, ⟨_, d6⟩, g6, ?_⟩
  rw [hF]
  have hkw : Kept (fun k => B ≤ k) w W3 := ((hkV.trans hX (fun _ _ h => h)).mono (fun _ _ h => h.elim)).trans hk3 (fun i hi h => by have h : i = r := h; rw [h]; exact hB)
  exact ⟨rfl, ⟨_, hs7, ho7⟩, kept_le (hkw.trans hk6 (fun i hi h => (World.ownsRow.lt (hoV.1 j hj).1 i (by rw [hus]; exact h)).1)) hB _⟩
set_option maxRecDepth 100000 in
set_option maxHeartbeats 2000000 in
/-- Behind the store of Fresh: the nodes without one. -/
theorem do_remove_node (B r cap : Nat) (l : List Cf) (us : Nat → Value) (j : Nat) (nd : Int) (w : World) (hr : RowC w r cap l us) (ho : OwnC B w l us) (hB : B ≤ r) (hBw : B ≤ w.heap.size) (hj : j < l.length) (hjn : (nthC l j).jn ≠ nd) (h1 : 1 ≤ (nthC l j).ns.length) (h5 : (nthC l j).ns.length ≤ 5) :
    Calls Try.prog 140 #[.pointer (some ⟨r, j * 5, none⟩), .int .i64 nd] w (DoEnd B r cap (l.set j (turnC (nthC l j) 1 nd)) w) := by
  have hr1 := hr.kept ((Kept.refl NoB w).alloc (.cells #[.int .i64 nd] 3)) (fun h => h)
  have hw1 : Kept NoB w (w.alloc (.cells #[.int .i64 nd] 3)) := (Kept.refl NoB w).alloc _
  have ho1 := ho.kept hw1 (fun _ _ _ _ h => h)
  have hrl := hr.lt
  obtain ⟨a, c, hus⟩ := ho.slice hj
  obtain ⟨c0, f0⟩ := hr1.cell (m := j * 5) (by omega)
  obtain ⟨c1, f1⟩ := hr1.cell (m := j * 5 + 1) (by omega)
  obtain ⟨c2, f2⟩ := hr1.cell (m := j * 5 + 2) (by omega)
  obtain ⟨c3, f3⟩ := hr1.cell (m := j * 5 + 3) (by omega)
  obtain ⟨c4, f4⟩ := hr1.cell (m := j * 5 + 4) (by omega)
  rw [cellC0] at c0
  rw [cellC1] at c1
  rw [cellC2, hus] at c2
  rw [cellC3] at c3
  rw [cellC4] at c4
  have HRL : Hid (∀ i k, i < l.length → (us i).ownBlock = some k → k ≠ w.heap.size ∧ k ≠ r) := Lib.hid (fun i k hi hk => ⟨by have := (World.ownsRow.lt (ho.1 i hi).1 k hk).2; omega, fun e => row_ne hr (ho.1 i hi).1 (e ▸ hk)⟩)
  obtain ⟨q, hq⟩ : ∃ q, q = decide ((nthC l j).last = nd) := ⟨_, rfl⟩
  have hbd := (ho.1 j hj).2
  have HLA : Hid (∀ w', Kept NoB (w.alloc (.cells #[.int .i64 nd] 3)) w' → _) := Lib.hid (fun w' hk => hq ▸ isLast_any _ (nthC l j) nd _ w' ((cf_eta _ _ (nthC l j) (us j) (ho1.1 j hj).1.nslB hbd).kept hk (fun _ _ _ h => h)) h1)
  rw [hus] at HLA
  obtain ⟨b, hb⟩ : ∃ b, b = ((nthC l j).fr && !q) := ⟨_, rfl⟩
  have HF : Hid (l.set j (turnC (nthC l j) 1 nd) = l.set j { nthC l j with ns := (nthC l j).ns.filter (fun x => decide (x ≠ nd)), fr := b }) := Lib.hid (by
    rw [last_two (b := b) hjn (by rw [hb, hq]; simp)])
  have hjb : ((((nthC l j).jn) : Int) == (nd : Int)) = false := by simpa using hjn
  have HR1 := Lib.hid hr1
  have HO1 := Lib.hid ho1
  have HK1 := Lib.hid hw1
  have HUS := Lib.hid hus
  have HBD := Lib.hid hbd
  have hi0 := heap_alloc_new w (.cells #[.int .i64 nd] 3)
  have HI := Lib.hid hi0
  have i0 := cells1 hi0
  have hlw : w.heap.size < (w.alloc (.cells #[.int .i64 nd] 3)).heap.size := heap_lt hi0
  have HBB := Lib.hid hb
  clear hr ho hjn hr1 ho1 hw1 hus hq hbd hi0 hb hlw
  obtain ⟨y, hy⟩ : ∃ y, y = nthC l j := ⟨_, rfl⟩
  rw [← hy] at c0 c1 c2 c3 c4 h1 h5 HLA hjb HBB HBD
  have HY := Lib.hid hy
  obtain ⟨ych, yep, ns, fr, yjn⟩ := y
  simp only at c0 c1 c2 c3 c4 h1 h5 HLA hjb HBB HBD
  clear hy
  go_enter Try.func140, Try.ntmps140
  go_wp2_with fail
  generalize w.alloc (.cells #[.int .i64 nd] 3) = W at *
  go_quiet (fail)
  go_wp2_with fail
  obtain ⟨V, hV⟩ : ∃ V, V = W.drewN nq := ⟨_, rfl⟩
  have hWV : Kept NoB W V := by rw [hV]; exact (Kept.refl _ _).drewN _
  have HWV := Lib.hid hWV
  rw [← hV]
  have c0 := hWV.cell (p := ⟨r, j * 5, none⟩) (fun h => h) c0
  have c1 := hWV.cell (p := ⟨r, j * 5 + 1, none⟩) (fun h => h) c1
  have c2 := hWV.cell (p := ⟨r, j * 5 + 2, none⟩) (fun h => h) c2
  have c3 := hWV.cell (p := ⟨r, j * 5 + 3, none⟩) (fun h => h) c3
  have c4 := hWV.cell (p := ⟨r, j * 5 + 4, none⟩) (fun h => h) c4
  have i0 := hWV.cell (p := ⟨w.heap.size, 0, none⟩) (fun h => h) i0
  have hrV := HR1.out.kept hWV (fun h => h)
  have f3 := (hrV.cell (m := j * 5 + 3) (by omega)).2
  have HRV := Lib.hid hrV
  have HOV := Lib.hid (HO1.out.kept hWV (fun _ _ _ _ h => h))
  have HKV := Lib.hid (HK1.out.trans hWV (fun _ _ h => h))
  have HIV := Lib.hid (hWV.heap (fun h => h) HI.out)
  clear hV hWV hrV
  have HKc := Lib.hid (Kept.refl NoB V)
  have ZZ : ∀ q', q = q' → True := fun _ _ => trivial
  clear ZZ
  cases fr <;> cases q
  all_goals
    have hbv : b = _ := HBB.out
    simp only [Bool.not_true, Bool.not_false, Bool.and_true, Bool.and_false, Bool.false_and, Bool.true_and] at hbv
    subst hbv
    first | (go_region_law ((go_simp; go_at_call 171; refine (HLA.out _ (by first | exact HWV.out | exact HWV.out.drew)).mono ?_; rintro e w5 ⟨rfl, hk5⟩; have hk5' : Kept NoB V w5 := (by first | exact hk5 | exact (Kept.refl NoB V).drew.trans hk5 (fun _ _ h => h)); have r5 := HRV.out.kept hk5' (fun h => h); obtain ⟨d3, g3⟩ := r5.cell (m := j * 5 + 3) (by omega); have d2 := hk5'.cell (p := ⟨r, j * 5 + 2, none⟩) (fun h => h) c2; replace HKc := Lib.hid hk5'; clear hk5 hk5' r5))) | go_region
    all_goals
      go_wp2_with fail
      first
        | (generalize hW3 : World.drew (World.setCell _ _ _) = W3
           obtain ⟨X, hX, hWX⟩ : ∃ X, Kept NoB V X ∧ W3 = X.setCell ⟨r, j * 5 + 3, none⟩ (.bool _) := ⟨_, by first | exact HKc.out.drew | exact (Kept.refl NoB V).drew, hW3.symm.trans rfl⟩)
        | (generalize hW3 : World.setCell _ _ _ = W3
           obtain ⟨X, hX, hWX⟩ : ∃ X, Kept NoB V X ∧ W3 = X.setCell ⟨r, j * 5 + 3, none⟩ (.bool _) := ⟨_, by first | exact HKc.out | exact (Kept.refl NoB V), hW3.symm⟩)
      have hfin := rem_fin B r cap l us j nd a c w V X W3 _ _ HRV.out HOV.out HKV.out HUS.out HIV.out HRL.out hX hWX hB hBw hj HY.out.symm h5 HF.out
      simp only at hfin
      have HFIN := Lib.hid hfin
      clear hfin hW3
      have d2 := HFIN.out.1
      have HC2 := Lib.hid HFIN.out.2
      clear hX hWX c0 c1 c2 c3 c4 i0
      refine HC2.out.mono ?_
      rintro e w6 ⟨rfl, ⟨u6, d6⟩, g6, hend⟩
      generalize (List.filter (fun x => decide (x ≠ nd)) ns).length = m6 at hend ⊢
      have HEND := Lib.hid hend
      clear hend d2
      go_wp2
      go_end0
      exact HEND.out
end Go.Proofs.Ytidhaofojcdbaaa
namespace Go.Proofs.Ytidhaofojcdbaaa
open Go.RowKit
set_option linter.unusedVariables false

theorem do_1 (B r cap : Nat) (l : List Cf) (us : Nat → Value) (j : Nat) (nd : Int) (w : World) (hr : RowC w r cap l us) (ho : OwnC B w l us) (hB : B ≤ r) (hBw : B ≤ w.heap.size) (hj : j < l.length) (h1 : 1 ≤ (nthC l j).ns.length) (h5 : (nthC l j).ns.length ≤ 5) :
    Calls Try.prog 140 #[.pointer (some ⟨r, j * 5, none⟩), .int .i64 nd] w (DoEnd B r cap (l.set j (turnC (nthC l j) 1 nd)) w) := by
  by_cases hjn : (nthC l j).jn = nd
  · exact do_remove_join B r cap l us j nd w hr ho hB hj hjn
  · exact do_remove_node B r cap l us j nd w hr ho hB hBw hj hjn h1 h5
theorem do_2 (B r cap : Nat) (l : List Cf) (us : Nat → Value) (j : Nat) (nd : Int) (w : World) (hr : RowC w r cap l us) (ho : OwnC B w l us) (hB : B ≤ r) (hBw : B ≤ w.heap.size) (hj : j < l.length) (h1 : 1 ≤ (nthC l j).ns.length) (h5 : (nthC l j).ns.length ≤ 5) :
    Calls Try.prog 142 #[.pointer (some ⟨r, j * 5, none⟩), .int .i64 nd] w (DoEnd B r cap (l.set j (turnC (nthC l j) 2 nd)) w) := do_append B r cap l us j nd w hr ho hB hj
theorem do_3 (B r cap : Nat) (l : List Cf) (us : Nat → Value) (j : Nat) (nd : Int) (w : World) (hr : RowC w r cap l us) (ho : OwnC B w l us) (hB : B ≤ r) (hBw : B ≤ w.heap.size) (hj : j < l.length) (h1 : 1 ≤ (nthC l j).ns.length) (h5 : (nthC l j).ns.length ≤ 5) :
    Calls Try.prog 144 #[.pointer (some ⟨r, j * 5, none⟩), .int .i64 nd] w (DoEnd B r cap (l.set j (turnC (nthC l j) 3 nd)) w) := do_promote B r cap l us j nd w hr ho hB hBw hj h5
theorem do_4 (B r cap : Nat) (l : List Cf) (us : Nat → Value) (j : Nat) (nd : Int) (w : World) (hr : RowC w r cap l us) (ho : OwnC B w l us) (hB : B ≤ r) (hBw : B ≤ w.heap.size) (hj : j < l.length) (h1 : 1 ≤ (nthC l j).ns.length) (h5 : (nthC l j).ns.length ≤ 5) :
    Calls Try.prog 146 #[.pointer (some ⟨r, j * 5, none⟩), .int .i64 nd] w (DoEnd B r cap (l.set j (turnC (nthC l j) 4 nd)) w) := do_settle B r cap l us j nd w hr ho hB hj
theorem made_turn (c : Cf) (k nd : Int) : madeC c k nd = { turnC c k nd with ep := c.ep + 1 } := by
  unfold turnC madeC
  split
  · split <;> rfl
  · split
    · rfl
    · split <;> rfl
theorem turn_ep (c : Cf) (k nd : Int) : (turnC c k nd).ep = c.ep := rfl
/-- What Do tells. -/
def DoE (l' : List Cf) (ok : Bool) (w : World) (e : Ending) (w' : World) : Prop := ∃ v, e = .returned (.tuple #[v, .bool ok]) ∧ CfsAt w' (fun k => w.heap.size ≤ k) v l' ∧ Kept NoB w w'
theorem copy_cfs {l : List Cf} {w0 w w' : World} {e : Ending} (h : CopyEnd l w e w') (h0 : w0.heap.size ≤ w.heap.size) : ∃ a cap, e = .returned (.slice a l.length cap) ∧ CfsAt w' (fun k => w0.heap.size ≤ k) (.slice a l.length cap) l ∧ Kept NoB w w' := by
  obtain ⟨hk, ⟨rfl, a, c, rfl, hc, hn⟩ | ⟨r, cap, us, rfl, hr, hrow, hown⟩⟩ := h
  · exact ⟨a, c, rfl, ⟨a, c, rfl, Nat.zero_le _, hc, hn, fun h => absurd h (by simp)⟩, hk⟩
  · exact ⟨_, cap, rfl, (hrow.cfs hown.nodes hr).mono (fun k _ hk => Nat.le_trans h0 hk), hk⟩
theorem copy_ne {l : List Cf} {w w' : World} {e : Ending} (h : CopyEnd l w e w') (hl : 0 < l.length) : ∃ r cap us, e = .returned (.slice (some ⟨r, 0, none⟩) l.length cap) ∧ w.heap.size ≤ r ∧ RowC w' r cap l us ∧ OwnC w.heap.size w' l us ∧ Kept NoB w w' := by
  obtain ⟨hk, ⟨rfl, _⟩ | ⟨r, cap, us, rfl, hr, hrow, hown⟩⟩ := h
  · exact absurd hl (by simp)
  · exact ⟨r, cap, us, rfl, hr, hrow, hown, hk⟩
/-- The last two steps: the epoch rises; what lies there then. -/
theorem do_end (B r cap : Nat) (l : List Cf) (us : Nat → Value) (j : Nat) (k nd : Int) (w W : World) (hj : j < l.length) (hr : RowC W r cap (l.set j (turnC (nthC l j) k nd)) us) (ho : OwnC B W (l.set j (turnC (nthC l j) k nd)) us) (hB : B ≤ r) (hwB : w.heap.size ≤ B) (hk : Kept (fun k => B ≤ k) w W) (he0 : 0 ≤ (nthC l j).ep) (he : (nthC l j).ep ≠ topE) (he2 : (nthC l j).ep ≤ topE) :
    W.cell? ⟨r, j * 5 + 1, none⟩ = some (.int .u64 (nthC l j).ep) ∧ W.frozen? ⟨r, j * 5 + 1, none⟩ = false ∧
    CfsAt (W.setCell ⟨r, j * 5 + 1, none⟩ (.int .u64 ((nthC l j).ep + 1))) (fun k => w.heap.size ≤ k) (.slice (some ⟨r, 0, none⟩) l.length cap) (l.set j (madeC (nthC l j) k nd)) ∧ Kept NoB w (W.setCell ⟨r, j * 5 + 1, none⟩ (.int .u64 ((nthC l j).ep + 1))) := by
  have hj1 : j < (l.set j (turnC (nthC l j) k nd)).length := by rw [List.length_set]; exact hj
  obtain ⟨c1, f1⟩ := hr.cell (m := j * 5 + 1) (by omega)
  rw [cellC1, nthC_sets hj, turn_ep] at c1
  refine ⟨c1, f1, ?_, ?_⟩
  · have h1 := hr.setEp hj1 ((nthC l j).ep + 1)
    have h2 := ho.store hr (o := j * 5 + 1) hj1 { nthC (l.set j (turnC (nthC l j) k nd)) j with ep := (nthC l j).ep + 1 } (.int .u64 ((nthC l j).ep + 1)) rfl ⟨by show 0 ≤ (nthC l j).ep + 1; omega, by show (nthC l j).ep + 1 ≤ topE; omega⟩
    have h3 := h1.cfs (h2.nodes) hB
    rw [nthC_sets hj, set_set, ← made_turn, List.length_set] at h3
    exact h3.mono (fun k _ hk => Nat.le_trans hwB hk)
  · have hb := (hk.setCell (p := ⟨r, j * 5 + 1, none⟩) (.inl hB) (.int .u64 ((nthC l j).ep + 1)))
    exact ⟨hb.os, hb.tape, hb.output, hb.size, fun i hi _ => hb.block i hi (fun hB' => by have hB' : B ≤ i := hB'; omega)⟩
set_option maxRecDepth 100000 in
set_option maxHeartbeats 4000000 in
theorem Do_1 (v : Value) (l : List Cf) (j : Nat) (ep nd : Int) (F : Nat → Prop) (w : World) (h : CfsAt w F v l) (hA : AllC l) (hx : Chk 1 j ep nd 0) (hep : 0 ≤ ep) (hj : j < l.length) (hcan : canC l 0 1 j ep nd = 0) :
    Calls Try.prog 132 #[v, .agg #[.int .i64 1, .int .i64 j, .int .u64 ep, .int .i64 nd]] w (DoE (l.set j (madeC (nthC l j) 1 nd)) true w) := by
  obtain ⟨a, cap, rfl, _⟩ := id h
  have hl4 : l.length ≤ 4 := hA.2.1
  have hl : l.length ≤ 1000 := by omega
  have ejn : ((j : Int)).toNat = j := by omega
  have hne : (nthC l j).ep ≠ topE := by
    rcases (can_ok hcan).2.2 with h0 | h0
    · exact absurd h0 (by decide)
    · have := h0.2.2.2.2; rwa [ejn] at this
  obtain ⟨hb0, hbt⟩ : 0 ≤ (nthC l j).ep ∧ (nthC l j).ep ≤ topE := by
    obtain ⟨_, _, _, _, _, _, _, _, _, _, _, _, hb0, hbt, _⟩ := h.at_ hj
    exact ⟨hb0, hbt⟩
  have hn1 : 1 ≤ (nthC l j).ns.length := (hA.2.2 j hj).1.2.2.2.1
  have hn5 : (nthC l j).ns.length ≤ 5 := (hA.2.2 j hj).1.2.2.2.2.1
  have HB := Lib.hid (heap_alloc_new w (.cells #[.int .i64 1, .int .i64 (j : Int), .int .u64 ep, .int .i64 nd] 39))
  have HK := Lib.hid ((Kept.refl NoB w).alloc (.cells #[.int .i64 1, .int .i64 (j : Int), .int .u64 ep, .int .i64 nd] 39))
  have HZ : Hid ((w.alloc (.cells #[.int .i64 1, .int .i64 (j : Int), .int .u64 ep, .int .i64 nd] 39)).heap.size = w.heap.size + 1) := Lib.hid (by simp)
  have HCP : Hid (Calls Try.prog 76 #[.slice a l.length cap] (w.alloc (.cells #[.int .i64 1, .int .i64 (j : Int), .int .u64 ep, .int .i64 nd] 39)) fun e w' => ∃ r rc us, e = .returned (.slice (some ⟨r, 0, none⟩) l.length rc) ∧ (w.alloc (.cells #[.int .i64 1, .int .i64 (j : Int), .int .u64 ep, .int .i64 nd] 39)).heap.size ≤ r ∧ RowC w' r rc l us ∧ OwnC (w.alloc (.cells #[.int .i64 1, .int .i64 (j : Int), .int .u64 ep, .int .i64 nd] 39)).heap.size w' l us ∧ Kept NoB (w.alloc (.cells #[.int .i64 1, .int .i64 (j : Int), .int .u64 ep, .int .i64 nd] 39)) w') :=
    Lib.hid ((Copy_any _ l _ F (h.kept HK.out (fun _ _ _ h => h)) hl).mono fun e w' hc => copy_ne hc (by omega))
  have HCA : Hid (∀ w', Kept NoB w w' → Calls Try.prog 84 #[.slice a l.length cap, .agg #[.int .i64 1, .int .i64 (j : Int), .int .u64 ep, .int .i64 nd]] w' (IntE 0 w')) := Lib.hid (fun w' hk => by
    have := Can_any _ l 0 1 j ep nd F w' (h.kept hk (fun _ _ _ h => h)) hx hep
    rwa [hcan] at this)
  have HRU := Lib.hid (fun w => rule1 w)
  have hfl := fun (f g : FuncId) (w : World) => rule_fld1 f g w
  have hk1 : (j : Int) < (l.length : Int) := by omega
  have hk0 : (0 : Int) ≤ (j : Int) := by omega
  have HNE := Lib.hid hne
  have HB0 := Lib.hid hb0
  have HBT := Lib.hid hbt
  clear h hx hep hcan hne hb0 hbt ejn
  go_enter Try.func132, Try.ntmps132
  go_wp2_with fail
  refine HCP.out.mono ?_
  rintro e w1 ⟨r, rc, us, rfl, hr, hrow, hown, hk⟩
  have HR := Lib.hid (Nat.le_trans (Nat.le_of_eq HZ.out.symm) hr)
  have HROW := Lib.hid hrow
  have HOWN := Lib.hid hown
  have HK1 := Lib.hid (HK.out.trans hk (fun _ _ h => h))
  have HB1 := Lib.hid (hk.heap (fun h => h) HB.out)
  obtain ⟨c0, c1, c2, c3⟩ := cells4c HB1.out
  have hrc : l.length ≤ rc := by obtain ⟨_, _, _, h3, _⟩ := hrow; exact h3
  clear hk hr hrow hown
  go_wp2_with fail
  refine (HCA.out _ HK1.out).mono ?_
  rintro e w2 ⟨rfl, hk⟩
  have HK2 := Lib.hid (HK1.out.trans hk (fun _ _ h => h))
  have HB2 := Lib.hid (hk.heap (fun h => h) HB1.out)
  have HROW2 := Lib.hid (HROW.out.kept hk (fun h => h))
  have HOWN2 := Lib.hid (HOWN.out.kept hk (fun _ _ _ _ h => h))
  clear hk c0 c1 c2 c3
  obtain ⟨c0, c1, c2, c3⟩ := cells4c HB2.out
  have HBZ : Hid (w.heap.size + 1 ≤ w2.heap.size) := Lib.hid (heap_lt HB2.out)
  go_wp2_with fail
  have HKc := Lib.hid (Kept.refl (fun k => w.heap.size + 1 ≤ k) w2)
  have HPR : Hid (∀ W, Kept NoB w2 W → Calls Try.prog 140 #[.pointer (some ⟨r, j * 5, none⟩), .int .i64 nd] W (DoEnd (w.heap.size + 1) r rc (l.set j (turnC (nthC l j) 1 nd)) W)) := Lib.hid (fun W hk =>
    do_1 (w.heap.size + 1) r rc l us j nd W (HROW2.out.kept hk (fun h => h)) (by have := HOWN2.out.kept hk (fun _ _ _ _ h => h); rw [HZ.out] at this; exact this) HR.out (Nat.le_trans HBZ.out hk.size) hj hn1 hn5)
  have HST : Hid (∃ us', RowC w2 r rc (l.set j (turnC (nthC l j) 1 nd)) us' ∧ OwnC (w.heap.size + 1) w2 (l.set j (turnC (nthC l j) 1 nd)) us' ∨ True) := Lib.hid ⟨us, .inr trivial⟩
  clear HST
  go_region_held3 (fun w' => w'.cell? ⟨w.heap.size, 0, none⟩ = some (.int .i64 1) ∧ w'.cell? ⟨w.heap.size, 3, none⟩ = some (.int .i64 nd))
    (first
      | exact ⟨cell_drew c0, cell_drew c3⟩
      | exact ⟨HKc.out.cell (p := ⟨w.heap.size, 0, none⟩) (by show ¬ w.heap.size + 1 ≤ w.heap.size; omega) c0, HKc.out.cell (p := ⟨w.heap.size, 3, none⟩) (by show ¬ w.heap.size + 1 ≤ w.heap.size; omega) c3⟩
      | go_keep)
    (first
      | (go_at_call 117; refine (HRU.out _).mono ?_; rintro e w4 ⟨rfl, hk4⟩; have HKN := Lib.hid ((Kept.refl NoB w2).drew.trans hk4 (fun _ _ h => h)); replace HKc := Lib.hid (HKc.out.drew.trans hk4 (fun _ _ h => h.elim)); clear hk4)
      | (go_at_call 140; refine (HPR.out _ HKN.out).mono ?_; rintro e w5 ⟨rfl, hex, hk5⟩; have HEX := Lib.hid hex; replace HKc := Lib.hid (HKc.out.trans hk5 (fun _ _ h => h)); clear hex hk5))
  all_goals
    obtain ⟨us5, hr5, ho5⟩ := HEX.out
    have hend := do_end (w.heap.size + 1) r rc l us5 j 1 nd w _ hj hr5 ho5 HR.out (by omega) ((HK2.out.mono (fun _ _ h => h.elim)).trans HKc.out (fun _ _ h => h)) HB0.out HNE.out HBT.out
    obtain ⟨q1, g1, hcfs, hkf⟩ := hend
    have HCF := Lib.hid hcfs
    have HKF := Lib.hid hkf
    have he0 := HB0.out
    have he1 : (nthC l j).ep ≤ 18446744073709551614 := by have := HNE.out; have := HBT.out; unfold topE at *; omega
    clear hcfs hkf hr5 ho5 c0 c1 c2 c3
    generalize (nthC l j).ep = E at q1 he0 he1 HCF HKF
    go_wp2
    go_ret2
    exact ⟨_, rfl, HCF.out, HKF.out⟩
set_option maxRecDepth 100000 in
set_option maxHeartbeats 4000000 in
theorem Do_2 (v : Value) (l : List Cf) (j : Nat) (ep nd : Int) (F : Nat → Prop) (w : World) (h : CfsAt w F v l) (hA : AllC l) (hx : Chk 2 j ep nd 0) (hep : 0 ≤ ep) (hj : j < l.length) (hcan : canC l 0 2 j ep nd = 0) :
    Calls Try.prog 132 #[v, .agg #[.int .i64 2, .int .i64 j, .int .u64 ep, .int .i64 nd]] w (DoE (l.set j (madeC (nthC l j) 2 nd)) true w) := by
  obtain ⟨a, cap, rfl, _⟩ := id h
  have hl4 : l.length ≤ 4 := hA.2.1
  have hl : l.length ≤ 1000 := by omega
  have ejn : ((j : Int)).toNat = j := by omega
  have hne : (nthC l j).ep ≠ topE := by
    rcases (can_ok hcan).2.2 with h0 | h0
    · exact absurd h0 (by decide)
    · have := h0.2.2.2.2; rwa [ejn] at this
  obtain ⟨hb0, hbt⟩ : 0 ≤ (nthC l j).ep ∧ (nthC l j).ep ≤ topE := by
    obtain ⟨_, _, _, _, _, _, _, _, _, _, _, _, hb0, hbt, _⟩ := h.at_ hj
    exact ⟨hb0, hbt⟩
  have hn1 : 1 ≤ (nthC l j).ns.length := (hA.2.2 j hj).1.2.2.2.1
  have hn5 : (nthC l j).ns.length ≤ 5 := (hA.2.2 j hj).1.2.2.2.2.1
  have HB := Lib.hid (heap_alloc_new w (.cells #[.int .i64 2, .int .i64 (j : Int), .int .u64 ep, .int .i64 nd] 39))
  have HK := Lib.hid ((Kept.refl NoB w).alloc (.cells #[.int .i64 2, .int .i64 (j : Int), .int .u64 ep, .int .i64 nd] 39))
  have HZ : Hid ((w.alloc (.cells #[.int .i64 2, .int .i64 (j : Int), .int .u64 ep, .int .i64 nd] 39)).heap.size = w.heap.size + 1) := Lib.hid (by simp)
  have HCP : Hid (Calls Try.prog 76 #[.slice a l.length cap] (w.alloc (.cells #[.int .i64 2, .int .i64 (j : Int), .int .u64 ep, .int .i64 nd] 39)) fun e w' => ∃ r rc us, e = .returned (.slice (some ⟨r, 0, none⟩) l.length rc) ∧ (w.alloc (.cells #[.int .i64 2, .int .i64 (j : Int), .int .u64 ep, .int .i64 nd] 39)).heap.size ≤ r ∧ RowC w' r rc l us ∧ OwnC (w.alloc (.cells #[.int .i64 2, .int .i64 (j : Int), .int .u64 ep, .int .i64 nd] 39)).heap.size w' l us ∧ Kept NoB (w.alloc (.cells #[.int .i64 2, .int .i64 (j : Int), .int .u64 ep, .int .i64 nd] 39)) w') :=
    Lib.hid ((Copy_any _ l _ F (h.kept HK.out (fun _ _ _ h => h)) hl).mono fun e w' hc => copy_ne hc (by omega))
  have HCA : Hid (∀ w', Kept NoB w w' → Calls Try.prog 84 #[.slice a l.length cap, .agg #[.int .i64 2, .int .i64 (j : Int), .int .u64 ep, .int .i64 nd]] w' (IntE 0 w')) := Lib.hid (fun w' hk => by
    have := Can_any _ l 0 2 j ep nd F w' (h.kept hk (fun _ _ _ h => h)) hx hep
    rwa [hcan] at this)
  have HRU := Lib.hid (fun w => rule2 w)
  have hfl := fun (f g : FuncId) (w : World) => rule_fld1 f g w
  have hk1 : (j : Int) < (l.length : Int) := by omega
  have hk0 : (0 : Int) ≤ (j : Int) := by omega
  have HNE := Lib.hid hne
  have HB0 := Lib.hid hb0
  have HBT := Lib.hid hbt
  clear h hx hep hcan hne hb0 hbt ejn
  go_enter Try.func132, Try.ntmps132
  go_wp2_with fail
  refine HCP.out.mono ?_
  rintro e w1 ⟨r, rc, us, rfl, hr, hrow, hown, hk⟩
  have HR := Lib.hid (Nat.le_trans (Nat.le_of_eq HZ.out.symm) hr)
  have HROW := Lib.hid hrow
  have HOWN := Lib.hid hown
  have HK1 := Lib.hid (HK.out.trans hk (fun _ _ h => h))
  have HB1 := Lib.hid (hk.heap (fun h => h) HB.out)
  obtain ⟨c0, c1, c2, c3⟩ := cells4c HB1.out
  have hrc : l.length ≤ rc := by obtain ⟨_, _, _, h3, _⟩ := hrow; exact h3
  clear hk hr hrow hown
  go_wp2_with fail
  refine (HCA.out _ HK1.out).mono ?_
  rintro e w2 ⟨rfl, hk⟩
  have HK2 := Lib.hid (HK1.out.trans hk (fun _ _ h => h))
  have HB2 := Lib.hid (hk.heap (fun h => h) HB1.out)
  have HROW2 := Lib.hid (HROW.out.kept hk (fun h => h))
  have HOWN2 := Lib.hid (HOWN.out.kept hk (fun _ _ _ _ h => h))
  clear hk c0 c1 c2 c3
  obtain ⟨c0, c1, c2, c3⟩ := cells4c HB2.out
  have HBZ : Hid (w.heap.size + 1 ≤ w2.heap.size) := Lib.hid (heap_lt HB2.out)
  go_wp2_with fail
  have HKc := Lib.hid (Kept.refl (fun k => w.heap.size + 1 ≤ k) w2)
  have HPR : Hid (∀ W, Kept NoB w2 W → Calls Try.prog 142 #[.pointer (some ⟨r, j * 5, none⟩), .int .i64 nd] W (DoEnd (w.heap.size + 1) r rc (l.set j (turnC (nthC l j) 2 nd)) W)) := Lib.hid (fun W hk =>
    do_2 (w.heap.size + 1) r rc l us j nd W (HROW2.out.kept hk (fun h => h)) (by have := HOWN2.out.kept hk (fun _ _ _ _ h => h); rw [HZ.out] at this; exact this) HR.out (Nat.le_trans HBZ.out hk.size) hj hn1 hn5)
  have HST : Hid (∃ us', RowC w2 r rc (l.set j (turnC (nthC l j) 2 nd)) us' ∧ OwnC (w.heap.size + 1) w2 (l.set j (turnC (nthC l j) 2 nd)) us' ∨ True) := Lib.hid ⟨us, .inr trivial⟩
  clear HST
  go_region_held3 (fun w' => w'.cell? ⟨w.heap.size, 0, none⟩ = some (.int .i64 2) ∧ w'.cell? ⟨w.heap.size, 3, none⟩ = some (.int .i64 nd))
    (first
      | exact ⟨cell_drew c0, cell_drew c3⟩
      | exact ⟨HKc.out.cell (p := ⟨w.heap.size, 0, none⟩) (by show ¬ w.heap.size + 1 ≤ w.heap.size; omega) c0, HKc.out.cell (p := ⟨w.heap.size, 3, none⟩) (by show ¬ w.heap.size + 1 ≤ w.heap.size; omega) c3⟩
      | go_keep)
    (first
      | (go_at_call 117; refine (HRU.out _).mono ?_; rintro e w4 ⟨rfl, hk4⟩; have HKN := Lib.hid ((Kept.refl NoB w2).drew.trans hk4 (fun _ _ h => h)); replace HKc := Lib.hid (HKc.out.drew.trans hk4 (fun _ _ h => h.elim)); clear hk4)
      | (go_at_call 142; refine (HPR.out _ HKN.out).mono ?_; rintro e w5 ⟨rfl, hex, hk5⟩; have HEX := Lib.hid hex; replace HKc := Lib.hid (HKc.out.trans hk5 (fun _ _ h => h)); clear hex hk5))
  all_goals
    obtain ⟨us5, hr5, ho5⟩ := HEX.out
    have hend := do_end (w.heap.size + 1) r rc l us5 j 2 nd w _ hj hr5 ho5 HR.out (by omega) ((HK2.out.mono (fun _ _ h => h.elim)).trans HKc.out (fun _ _ h => h)) HB0.out HNE.out HBT.out
    obtain ⟨q1, g1, hcfs, hkf⟩ := hend
    have HCF := Lib.hid hcfs
    have HKF := Lib.hid hkf
    have he0 := HB0.out
    have he1 : (nthC l j).ep ≤ 18446744073709551614 := by have := HNE.out; have := HBT.out; unfold topE at *; omega
    clear hcfs hkf hr5 ho5 c0 c1 c2 c3
    generalize (nthC l j).ep = E at q1 he0 he1 HCF HKF
    go_wp2
    go_ret2
    exact ⟨_, rfl, HCF.out, HKF.out⟩
set_option maxRecDepth 100000 in
set_option maxHeartbeats 4000000 in
theorem Do_3 (v : Value) (l : List Cf) (j : Nat) (ep nd : Int) (F : Nat → Prop) (w : World) (h : CfsAt w F v l) (hA : AllC l) (hx : Chk 3 j ep nd 0) (hep : 0 ≤ ep) (hj : j < l.length) (hcan : canC l 0 3 j ep nd = 0) :
    Calls Try.prog 132 #[v, .agg #[.int .i64 3, .int .i64 j, .int .u64 ep, .int .i64 nd]] w (DoE (l.set j (madeC (nthC l j) 3 nd)) true w) := by
  obtain ⟨a, cap, rfl, _⟩ := id h
  have hl4 : l.length ≤ 4 := hA.2.1
  have hl : l.length ≤ 1000 := by omega
  have ejn : ((j : Int)).toNat = j := by omega
  have hne : (nthC l j).ep ≠ topE := by
    rcases (can_ok hcan).2.2 with h0 | h0
    · exact absurd h0 (by decide)
    · have := h0.2.2.2.2; rwa [ejn] at this
  obtain ⟨hb0, hbt⟩ : 0 ≤ (nthC l j).ep ∧ (nthC l j).ep ≤ topE := by
    obtain ⟨_, _, _, _, _, _, _, _, _, _, _, _, hb0, hbt, _⟩ := h.at_ hj
    exact ⟨hb0, hbt⟩
  have hn1 : 1 ≤ (nthC l j).ns.length := (hA.2.2 j hj).1.2.2.2.1
  have hn5 : (nthC l j).ns.length ≤ 5 := (hA.2.2 j hj).1.2.2.2.2.1
  have HB := Lib.hid (heap_alloc_new w (.cells #[.int .i64 3, .int .i64 (j : Int), .int .u64 ep, .int .i64 nd] 39))
  have HK := Lib.hid ((Kept.refl NoB w).alloc (.cells #[.int .i64 3, .int .i64 (j : Int), .int .u64 ep, .int .i64 nd] 39))
  have HZ : Hid ((w.alloc (.cells #[.int .i64 3, .int .i64 (j : Int), .int .u64 ep, .int .i64 nd] 39)).heap.size = w.heap.size + 1) := Lib.hid (by simp)
  have HCP : Hid (Calls Try.prog 76 #[.slice a l.length cap] (w.alloc (.cells #[.int .i64 3, .int .i64 (j : Int), .int .u64 ep, .int .i64 nd] 39)) fun e w' => ∃ r rc us, e = .returned (.slice (some ⟨r, 0, none⟩) l.length rc) ∧ (w.alloc (.cells #[.int .i64 3, .int .i64 (j : Int), .int .u64 ep, .int .i64 nd] 39)).heap.size ≤ r ∧ RowC w' r rc l us ∧ OwnC (w.alloc (.cells #[.int .i64 3, .int .i64 (j : Int), .int .u64 ep, .int .i64 nd] 39)).heap.size w' l us ∧ Kept NoB (w.alloc (.cells #[.int .i64 3, .int .i64 (j : Int), .int .u64 ep, .int .i64 nd] 39)) w') :=
    Lib.hid ((Copy_any _ l _ F (h.kept HK.out (fun _ _ _ h => h)) hl).mono fun e w' hc => copy_ne hc (by omega))
  have HCA : Hid (∀ w', Kept NoB w w' → Calls Try.prog 84 #[.slice a l.length cap, .agg #[.int .i64 3, .int .i64 (j : Int), .int .u64 ep, .int .i64 nd]] w' (IntE 0 w')) := Lib.hid (fun w' hk => by
    have := Can_any _ l 0 3 j ep nd F w' (h.kept hk (fun _ _ _ h => h)) hx hep
    rwa [hcan] at this)
  have HRU := Lib.hid (fun w => rule3 w)
  have hfl := fun (f g : FuncId) (w : World) => rule_fld1 f g w
  have hk1 : (j : Int) < (l.length : Int) := by omega
  have hk0 : (0 : Int) ≤ (j : Int) := by omega
  have HNE := Lib.hid hne
  have HB0 := Lib.hid hb0
  have HBT := Lib.hid hbt
  clear h hx hep hcan hne hb0 hbt ejn
  go_enter Try.func132, Try.ntmps132
  go_wp2_with fail
  refine HCP.out.mono ?_
  rintro e w1 ⟨r, rc, us, rfl, hr, hrow, hown, hk⟩
  have HR := Lib.hid (Nat.le_trans (Nat.le_of_eq HZ.out.symm) hr)
  have HROW := Lib.hid hrow
  have HOWN := Lib.hid hown
  have HK1 := Lib.hid (HK.out.trans hk (fun _ _ h => h))
  have HB1 := Lib.hid (hk.heap (fun h => h) HB.out)
  obtain ⟨c0, c1, c2, c3⟩ := cells4c HB1.out
  have hrc : l.length ≤ rc := by obtain ⟨_, _, _, h3, _⟩ := hrow; exact h3
  clear hk hr hrow hown
  go_wp2_with fail
  refine (HCA.out _ HK1.out).mono ?_
  rintro e w2 ⟨rfl, hk⟩
  have HK2 := Lib.hid (HK1.out.trans hk (fun _ _ h => h))
  have HB2 := Lib.hid (hk.heap (fun h => h) HB1.out)
  have HROW2 := Lib.hid (HROW.out.kept hk (fun h => h))
  have HOWN2 := Lib.hid (HOWN.out.kept hk (fun _ _ _ _ h => h))
  clear hk c0 c1 c2 c3
  obtain ⟨c0, c1, c2, c3⟩ := cells4c HB2.out
  have HBZ : Hid (w.heap.size + 1 ≤ w2.heap.size) := Lib.hid (heap_lt HB2.out)
  go_wp2_with fail
  have HKc := Lib.hid (Kept.refl (fun k => w.heap.size + 1 ≤ k) w2)
  have HPR : Hid (∀ W, Kept NoB w2 W → Calls Try.prog 144 #[.pointer (some ⟨r, j * 5, none⟩), .int .i64 nd] W (DoEnd (w.heap.size + 1) r rc (l.set j (turnC (nthC l j) 3 nd)) W)) := Lib.hid (fun W hk =>
    do_3 (w.heap.size + 1) r rc l us j nd W (HROW2.out.kept hk (fun h => h)) (by have := HOWN2.out.kept hk (fun _ _ _ _ h => h); rw [HZ.out] at this; exact this) HR.out (Nat.le_trans HBZ.out hk.size) hj hn1 hn5)
  have HST : Hid (∃ us', RowC w2 r rc (l.set j (turnC (nthC l j) 3 nd)) us' ∧ OwnC (w.heap.size + 1) w2 (l.set j (turnC (nthC l j) 3 nd)) us' ∨ True) := Lib.hid ⟨us, .inr trivial⟩
  clear HST
  go_region_held3 (fun w' => w'.cell? ⟨w.heap.size, 0, none⟩ = some (.int .i64 3) ∧ w'.cell? ⟨w.heap.size, 3, none⟩ = some (.int .i64 nd))
    (first
      | exact ⟨cell_drew c0, cell_drew c3⟩
      | exact ⟨HKc.out.cell (p := ⟨w.heap.size, 0, none⟩) (by show ¬ w.heap.size + 1 ≤ w.heap.size; omega) c0, HKc.out.cell (p := ⟨w.heap.size, 3, none⟩) (by show ¬ w.heap.size + 1 ≤ w.heap.size; omega) c3⟩
      | go_keep)
    (first
      | (go_at_call 117; refine (HRU.out _).mono ?_; rintro e w4 ⟨rfl, hk4⟩; have HKN := Lib.hid ((Kept.refl NoB w2).drew.trans hk4 (fun _ _ h => h)); replace HKc := Lib.hid (HKc.out.drew.trans hk4 (fun _ _ h => h.elim)); clear hk4)
      | (go_at_call 144; refine (HPR.out _ HKN.out).mono ?_; rintro e w5 ⟨rfl, hex, hk5⟩; have HEX := Lib.hid hex; replace HKc := Lib.hid (HKc.out.trans hk5 (fun _ _ h => h)); clear hex hk5))
  all_goals
    obtain ⟨us5, hr5, ho5⟩ := HEX.out
    have hend := do_end (w.heap.size + 1) r rc l us5 j 3 nd w _ hj hr5 ho5 HR.out (by omega) ((HK2.out.mono (fun _ _ h => h.elim)).trans HKc.out (fun _ _ h => h)) HB0.out HNE.out HBT.out
    obtain ⟨q1, g1, hcfs, hkf⟩ := hend
    have HCF := Lib.hid hcfs
    have HKF := Lib.hid hkf
    have he0 := HB0.out
    have he1 : (nthC l j).ep ≤ 18446744073709551614 := by have := HNE.out; have := HBT.out; unfold topE at *; omega
    clear hcfs hkf hr5 ho5 c0 c1 c2 c3
    generalize (nthC l j).ep = E at q1 he0 he1 HCF HKF
    go_wp2
    go_ret2
    exact ⟨_, rfl, HCF.out, HKF.out⟩
set_option maxRecDepth 100000 in
set_option maxHeartbeats 4000000 in
theorem Do_4 (v : Value) (l : List Cf) (j : Nat) (ep nd : Int) (F : Nat → Prop) (w : World) (h : CfsAt w F v l) (hA : AllC l) (hx : Chk 4 j ep nd 0) (hep : 0 ≤ ep) (hj : j < l.length) (hcan : canC l 0 4 j ep nd = 0) :
    Calls Try.prog 132 #[v, .agg #[.int .i64 4, .int .i64 j, .int .u64 ep, .int .i64 nd]] w (DoE (l.set j (madeC (nthC l j) 4 nd)) true w) := by
  obtain ⟨a, cap, rfl, _⟩ := id h
  have hl4 : l.length ≤ 4 := hA.2.1
  have hl : l.length ≤ 1000 := by omega
  have ejn : ((j : Int)).toNat = j := by omega
  have hne : (nthC l j).ep ≠ topE := by
    rcases (can_ok hcan).2.2 with h0 | h0
    · exact absurd h0 (by decide)
    · have := h0.2.2.2.2; rwa [ejn] at this
  obtain ⟨hb0, hbt⟩ : 0 ≤ (nthC l j).ep ∧ (nthC l j).ep ≤ topE := by
    obtain ⟨_, _, _, _, _, _, _, _, _, _, _, _, hb0, hbt, _⟩ := h.at_ hj
    exact ⟨hb0, hbt⟩
  have hn1 : 1 ≤ (nthC l j).ns.length := (hA.2.2 j hj).1.2.2.2.1
  have hn5 : (nthC l j).ns.length ≤ 5 := (hA.2.2 j hj).1.2.2.2.2.1
  have HB := Lib.hid (heap_alloc_new w (.cells #[.int .i64 4, .int .i64 (j : Int), .int .u64 ep, .int .i64 nd] 39))
  have HK := Lib.hid ((Kept.refl NoB w).alloc (.cells #[.int .i64 4, .int .i64 (j : Int), .int .u64 ep, .int .i64 nd] 39))
  have HZ : Hid ((w.alloc (.cells #[.int .i64 4, .int .i64 (j : Int), .int .u64 ep, .int .i64 nd] 39)).heap.size = w.heap.size + 1) := Lib.hid (by simp)
  have HCP : Hid (Calls Try.prog 76 #[.slice a l.length cap] (w.alloc (.cells #[.int .i64 4, .int .i64 (j : Int), .int .u64 ep, .int .i64 nd] 39)) fun e w' => ∃ r rc us, e = .returned (.slice (some ⟨r, 0, none⟩) l.length rc) ∧ (w.alloc (.cells #[.int .i64 4, .int .i64 (j : Int), .int .u64 ep, .int .i64 nd] 39)).heap.size ≤ r ∧ RowC w' r rc l us ∧ OwnC (w.alloc (.cells #[.int .i64 4, .int .i64 (j : Int), .int .u64 ep, .int .i64 nd] 39)).heap.size w' l us ∧ Kept NoB (w.alloc (.cells #[.int .i64 4, .int .i64 (j : Int), .int .u64 ep, .int .i64 nd] 39)) w') :=
    Lib.hid ((Copy_any _ l _ F (h.kept HK.out (fun _ _ _ h => h)) hl).mono fun e w' hc => copy_ne hc (by omega))
  have HCA : Hid (∀ w', Kept NoB w w' → Calls Try.prog 84 #[.slice a l.length cap, .agg #[.int .i64 4, .int .i64 (j : Int), .int .u64 ep, .int .i64 nd]] w' (IntE 0 w')) := Lib.hid (fun w' hk => by
    have := Can_any _ l 0 4 j ep nd F w' (h.kept hk (fun _ _ _ h => h)) hx hep
    rwa [hcan] at this)
  have HRU := Lib.hid (fun w => rule4 w)
  have hfl := fun (f g : FuncId) (w : World) => rule_fld1 f g w
  have hk1 : (j : Int) < (l.length : Int) := by omega
  have hk0 : (0 : Int) ≤ (j : Int) := by omega
  have HNE := Lib.hid hne
  have HB0 := Lib.hid hb0
  have HBT := Lib.hid hbt
  clear h hx hep hcan hne hb0 hbt ejn
  go_enter Try.func132, Try.ntmps132
  go_wp2_with fail
  refine HCP.out.mono ?_
  rintro e w1 ⟨r, rc, us, rfl, hr, hrow, hown, hk⟩
  have HR := Lib.hid (Nat.le_trans (Nat.le_of_eq HZ.out.symm) hr)
  have HROW := Lib.hid hrow
  have HOWN := Lib.hid hown
  have HK1 := Lib.hid (HK.out.trans hk (fun _ _ h => h))
  have HB1 := Lib.hid (hk.heap (fun h => h) HB.out)
  obtain ⟨c0, c1, c2, c3⟩ := cells4c HB1.out
  have hrc : l.length ≤ rc := by obtain ⟨_, _, _, h3, _⟩ := hrow; exact h3
  clear hk hr hrow hown
  go_wp2_with fail
  refine (HCA.out _ HK1.out).mono ?_
  rintro e w2 ⟨rfl, hk⟩
  have HK2 := Lib.hid (HK1.out.trans hk (fun _ _ h => h))
  have HB2 := Lib.hid (hk.heap (fun h => h) HB1.out)
  have HROW2 := Lib.hid (HROW.out.kept hk (fun h => h))
  have HOWN2 := Lib.hid (HOWN.out.kept hk (fun _ _ _ _ h => h))
  clear hk c0 c1 c2 c3
  obtain ⟨c0, c1, c2, c3⟩ := cells4c HB2.out
  have HBZ : Hid (w.heap.size + 1 ≤ w2.heap.size) := Lib.hid (heap_lt HB2.out)
  go_wp2_with fail
  have HKc := Lib.hid (Kept.refl (fun k => w.heap.size + 1 ≤ k) w2)
  have HPR : Hid (∀ W, Kept NoB w2 W → Calls Try.prog 146 #[.pointer (some ⟨r, j * 5, none⟩), .int .i64 nd] W (DoEnd (w.heap.size + 1) r rc (l.set j (turnC (nthC l j) 4 nd)) W)) := Lib.hid (fun W hk =>
    do_4 (w.heap.size + 1) r rc l us j nd W (HROW2.out.kept hk (fun h => h)) (by have := HOWN2.out.kept hk (fun _ _ _ _ h => h); rw [HZ.out] at this; exact this) HR.out (Nat.le_trans HBZ.out hk.size) hj hn1 hn5)
  have HST : Hid (∃ us', RowC w2 r rc (l.set j (turnC (nthC l j) 4 nd)) us' ∧ OwnC (w.heap.size + 1) w2 (l.set j (turnC (nthC l j) 4 nd)) us' ∨ True) := Lib.hid ⟨us, .inr trivial⟩
  clear HST
  go_region_held3 (fun w' => w'.cell? ⟨w.heap.size, 0, none⟩ = some (.int .i64 4) ∧ w'.cell? ⟨w.heap.size, 3, none⟩ = some (.int .i64 nd))
    (first
      | exact ⟨cell_drew c0, cell_drew c3⟩
      | exact ⟨HKc.out.cell (p := ⟨w.heap.size, 0, none⟩) (by show ¬ w.heap.size + 1 ≤ w.heap.size; omega) c0, HKc.out.cell (p := ⟨w.heap.size, 3, none⟩) (by show ¬ w.heap.size + 1 ≤ w.heap.size; omega) c3⟩
      | go_keep)
    (first
      | (go_at_call 117; refine (HRU.out _).mono ?_; rintro e w4 ⟨rfl, hk4⟩; have HKN := Lib.hid ((Kept.refl NoB w2).drew.trans hk4 (fun _ _ h => h)); replace HKc := Lib.hid (HKc.out.drew.trans hk4 (fun _ _ h => h.elim)); clear hk4)
      | (go_at_call 146; refine (HPR.out _ HKN.out).mono ?_; rintro e w5 ⟨rfl, hex, hk5⟩; have HEX := Lib.hid hex; replace HKc := Lib.hid (HKc.out.trans hk5 (fun _ _ h => h)); clear hex hk5))
  all_goals
    obtain ⟨us5, hr5, ho5⟩ := HEX.out
    have hend := do_end (w.heap.size + 1) r rc l us5 j 4 nd w _ hj hr5 ho5 HR.out (by omega) ((HK2.out.mono (fun _ _ h => h.elim)).trans HKc.out (fun _ _ h => h)) HB0.out HNE.out HBT.out
    obtain ⟨q1, g1, hcfs, hkf⟩ := hend
    have HCF := Lib.hid hcfs
    have HKF := Lib.hid hkf
    have he0 := HB0.out
    have he1 : (nthC l j).ep ≤ 18446744073709551614 := by have := HNE.out; have := HBT.out; unfold topE at *; omega
    clear hcfs hkf hr5 ho5 c0 c1 c2 c3
    generalize (nthC l j).ep = E at q1 he0 he1 HCF HKF
    go_wp2
    go_ret2
    exact ⟨_, rfl, HCF.out, HKF.out⟩
theorem doC_no {l : List Cf} {e0 k ch ep nd : Int} (h : canC l e0 k ch ep nd ≠ 0) : doC l e0 k ch ep nd = l := if_pos h
theorem doC_zero {l : List Cf} {e0 ch ep nd : Int} : doC l e0 0 ch ep nd = l := by unfold doC; split <;> rfl
theorem doC_yes {l : List Cf} {e0 k ch ep nd : Int} (h : canC l e0 k ch ep nd = 0) (hk : k ≠ 0) : doC l e0 k ch ep nd = l.set ch.toNat (madeC (nthC l ch.toNat) k nd) := by unfold doC; rw [if_neg (fun x => x h), if_neg hk]
set_option maxRecDepth 100000 in
set_option maxHeartbeats 2000000 in
theorem Do_any (v : Value) (l : List Cf) (e0 k ch ep nd : Int) (F : Nat → Prop) (w : World) (h : CfsAt w F v l) (hlen : l.length ≤ 1000) (hx : Chk k ch ep nd e0) (hep : 0 ≤ ep) :
    Calls Try.prog 132 #[v, cmdv k ch ep nd] w (DoE (doC l e0 k ch ep nd) (decide (canC l e0 k ch ep nd = 0)) w) := by
  obtain ⟨a, cap, rfl, _⟩ := id h
  have HB := Lib.hid (heap_alloc_new w (.cells #[.int .i64 k, .int .i64 ch, .int .u64 ep, .int .i64 nd] 39))
  have HK := Lib.hid ((Kept.refl NoB w).alloc (.cells #[.int .i64 k, .int .i64 ch, .int .u64 ep, .int .i64 nd] 39))
  have HCP : Hid (Calls Try.prog 76 #[.slice a l.length cap] (w.alloc (.cells #[.int .i64 k, .int .i64 ch, .int .u64 ep, .int .i64 nd] 39)) fun e w' => ∃ a cap, e = .returned (.slice a l.length cap) ∧ CfsAt w' (fun k => w.heap.size ≤ k) (.slice a l.length cap) l ∧ Kept NoB (w.alloc (.cells #[.int .i64 k, .int .i64 ch, .int .u64 ep, .int .i64 nd] 39)) w') :=
    Lib.hid ((Copy_any _ l _ F (h.kept HK.out (fun _ _ _ h => h)) hlen).mono fun e w' hc => copy_cfs hc (by simp))
  have HCA : Hid (∀ w', Kept NoB w w' → _) := Lib.hid (fun w' hk => Can_any _ l e0 k ch ep nd F w' (h.kept hk (fun _ _ _ h => h)) hx hep)
  by_cases hc : canC l e0 k ch ep nd = 0
  rotate_left
  · rw [doC_no hc, decide_eq_false hc]
    obtain ⟨x, hxx⟩ : ∃ x, x = canC l e0 k ch ep nd := ⟨_, rfl⟩
    rw [← hxx] at hc HCA
    have hxb : ((x : Int) != 0) = true := by simpa using hc
    clear h hx hep hc hxx
    go_enter Try.func132, Try.ntmps132
    go_wp2_with fail
    refine HCP.out.mono ?_
    rintro e w1 ⟨a1, cap1, rfl, hcf, hk⟩
    have HCF := Lib.hid hcf
    have HK1 := Lib.hid (HK.out.trans hk (fun _ _ h => h))
    have HB1 := Lib.hid (hk.heap (fun h => h) HB.out)
    obtain ⟨c0, c1, c2, c3⟩ := cells4c HB1.out
    clear hk hcf
    go_wp2_with fail
    refine (HCA.out _ HK1.out).mono ?_
    rintro e w2 ⟨rfl, hk⟩
    have HK2 := Lib.hid (HK1.out.trans hk (fun _ _ h => h))
    have HCF2 := Lib.hid (HCF.out.kept hk (fun _ _ _ h => h))
    clear hk c0 c1 c2 c3
    go_wp2
    go_ret2
    exact ⟨_, rfl, HCF2.out, HK2.out⟩
  obtain ⟨hA, rfl, hcs⟩ := can_ok hc
  by_cases hk0 : k = 0
  · subst hk0
    rw [doC_zero, decide_eq_true hc]
    rw [hc] at HCA
    clear h hx hep hc hcs
    go_enter Try.func132, Try.ntmps132
    go_wp2_with fail
    refine HCP.out.mono ?_
    rintro e w1 ⟨a1, cap1, rfl, hcf, hk⟩
    have HCF := Lib.hid hcf
    have HK1 := Lib.hid (HK.out.trans hk (fun _ _ h => h))
    have HB1 := Lib.hid (hk.heap (fun h => h) HB.out)
    obtain ⟨c0, c1, c2, c3⟩ := cells4c HB1.out
    clear hk hcf
    go_wp2_with fail
    refine (HCA.out _ HK1.out).mono ?_
    rintro e w2 ⟨rfl, hk⟩
    have HK2 := Lib.hid (HK1.out.trans hk (fun _ _ h => h))
    have HCF2 := Lib.hid (HCF.out.kept hk (fun _ _ _ h => h))
    have d0 := (cells4c (hk.heap (fun h => h) HB1.out)).1
    clear hk c0 c1 c2 c3
    go_wp2
    go_ret2
    exact ⟨_, rfl, HCF2.out, HK2.out⟩
  rcases hcs with h0 | ⟨_, hlt, _, _, _⟩
  · exact absurd h0 hk0
  have hV := Chk.ok.1 hx
  unfold Vld at hV
  obtain ⟨hk1, hk4, hch0⟩ : 1 ≤ k ∧ k ≤ 4 ∧ 0 ≤ ch := by omega
  rw [doC_yes hc hk0, decide_eq_true hc]
  obtain ⟨j, rfl⟩ := Int.eq_ofNat_of_zero_le hch0
  have ejn : ((j : Int)).toNat = j := by omega
  rw [ejn]
  have hj : j < l.length := by omega
  rcases (by omega : k = 1 ∨ k = 2 ∨ k = 3 ∨ k = 4) with rfl | rfl | rfl | rfl
  · exact Do_1 _ l j ep nd F w h hA hx hep hj hc
  · exact Do_2 _ l j ep nd F w h hA hx hep hj hc
  · exact Do_3 _ l j ep nd F w h hA hx hep hj hc
  · exact Do_4 _ l j ep nd F w h hA hx hep hj hc
end Go.Proofs.Ytidhaofojcdbaaa
namespace Go.Proofs.Ytidhaofojcdbaaa
open Go.RowKit
set_option linter.unusedVariables false

/-- A row of which one configuration was stored whole. -/
theorem RowC.putC {w : World} {r cap : Nat} {l : List Cf} {us : Nat → Value} (h : RowC w r cap l us) {j : Nat} (hj : j < l.length) (c' : Cf) (v : Value) :
    RowC (((((w.setCell ⟨r, j * 5, none⟩ (.int .i64 c'.ch)).setCell ⟨r, j * 5 + 1, none⟩ (.int .u64 c'.ep)).setCell ⟨r, j * 5 + 2, none⟩ v).setCell ⟨r, j * 5 + 3, none⟩ (.bool c'.fr)).setCell ⟨r, j * 5 + 4, none⟩ (.int .i64 c'.jn)) r cap (l.set j c') (Go.Proofs.Ytidhaofojcdbaaa.upd us j v) := by
  obtain ⟨cs, h1, h2, h3, h4, h5⟩ := h
  refine ⟨_, bset1 (bset1 (bset1 (bset1 (bset1 h1 _ _) _ _) _ _) _ _) _ _, by simpa using h2, by rw [List.length_set]; exact h3, h4, fun m hm => ?_⟩
  rw [List.length_set] at hm
  have hsz : j * 5 + 4 < cs.size := by omega
  simp only [Array.getElem?_setIfInBounds, Array.size_setIfInBounds]
  by_cases e : m / 5 = j
  · have hm5 : m = j * 5 + m % 5 := by omega
    have hlt : m % 5 < 5 := Nat.mod_lt _ (by decide)
    have key : ∀ i, i < 5 → m % 5 = i → cellC (l.set j c') (Go.Proofs.Ytidhaofojcdbaaa.upd us j v) m = cellC (l.set j c') (Go.Proofs.Ytidhaofojcdbaaa.upd us j v) (j * 5 + i) := fun i _ hi => by rw [← hi, ← hm5]
    rcases (by omega : m % 5 = 0 ∨ m % 5 = 1 ∨ m % 5 = 2 ∨ m % 5 = 3 ∨ m % 5 = 4) with hi | hi | hi | hi | hi
    · rw [key _ (by decide) hi, cell_set hj _ _ _ (by decide), if_neg (by omega), if_neg (by omega), if_neg (by omega), if_neg (by omega), if_pos (by omega), if_pos (by omega)]; rfl
    · rw [key _ (by decide) hi, cell_set hj _ _ _ (by decide), if_neg (by omega), if_neg (by omega), if_neg (by omega), if_pos (by omega), if_pos (by omega)]; rfl
    · rw [key _ (by decide) hi, cell_set hj _ _ _ (by decide), if_neg (by omega), if_neg (by omega), if_pos (by omega), if_pos (by omega)]; rfl
    · rw [key _ (by decide) hi, cell_set hj _ _ _ (by decide), if_neg (by omega), if_pos (by omega), if_pos (by omega)]; rfl
    · rw [key _ (by decide) hi, cell_set hj _ _ _ (by decide), if_pos (by omega), if_pos (by omega)]; rfl
  · rw [if_neg (by omega), if_neg (by omega), if_neg (by omega), if_neg (by omega), if_neg (by omega), h5 m hm]
    congr 1
    unfold cellC
    rw [nthC_set hj, if_neg e, upd_far e]
def RDoE (F : Nat → Prop) (l' : List Cf) (ok : Bool) (w : World) (e : Ending) (w' : World) : Prop := ∃ v, e = .returned (.tuple #[v, .bool ok]) ∧ CfsAt w' (fun k => F k ∨ w.heap.size ≤ k) v l' ∧ Kept NoB w w'
set_option maxRecDepth 100000 in
set_option maxHeartbeats 4000000 in
theorem RDo_made (v : Value) (l : List Cf) (j : Nat) (k ep nd : Int) (F : Nat → Prop) (w : World) (h : CfsAt w F v l) (hA : AllC l) (hx : Chk k j ep nd 0) (hep : 0 ≤ ep) (hj : j < l.length) (hk0 : k ≠ 0) (hcan : canC l 0 k j ep nd = 0) :
    Calls Try.prog 39 #[v, .agg #[.int .i64 k, .int .i64 j, .int .u64 ep, .int .i64 nd]] w (RDoE F (l.set j (madeC (nthC l j) k nd)) true w) := by
  obtain ⟨i0, hi0, hz0, hz1, hz2⟩ := info_parts conf_zero
  obtain ⟨a, cap, rfl, _⟩ := id h
  have hl4 : l.length ≤ 4 := hA.2.1
  have hl : l.length ≤ 1000 := by omega
  have ejn : ((j : Int)).toNat = j := by omega
  have HCA : Hid (∀ w', Kept NoB w w' → Calls Try.prog 81 #[.slice a l.length cap, .agg #[.int .i64 k, .int .i64 j, .int .u64 ep, .int .i64 nd]] w' (IntE 0 w')) := Lib.hid (fun w' hk => by
    have := RCan_any _ l 0 k j ep nd F w' (h.kept hk (fun _ _ _ h => h)) hl hx hep
    rw [hcan] at this
    exact this)
  obtain ⟨_, _, hck⟩ := can_ok hcan
  have hne : (nthC l j).ep ≠ topE := by
    rcases hck with h0 | ⟨_, _, _, _, h5⟩
    · exact absurd h0 hk0
    · rw [ejn] at h5; exact h5
  obtain ⟨us, hus, hcell⟩ := cfs_us h
  obtain ⟨b, o, rfl, _, hbl, u, e0, e1, e2, e3, e4, hns, hbd⟩ := h.at_ hj
  have hone := (hA.2.2 j hj).1
  have hcv : CfV w F (.agg #[.int .i64 (nthC l j).ch, .int .u64 (nthC l j).ep, u, .bool (nthC l j).fr, .int .i64 (nthC l j).jn]) (nthC l j) := ⟨_, rfl, hns, hbd⟩
  have HMD : Hid (∀ w', Kept NoB w w' → Calls Try.prog 82 #[.agg #[.int .i64 (nthC l j).ch, .int .u64 (nthC l j).ep, u, .bool (nthC l j).fr, .int .i64 (nthC l j).jn], .agg #[.int .i64 k, .int .i64 j, .int .u64 ep, .int .i64 nd]] w' (MadeE (madeC (nthC l j) k nd) w')) :=
    Lib.hid (fun w' hk => made_any _ (nthC l j) k j ep nd F w' (hcv.kept hk (fun _ _ _ h => h)) hone.2.2.2.1 hone.2.2.2.2.1 hne)
  obtain ⟨ua, uc, rfl, _⟩ := id hns
  obtain ⟨R, hR⟩ : ∃ R, R = madeC (nthC l j) k nd := ⟨_, rfl⟩
  rw [← hR] at HMD ⊢
  obtain ⟨c, hc⟩ : ∃ c, c = nthC l j := ⟨_, rfl⟩
  rw [← hc] at e0 e1 e2 e3 e4 HMD
  have HUS := Lib.hid (fun w' (hk : Kept NoB w w') => (show NodesC w' (fun k => F k ∧ k < w.heap.size) l us from fun i hi => ⟨((hus i hi).1.mono (G := fun k => F k ∧ k < w.heap.size) (fun k hk h => ⟨h, hk⟩)).kept hk (fun _ _ _ h => h), (hus i hi).2⟩))
  have HCL := Lib.hid hcell
  have HON := Lib.hid (cellsC_one hus)
  have HLN : Hid ((cellsC l us).length = l.length * 5) := Lib.hid (by simp [cellsC])
  obtain ⟨cch, cep, ns, fr, jn⟩ := c
  simp only at e0 e1 e2 e3 e4 HMD
  have hk1 : (j : Int) < (l.length : Int) := by omega
  have hk00 : (0 : Int) ≤ (j : Int) := by omega
  have hkb : (k == 0) = false := by simpa using hk0
  have HB := Lib.hid (heap_alloc_new w (.cells #[.int .i64 k, .int .i64 (j : Int), .int .u64 ep, .int .i64 nd] 39))
  have HK := Lib.hid ((Kept.refl NoB w).alloc (.cells #[.int .i64 k, .int .i64 (j : Int), .int .u64 ep, .int .i64 nd] 39))
  have E := Lib.hid (And.intro e0 (And.intro e1 (And.intro e2 (And.intro e3 e4))))
  clear e0 e1 e2 e3 e4 hA hx h hcv hns hbd hus hcell hR hc hck hne hone hcan hep ejn
  go_enter Try.func39, Try.ntmps39
  go_wp2_with fail
  refine (HCA.out _ HK.out).mono ?_
  rintro e w1 ⟨rfl, hk⟩
  have HK1 := Lib.hid (HK.out.trans hk (fun _ _ h => h))
  have HB1 := Lib.hid (hk.heap (fun h => h) HB.out)
  obtain ⟨c0, c1, c2, c3⟩ := cells4c HB1.out
  clear hk
  have HCW : Hid (∀ m u, (cellsC l us)[m]? = some u → w1.cell? ((⟨b, o, none⟩ : Addr).add m) = some u) := Lib.hid (fun m u hu => HK1.out.cell (fun h => h) (HCL.out _ rfl m u hu))
  go_upto_region 6 with (at_builtin; refine wpList_append_own _ (by rfl) (.const (.slice none 0 0)) (.tmp 16) 71 (by rfl) w1.heap.size 84 i0 _ 5 56 Try.underlying71 hi0 hz0 hz1 hz2 rfl (by decide) (.slice none 0 0) 0 [] (by rfl) (World.ownsRow_nil _ _ _ _) ⟨b, o, none⟩ l.length cap (cellsC l us) (by rfl) HLN.out HCW.out HON.out (by unfold maxLen; omega) (by omega) (Nat.le_refl _) ?_; intro v' w2 hown1 hgrow _; have HO1 := Lib.hid hown1; have HG1 := Lib.hid hgrow; clear hown1 hgrow)
  have ho := HO1.out
  rw [Nat.zero_add, List.nil_append] at ho
  rcases ho.2 with ⟨_, h0⟩ | ⟨r, rc, cur, rfl, hrb, hr1, hr2, hr3, hr4, hr5⟩
  · exact absurd h0 (by omega)
  have HRW := Lib.hid (row_of_own (r := r) ho).1
  have HRB : Hid (w1.heap.size ≤ r) := Lib.hid hrb
  have HK2 : Hid (Kept NoB w w2) := Lib.hid (HK1.out.grown HG1.out (fun k hk => by cases hk))
  have HKG : Hid (Kept NoB w1 w2) := Lib.hid ((Kept.refl NoB w1).grown HG1.out (fun k hk => by cases hk))
  have HB2 := Lib.hid (HKG.out.heap (fun h => h) HB1.out)
  clear c0 c1 c2 c3 ho hrb hr1 hr2 hr3 hr4 hr5 HO1 HG1 HCW
  obtain ⟨c0, c1, c2, c3⟩ := cells4c HB2.out
  have hrc : l.length ≤ rc := by obtain ⟨_, _, _, h, _⟩ := HRW.out; exact h
  obtain ⟨e0, e1, e2, e3, e4⟩ := E.out
  have f0 := HK2.out.cell (p := ⟨b, o + j * 5, none⟩) (fun h => h) e0
  have f1 := HK2.out.cell (p := ⟨b, o + j * 5 + 1, none⟩) (fun h => h) e1
  have f2 := HK2.out.cell (p := ⟨b, o + j * 5 + 2, none⟩) (fun h => h) e2
  have f3 := HK2.out.cell (p := ⟨b, o + j * 5 + 3, none⟩) (fun h => h) e3
  have f4 := HK2.out.cell (p := ⟨b, o + j * 5 + 4, none⟩) (fun h => h) e4
  clear e0 e1 e2 e3 e4
  have hzw : w.heap.size < w1.heap.size := heap_lt HB1.out
  have hq1 : ¬ r = b := fun h => by have := HRB.out; omega
  have hq2 : ¬ b = r := fun h => hq1 h.symm
  have hq3 : ¬ r = w.heap.size := fun h => by have := HRB.out; omega
  have hq4 : ¬ w.heap.size = r := fun h => hq3 h.symm
  have HKQ : Hid (Kept NoB w2 w2.drew) := Lib.hid (Kept.refl NoB w2).drew
  have HMW : Hid (Calls Try.prog 82 #[.agg #[.int .i64 cch, .int .u64 cep, .slice ua ns.length uc, .bool fr, .int .i64 jn], .agg #[.int .i64 k, .int .i64 j, .int .u64 ep, .int .i64 nd]] w2.drew fun e w' => ∃ va vc, e = .returned (.agg #[.int .i64 R.ch, .int .u64 R.ep, .slice va R.ns.length vc, .bool R.fr, .int .i64 R.jn]) ∧ NSl w' (fun k => w2.heap.size ≤ k) (.slice va R.ns.length vc) R.ns ∧ (0 ≤ R.ep ∧ R.ep ≤ topE ∧ R.ns.length ≤ 1000) ∧ Kept NoB w2.drew w') := Lib.hid ((HMD.out _ (HK2.out.trans HKQ.out (fun _ _ h => h))).mono fun e w' ⟨v, h1, ⟨u, h2, h3, h4⟩, h5⟩ => by
    obtain ⟨va, vc, rfl, _⟩ := id h3
    exact ⟨va, vc, by rw [h1, h2], h3, h4, h5⟩)
  clear HMD HCA
  obtain ⟨rch, rep, rns, rfr, rjn⟩ := R
  simp only at HMW
  have hj5 : (j : Int) < (rc : Int) := by omega
  go_region_held3 (fun w' => w'.cell? ⟨w.heap.size, 0, none⟩ = some (.int .i64 k) ∧ w'.cell? ⟨w.heap.size, 1, none⟩ = some (.int .i64 (j : Int)) ∧ w'.cell? ⟨w.heap.size, 2, none⟩ = some (.int .u64 ep) ∧ w'.cell? ⟨w.heap.size, 3, none⟩ = some (.int .i64 nd) ∧
      w'.cell? ⟨b, o + j * 5, none⟩ = some (.int .i64 cch) ∧ w'.cell? ⟨b, o + j * 5 + 1, none⟩ = some (.int .u64 cep) ∧ w'.cell? ⟨b, o + j * 5 + 2, none⟩ = some (.slice ua ns.length uc) ∧ w'.cell? ⟨b, o + j * 5 + 3, none⟩ = some (.bool fr) ∧ w'.cell? ⟨b, o + j * 5 + 4, none⟩ = some (.int .i64 jn))
    (first
      | (with_reducible exact ⟨cell_drew c0, cell_drew c1, cell_drew c2, cell_drew c3, cell_drew f0, cell_drew f1, cell_drew f2, cell_drew f3, cell_drew f4⟩)
      | (with_reducible exact ⟨k0, k1, k2, k3, l0, l1, l2, l3, l4⟩)
      | go_keep)
    ((go_at_call 82; (with_reducible refine HMW.out.mono ?_); rintro e w3 ⟨va, vc, rfl, hn3, hb3, hk3⟩; have HN3 := Lib.hid hn3; have HB3 := Lib.hid hb3; have HKA := Lib.hid (HKQ.out.trans hk3 (fun _ _ h => h)); have HR3 := Lib.hid (HRW.out.kept HKA.out (fun h => h)); clear hn3 hb3 hk3
      have y0 := (HR3.out.cell (m := j * 5) (by omega)); have y1 := (HR3.out.cell (m := j * 5 + 1) (by omega)); have y2 := (HR3.out.cell (m := j * 5 + 2) (by omega)); have y3 := (HR3.out.cell (m := j * 5 + 3) (by omega)); have y4 := (HR3.out.cell (m := j * 5 + 4) (by omega))
      obtain ⟨y0, z0⟩ := y0; obtain ⟨y1, z1⟩ := y1; obtain ⟨y2, z2⟩ := y2; obtain ⟨y3, z3⟩ := y3; obtain ⟨y4, z4⟩ := y4
      have k0 := HKA.out.cell (p := ⟨w.heap.size, 0, none⟩) (fun h => h) c0; have k1 := HKA.out.cell (p := ⟨w.heap.size, 1, none⟩) (fun h => h) c1; have k2 := HKA.out.cell (p := ⟨w.heap.size, 2, none⟩) (fun h => h) c2; have k3 := HKA.out.cell (p := ⟨w.heap.size, 3, none⟩) (fun h => h) c3
      have l0 := HKA.out.cell (p := ⟨b, o + j * 5, none⟩) (fun h => h) f0; have l1 := HKA.out.cell (p := ⟨b, o + j * 5 + 1, none⟩) (fun h => h) f1; have l2 := HKA.out.cell (p := ⟨b, o + j * 5 + 2, none⟩) (fun h => h) f2; have l3 := HKA.out.cell (p := ⟨b, o + j * 5 + 3, none⟩) (fun h => h) f3; have l4 := HKA.out.cell (p := ⟨b, o + j * 5 + 4, none⟩) (fun h => h) f4))
  all_goals
    have hrow := HR3.out.putC hj ⟨rch, rep, rns, rfr, rjn⟩ (.slice va rns.length vc)
    have hks := (((((Kept.refl (fun k => k = r) w3).setCell (p := ⟨r, j * 5, none⟩) (.inl rfl) (.int .i64 rch)).setCell (p := ⟨r, j * 5 + 1, none⟩) (.inl rfl) (.int .u64 rep)).setCell (p := ⟨r, j * 5 + 2, none⟩) (.inl rfl) (.slice va rns.length vc)).setCell (p := ⟨r, j * 5 + 3, none⟩) (.inl rfl) (.bool rfr)).setCell (p := ⟨r, j * 5 + 4, none⟩) (.inl rfl) (.int .i64 rjn)
    simp only at hrow
    clear y0 y1 y2 y3 y4 z0 z1 z2 z3 z4 k0 k1 k2 k3 l0 l1 l2 l3 l4 c0 c1 c2 c3 f0 f1 f2 f3 f4
    generalize hW : World.setCell _ _ _ = W3 at hrow hks ⊢
    clear hW
    have HKE : Hid (Kept NoB w W3) := Lib.hid (by
      have h1 := HK2.out.trans HKA.out (fun _ _ h => h)
      exact h1.trans hks (fun i hi e => by have e : i = r := e; have := HRB.out; omega))
    have HND : Hid (NodesC W3 (fun k => F k ∨ w.heap.size ≤ k) (l.set j ⟨rch, rep, rns, rfr, rjn⟩) (upd us j (.slice va rns.length vc))) := Lib.hid (fun i hi => by
      rw [List.length_set] at hi
      rw [nthC_set hj]
      by_cases e : i = j
      · rw [if_pos e, e, upd_at]
        exact ⟨(HN3.out.kept hks (fun k hk h1 h2 => by have h2 : k = r := h2; have := HRW.out.lt; omega)).mono (fun k _ h => .inr (by have := HK2.out.size; omega)), HB3.out⟩
      · rw [if_neg e, upd_far e]
        have h1 := HUS.out _ (HK2.out.trans HKA.out (fun _ _ h => h)) i hi
        exact ⟨(h1.1.kept hks (fun k hk h1 h2 => by have h2 : k = r := h2; have := HRB.out; omega)).mono (fun k _ h => .inl h.1), h1.2⟩)
    have HCF := Lib.hid (hrow.cfs HND.out (.inr (by have := HRB.out; omega)))
    have hls : (l.set j ⟨rch, rep, rns, rfr, rjn⟩).length = l.length := List.length_set ..
    rw [hls] at HCF
    clear hrow hks hls
    go_wp2
    go_ret2
    exact ⟨_, rfl, HCF.out, HKE.out⟩
set_option maxRecDepth 100000 in
set_option maxHeartbeats 2000000 in
theorem RDo_any (v : Value) (l : List Cf) (e0 k ch ep nd : Int) (F : Nat → Prop) (w : World) (h : CfsAt w F v l) (hlen : l.length ≤ 1000) (hx : Chk k ch ep nd e0) (hep : 0 ≤ ep) :
    Calls Try.prog 39 #[v, cmdv k ch ep nd] w (RDoE F (doC l e0 k ch ep nd) (decide (canC l e0 k ch ep nd = 0)) w) := by
  have HB := Lib.hid (heap_alloc_new w (.cells #[.int .i64 k, .int .i64 ch, .int .u64 ep, .int .i64 nd] 39))
  have HK := Lib.hid ((Kept.refl NoB w).alloc (.cells #[.int .i64 k, .int .i64 ch, .int .u64 ep, .int .i64 nd] 39))
  have HCA : Hid (∀ w', Kept NoB w w' → _) := Lib.hid (fun w' hk => RCan_any _ l e0 k ch ep nd F w' (h.kept hk (fun _ _ _ h => h)) hlen hx hep)
  have HCF : Hid (∀ w', Kept NoB w w' → CfsAt w' (fun k => F k ∨ w.heap.size ≤ k) v l) := Lib.hid (fun w' hk => (h.kept hk (fun _ _ _ h => h)).mono (fun k _ h => .inl h))
  by_cases hc : canC l e0 k ch ep nd = 0
  rotate_left
  · rw [doC_no hc, decide_eq_false hc]
    obtain ⟨a, cap, rfl, _⟩ := id h
    obtain ⟨x, hxx⟩ : ∃ x, x = canC l e0 k ch ep nd := ⟨_, rfl⟩
    rw [← hxx] at hc HCA
    have hxb : ((x : Int) != 0) = true := by simpa using hc
    clear h hx hep hc hxx
    go_enter Try.func39, Try.ntmps39
    go_wp2_with fail
    refine (HCA.out _ HK.out).mono ?_
    rintro e w2 ⟨rfl, hk⟩
    have HK2 := Lib.hid (HK.out.trans hk (fun _ _ h => h))
    clear hk
    go_wp2
    go_ret2
    exact ⟨_, rfl, HCF.out _ HK2.out, HK2.out⟩
  obtain ⟨hA, rfl, hcs⟩ := can_ok hc
  by_cases hk0 : k = 0
  · subst hk0
    rw [doC_zero, decide_eq_true hc]
    rw [hc] at HCA
    obtain ⟨a, cap, rfl, _⟩ := id h
    clear h hx hep hc hcs
    go_enter Try.func39, Try.ntmps39
    go_wp2_with fail
    refine (HCA.out _ HK.out).mono ?_
    rintro e w2 ⟨rfl, hk⟩
    have HK2 := Lib.hid (HK.out.trans hk (fun _ _ h => h))
    have d0 := (cells4c (hk.heap (fun h => h) HB.out)).1
    clear hk
    go_wp2
    go_ret2
    exact ⟨_, rfl, HCF.out _ HK2.out, HK2.out⟩
  rcases hcs with h0 | ⟨_, hlt, _, _, _⟩
  · exact absurd h0 hk0
  have hV := Chk.ok.1 hx
  unfold Vld at hV
  have hch0 : 0 ≤ ch := by omega
  rw [doC_yes hc hk0, decide_eq_true hc]
  obtain ⟨j, rfl⟩ := Int.eq_ofNat_of_zero_le hch0
  have ejn : ((j : Int)).toNat = j := by omega
  rw [ejn]
  exact RDo_made _ l j k ep nd F w h hA hx hep (by omega) hk0 hc
end Go.Proofs.Ytidhaofojcdbaaa
namespace Go.Proofs.Ytidhaofojcdbaaa
open Go.RowKit
set_option linter.unusedVariables false

/-- The cells of configurations, each with its nodes' slice. -/
def kc (ps : List (Cf × Value)) : List Value := ps.flatMap fun p => [.int .i64 p.1.ch, .int .u64 p.1.ep, p.2, .bool p.1.fr, .int .i64 p.1.jn]
theorem kc_app (a b : List (Cf × Value)) : kc (a ++ b) = kc a ++ kc b := by simp [kc]
theorem kc_len (a : List (Cf × Value)) : (kc a).length = a.length * 5 := by
  induction a with
  | nil => rfl
  | cons p a ih =>
    have : kc (p :: a) = [.int .i64 p.1.ch, .int .u64 p.1.ep, p.2, .bool p.1.fr, .int .i64 p.1.jn] ++ kc a := rfl
    rw [this, List.length_append, ih, List.length_cons]
    simp only [List.length_cons, List.length_nil]
    omega
theorem kc_at (a : List (Cf × Value)) (j i : Nat) (hj : j < a.length) (hi : i < 5) : (kc a)[j * 5 + i]? = [Value.int .i64 (a[j]).1.ch, .int .u64 (a[j]).1.ep, (a[j]).2, .bool (a[j]).1.fr, .int .i64 (a[j]).1.jn][i]? := by
  induction a generalizing j with
  | nil => exact absurd hj (by simp)
  | cons p a ih =>
    have e : kc (p :: a) = [.int .i64 p.1.ch, .int .u64 p.1.ep, p.2, .bool p.1.fr, .int .i64 p.1.jn] ++ kc a := rfl
    rw [e]
    cases j with
    | zero =>
      rw [Nat.zero_mul, Nat.zero_add, List.getElem?_append_left (by simpa using hi)]
      rfl
    | succ j =>
      rw [List.getElem?_append_right (by simp only [List.length_cons, List.length_nil]; omega)]
      simp only [List.length_cons, List.length_nil, List.getElem_cons_succ]
      rw [show (j + 1) * 5 + i - (0 + 1 + 1 + 1 + 1 + 1) = j * 5 + i by omega]
      exact ih j (by simpa using hj)
/-- A row of configurations of the call's own, from block B on. -/
def KOwn (B : Nat) (w : World) (v : Value) (ps : List (Cf × Value)) : Prop := w.ownsRow B 84 5 v ps.length (kc ps)
theorem KOwn.nil (B : Nat) (w : World) : KOwn B w (.slice none 0 0) [] := World.ownsRow_nil _ _ _ _
theorem KOwn.form {B : Nat} {w : World} {v : Value} {l : List (Cf × Value)} (h : KOwn B w v l) : ∃ a c, v = .slice a l.length c := by
  rcases h.2 with ⟨rfl, h0⟩ | ⟨r, cap, cur, rfl, _⟩
  · exact ⟨none, 0, by rw [h0]⟩
  · exact ⟨_, _, rfl⟩
theorem KOwn.kept {S : Nat → Prop} {B : Nat} {w w' : World} {v : Value} {l : List (Cf × Value)} (h : KOwn B w v l) (hk : Kept S w w') (hs : ∀ k, v.ownBlock = some k → ¬ S k) : KOwn B w' v l := by
  refine ⟨h.1, ?_⟩
  rcases h.2 with hn | ⟨r, cap, cur, rfl, hb, hr, rest⟩
  · exact .inl hn
  · exact .inr ⟨r, cap, cur, rfl, hb, hk.heap (hs r rfl) hr, rest⟩
/-- It reads as the configurations. -/
theorem KOwn.cfs {B : Nat} {w : World} {v : Value} {ps : List (Cf × Value)} {F : Nat → Prop} (h : KOwn B w v ps) (hF : ∀ k, v.ownBlock = some k → F k)
    (hn : ∀ p ∈ ps, NSl w F p.2 p.1.ns ∧ 0 ≤ p.1.ep ∧ p.1.ep ≤ topE ∧ p.1.ns.length ≤ 1000) : CfsAt w F v (ps.map Prod.fst) := by
  have hl : (ps.map Prod.fst).length = ps.length := List.length_map _
  rcases h.2 with ⟨rfl, h0⟩ | ⟨r, cap, cur, rfl, hb, hr, hc, hm, _⟩
  · obtain rfl : ps = [] := List.eq_nil_of_length_eq_zero h0
    exact CfsAt.nil w F
  · refine ⟨_, cap, by rw [hl], by rw [hl]; exact hc, hm, (fun h => by cases h), fun _ => ⟨r, 0, rfl, hF r rfl, heap_lt hr, fun j hj => ?_⟩⟩
    rw [hl] at hj
    have hx : ∀ i, i < 5 → ∀ u, [Value.int .i64 (ps[j]).1.ch, .int .u64 (ps[j]).1.ep, (ps[j]).2, .bool (ps[j]).1.fr, .int .i64 (ps[j]).1.jn][i]? = some u → w.cell? ⟨r, 0 + j * 5 + i, none⟩ = some u := fun i hi u hu => by
      have := h.cells (g := r) rfl (j * 5 + i) u (by rw [kc_at ps j i hj hi]; exact hu)
      have hadd : (⟨r, 0, none⟩ : Addr).add (j * 5 + i) = ⟨r, 0 + j * 5 + i, none⟩ := by unfold Addr.add; split <;> simp_all
      rw [← hadd]
      exact this
    have hnj : nthC (ps.map Prod.fst) j = (ps[j]).1 := by rw [nthC_at (by rw [hl]; exact hj)]; simp
    rw [hnj]
    exact ⟨(ps[j]).2, hx 0 (by omega) _ rfl, hx 1 (by omega) _ rfl, hx 2 (by omega) _ rfl, hx 3 (by omega) _ rfl, hx 4 (by omega) _ rfl, hn _ (List.getElem_mem hj)⟩
/-- append of one configuration that lies in a block to a row of the call's own. -/
theorem run_append_kc (w : World) (base : Nat) (ty : TypeId) (v : Value) (ps : List (Cf × Value)) (hown : KOwn base w v ps) (b : Nat) (c : Cf) (u : Value) (hb : w.heap[b]? = some (.cells #[.int .i64 c.ch, .int .u64 c.ep, u, .bool c.fr, .int .i64 c.jn] 84 (0, 0))) (hu : u.oneCell' = true) (hl : ps.length ≤ 100000) (hbase : base ≤ w.heap.size) :
    ∃ a' c' w', (Builtin.append_ #[71, 71] ty #[v, .slice (some ⟨b, 0, none⟩) 1 1]).run Try.prog w = .ok (.slice a' (ps.length + 1) c') w' ∧ KOwn base w' (.slice a' (ps.length + 1) c') (ps ++ [(c, u)]) ∧ w.grownBy w' v.ownBlock ∧ ((Value.slice a' (ps.length + 1) c').ownBlock = v.ownBlock ∨ (Value.slice a' (ps.length + 1) c').ownBlock = some w.heap.size) := by
  obtain ⟨i0, hi, hz0, hz1, hz2⟩ := info_parts conf_zero
  obtain ⟨v', w', hrun, h2, h3, _, h5⟩ := run_append_own_at (P := Try.prog) w base 71 ty 84 i0 _ 5 56 Try.underlying71 hi hz0 hz1 hz2 rfl (by decide) v ps.length _ hown ⟨b, 0, none⟩ 1 1 (kc [(c, u)]) (by simp [kc]) (World.news_of_block hb) (by
    intro x hx
    simp only [kc, List.flatMap_cons, List.flatMap_nil, List.append_nil, List.mem_cons, List.not_mem_nil, or_false] at hx
    rcases hx with rfl | rfl | rfl | rfl | rfl
    · rfl
    · rfl
    · exact hu
    · rfl
    · rfl) (by unfold maxLen; omega) (by omega) hbase
  have h2' : KOwn base w' v' (ps ++ [(c, u)]) := by
    unfold KOwn
    rw [kc_app, List.length_append]
    exact h2
  obtain ⟨a', c', e⟩ := h2'.form
  rw [List.length_append] at e
  have e : v' = .slice a' (ps.length + 1) c' := e
  subst e
  exact ⟨a', c', w', hrun, h2', h3, h5⟩
theorem wpList_append_kc (w : World) {ops : Array Oper} {rest : List Oper} {o : Oper} {a : Act} {Q : Exit → Act → World → Prop} (hgd : o.guard = none) (s x : Operand)
    (ho : o.op = .call { callee := .builtin .append, args := #[s, x], argTypes := #[71, 71] })
    (base : Nat) (v : Value) (ps : List (Cf × Value)) (hs : a.eval s = v) (hown : KOwn base w v ps) (b : Nat) (c : Cf) (u : Value) (hx : a.eval x = .slice (some ⟨b, 0, none⟩) 1 1) (hb : w.heap[b]? = some (.cells #[.int .i64 c.ch, .int .u64 c.ep, u, .bool c.fr, .int .i64 c.jn] 84 (0, 0))) (hu : u.oneCell' = true) (hl : ps.length ≤ 100000) (hbase : base ≤ w.heap.size)
    (h : ∀ a' c' w', KOwn base w' (.slice a' (ps.length + 1) c') (ps ++ [(c, u)]) → w.grownBy w' v.ownBlock → ((Value.slice a' (ps.length + 1) c').ownBlock = v.ownBlock ∨ (Value.slice a' (ps.length + 1) c').ownBlock = some w.heap.size) → wpList Try.prog ops Q rest (a.put o.dst (.slice a' (ps.length + 1) c')) w') : wpList Try.prog ops Q (o :: rest) a w :=
  wpList_plain hgd fun K hK => by
    obtain ⟨a', c', w', hrun, h2, h3, h4⟩ := run_append_kc w base o.type v ps hown b c u hb hu hl hbase
    unfold Oper.wp execOp
    simp only [ho, resolve, invoke, builtin, Sem.run_bind, Sem.run_pure, Result.andThen_ok, List.map_toArray, List.map_cons, List.map_nil, hs, hx, hrun]
    exact hK _ _ (h a' c' w' h2 h3 h4)
end Go.Proofs.Ytidhaofojcdbaaa
namespace Go.Proofs.Ytidhaofojcdbaaa
open Go.RowKit
set_option linter.unusedVariables false

/-- What is left of the old numbers, in their order, and at most one new one. -/
def Ordd (a b : List Int) : Prop := ∃ (p : Int → Bool) (ex : List Int), b = a.filter p ++ ex ∧ ex.length ≤ 1 ∧ ∀ x ∈ ex, x ∉ a
theorem Ordd.refl (a : List Int) : Ordd a a := ⟨fun _ => true, [], (by rw [List.append_nil]; exact (List.filter_eq_self.2 (fun _ _ => rfl)).symm), by simp, fun _ h => by cases h⟩
end Go.Proofs.Ytidhaofojcdbaaa
namespace Go.Proofs.Ytidhaofojcdbaaa
open Go.RowKit
set_option linter.unusedVariables false
set_option linter.unusedSimpArgs false

/-- What Begin tells. -/
def begB (chains per : Int) : Bool := decide (1 ≤ chains ∧ chains ≤ 4 ∧ 1 ≤ per ∧ per ≤ 5)
def begC (chains per : Int) : List Cf := if begB chains per then begL chains.toNat per.toNat else []
def begX (chains per : Int) : Int := if begB chains per then 0 else 1
def BegE (chains per : Int) (w : World) (e : Ending) (w' : World) : Prop := ∃ v, e = .returned (.tuple #[v, .int .i64 (begX chains per)]) ∧ CfsAt w' (fun k => w.heap.size ≤ k) v (begC chains per) ∧ Kept NoB w w'
theorem upd_upd (us : Nat → Value) (j : Nat) (x y : Value) : upd (upd us j x) j y = upd us j y := by
  funext i
  unfold upd
  split <;> rfl
theorem RowC.setCh {w : World} {r cap : Nat} {l : List Cf} {us : Nat → Value} (h : RowC w r cap l us) {j : Nat} (hj : j < l.length) (n : Int) :
    RowC (w.setCell ⟨r, j * 5, none⟩ (.int .i64 n)) r cap (l.set j { nthC l j with ch := n }) (Go.Proofs.Ytidhaofojcdbaaa.upd us j (us j)) :=
  h.upd hj _ _ _ 0 (by decide) fun i' hi => by
    rw [cell_set hj _ _ _ hi, cell_old _ _ _ _ hi]
    rcases (by omega : i' = 0 ∨ i' = 1 ∨ i' = 2 ∨ i' = 3 ∨ i' = 4) with rfl | rfl | rfl | rfl | rfl <;> rfl
theorem RowC.set5 {w : World} {r cap : Nat} {l : List Cf} {us : Nat → Value} (h : RowC w r cap l us) {j : Nat} (hj : j < l.length) (c : Cf) (v : Value) :
    RowC (((((w.setCell ⟨r, j * 5, none⟩ (.int .i64 c.ch)).setCell ⟨r, j * 5 + 1, none⟩ (.int .u64 c.ep)).setCell ⟨r, j * 5 + 2, none⟩ v).setCell ⟨r, j * 5 + 3, none⟩ (.bool c.fr)).setCell ⟨r, j * 5 + 4, none⟩ (.int .i64 c.jn)) r cap (l.set j c) (Go.Proofs.Ytidhaofojcdbaaa.upd us j v) := by
  have hl : ∀ x, j < (l.set j x).length := fun x => by rw [List.length_set]; exact hj
  have h1 := h.setCh hj c.ch
  have h2 := h1.setEp (hl _) c.ep
  rw [nthC_sets hj, set_set, upd_at, upd_upd] at h2
  have h3 := h2.setNs (hl _) v c.ns
  rw [nthC_sets hj, set_set, upd_upd] at h3
  have h4 := h3.setFr (hl _) c.fr
  rw [nthC_sets hj, set_set, upd_at, upd_upd] at h4
  have h5 := h4.setJn (hl _) c.jn
  rw [nthC_sets hj, set_set, upd_at, upd_upd] at h5
  exact h5
theorem bother1 {w : World} {g k : Nat} {o : Obj} (h : w.heap[g]? = some o) (i : Nat) (u : Value) (hk : k ≠ g) :
    (w.setCell ⟨k, i, none⟩ u).heap[g]? = some o := by simp [World.setCell, Array.getElem?_modify, h, hk]
def lkC (chains per k : Nat) : List Cf := (List.range chains).map fun i => if i < k then beg1 per i else cf0
theorem lk_len (chains per k : Nat) : (lkC chains per k).length = chains := by simp [lkC]
theorem lk_nth {chains per k i : Nat} (h : i < chains) : nthC (lkC chains per k) i = if i < k then beg1 per i else cf0 := by
  rw [nthC_at (by rw [lk_len]; exact h)]
  simp [lkC]
theorem lk_set {chains per k : Nat} (h : k < chains) : (lkC chains per k).set k (beg1 per k) = lkC chains per (k + 1) := by
  refine nthC_ext (by simp [lk_len]) fun i hi => ?_
  have hi' : i < chains := by simpa [lk_len] using hi
  rw [nthC_set (by rw [lk_len]; exact h), lk_nth hi', lk_nth hi']
  by_cases e : i = k
  · subst e; rw [if_pos rfl, if_pos (by omega)]
  · rw [if_neg e]
    by_cases e2 : i < k
    · rw [if_pos e2, if_pos (by omega)]
    · rw [if_neg e2, if_neg (by omega)]
theorem lk_all (chains per : Nat) : lkC chains per chains = begL chains per := by
  refine nthC_ext (by simp [lk_len, begL_len]) fun i hi => ?_
  have hi' : i < chains := by simpa [lk_len] using hi
  rw [lk_nth hi', begL_nth hi', if_pos hi']
theorem beg1_ns (per k : Nat) : (beg1 per k).ns.length = per := by simp [beg1]
theorem beg1_at {per k i : Nat} (h : i < per) : (beg1 per k).ns.getD i 0 = ((k * per + i + 1 : Nat) : Int) := by
  rw [getD_at (by rw [beg1_ns]; exact h)]
  simp [beg1]
theorem made_row {w : World} {chains per : Nat} (hm : chains ≤ 4) : RowC (w.alloc (.cells (madeCells (Value.agg #[.int .i64 0, .int .u64 0, .slice none 0 0, .bool false, .int .i64 0]).cells (chains * 5)) 84)) w.heap.size chains (lkC chains per 0) (fun _ => .slice none 0 0) := by
  refine ⟨_, heap_alloc_new w _, by rw [size_madeCells], by rw [lk_len]; exact Nat.le_refl _, by unfold maxLen; omega, fun m hm' => ?_⟩
  rw [lk_len] at hm'
  have hn : nthC (lkC chains per 0) (m / 5) = cf0 := by rw [lk_nth (by omega), if_neg (by omega)]
  unfold cellC
  rw [hn]
  unfold madeCells
  simp only [Value.cells, Array.getElem?_map, Array.getElem?_range, hm', if_true, Option.map_some]
  have hs : (#[Value.int .i64 0, .int .u64 0, .slice none 0 0, .bool false, .int .i64 0] : Array Value).size = 5 := rfl
  simp only [hs]
  congr 1
  rcases (by omega : m % 5 = 0 ∨ m % 5 = 1 ∨ m % 5 = 2 ∨ m % 5 = 3 ∨ m % 5 = 4) with e | e | e | e | e <;> rw [e] <;> rfl
end Go.Proofs.Ytidhaofojcdbaaa
namespace Go.Proofs.Ytidhaofojcdbaaa
open Go.RowKit
set_option linter.unusedVariables false
set_option linter.unusedSimpArgs false

theorem RBegin_bad (chains per : Int) (w : World) (h : begB chains per = false) : Calls Try.prog 30 #[.int .i64 chains, .int .i64 per] w (BegE chains per w) := by
  have HBX : Hid (begC chains per = [] ∧ begX chains per = 1) := Lib.hid (by unfold begC begX; rw [h]; exact ⟨rfl, rfl⟩)
  have hb : ¬ (1 ≤ chains ∧ chains ≤ 4 ∧ 1 ≤ per ∧ per ≤ 5) := of_decide_eq_false h
  have hfin : BegE chains per w (.returned (.tuple #[.slice none 0 0, .int .i64 1])) w := by
    exact ⟨.slice none 0 0, (by rw [HBX.out.2] <;> rfl), (by rw [HBX.out.1]; exact CfsAt.nil _ _), Kept.refl _ _⟩
  have HF := Lib.hid hfin
  clear h hfin HBX
  by_cases h1 : chains < 1
  · clear hb
    go_enter Try.func30, Try.ntmps30
    go_wp2
    go_ret2
    exact HF.out
  · have b1 : decide (chains < 1) = false := decide_eq_false h1
    by_cases h2 : 4 < chains
    · clear hb
      go_enter Try.func30, Try.ntmps30
      go_wp2
      go_ret2
      exact HF.out
    · have b2 : decide (4 < chains) = false := decide_eq_false h2
      by_cases h3 : per < 1
      · clear hb
        go_enter Try.func30, Try.ntmps30
        go_wp2
        go_ret2
        exact HF.out
      · have b3 : decide (per < 1) = false := decide_eq_false h3
        have h4 : 5 < per := by omega
        clear hb
        go_enter Try.func30, Try.ntmps30
        go_wp2
        go_ret2
        exact HF.out
/-- What stands behind k chains. -/
def BegK (B k per : Nat) (q : Value) (ps : List (Cf × Value)) (w0 wr : World) : Prop :=
  ps.map Prod.fst = (List.range k).map (beg1 per) ∧ KOwn B wr q ps ∧ (∀ p ∈ ps, NSl wr (fun b => B ≤ b ∧ q.ownBlock ≠ some b) p.2 p.1.ns) ∧ Kept NoB w0 wr
set_option maxRecDepth 100000 in
set_option maxHeartbeats 2000000 in
theorem RBegin_good (chains per : Nat) (w : World) (h1 : 1 ≤ chains) (h4 : chains ≤ 4) (p1 : 1 ≤ per) (p5 : per ≤ 5) :
    Calls Try.prog 30 #[.int .i64 chains, .int .i64 per] w (BegE chains per w) := by
  have hmul : ∀ k : Nat, k ≤ 4 → k * per ≤ 20 := fun k hk => by have := Nat.mul_le_mul hk p5; omega
  have HM := Lib.hid hmul
  have hc1 : decide ((chains : Int) < 1) = false := decide_eq_false (by omega)
  have hc4 : decide (4 < (chains : Int)) = false := decide_eq_false (by omega)
  have hp1 : decide ((per : Int) < 1) = false := decide_eq_false (by omega)
  have hp5 : decide (5 < (per : Int)) = false := decide_eq_false (by omega)
  have HBX : Hid (begC chains per = begL chains per ∧ begX chains per = 0) := Lib.hid (by
    have hb : begB chains per = true := decide_eq_true (by omega)
    unfold begC begX
    rw [hb, Int.toNat_natCast, Int.toNat_natCast]
    exact ⟨rfl, rfl⟩)
  clear hmul
  go_enter Try.func30, Try.ntmps30
  go_wp2_with fail
  go_loopw [6, 7, 8] (fun q n i wr => ∃ (k : Nat) (ps : List (Cf × Value)), i = .int .i64 k ∧ k ≤ chains ∧ n = .int .i64 ((k * per : Nat) : Int) ∧ BegK w.heap.size k per q ps w wr) (fun _ _ i _ => chains - (intOf i).toNat)
  case atStart => exact ⟨0, [], rfl, Nat.zero_le _, by rw [Nat.zero_mul]; rfl, rfl, KOwn.nil _ _, (fun _ h => by cases h), Kept.refl _ _⟩
  case round =>
    obtain ⟨k, ps, rfl, hk, rfl, hmap, hown, hns, hkk⟩ := hrel
    have HMAP := Lib.hid hmap
    have HO := Lib.hid hown
    have HN := Lib.hid hns
    have HK := Lib.hid hkk
    have hpl : ps.length = k := by have := congrArg List.length hmap; simpa using this
    obtain ⟨qa, qc, rfl⟩ := hown.form
    have HPL := Lib.hid hpl
    clear hmap hown hns hkk hpl
    have hkp := HM.out k (by omega)
    obtain ⟨kp, hkpe⟩ : ∃ kp, kp = k * per := ⟨_, rfl⟩
    have HKP := Lib.hid hkpe
    rw [← hkpe] at hkp
    rw [← hkpe]
    clear hkpe
    by_cases hlt : k < chains
    · have hk1 : (k : Int) < (chains : Int) := by omega
      go_wp2_with fail
      obtain ⟨wo, rfl⟩ : ∃ wo : World, wo = wr := ⟨_, rfl⟩
      have HB0 := Lib.hid (heap_alloc_new wo (.cells #[.int .i64 (k : Int), .int .u64 1, .slice none 0 0, .bool false, .int .i64 0] 84))
      have HK0 := Lib.hid ((Kept.refl NoB wo).alloc (.cells #[.int .i64 (k : Int), .int .u64 1, .slice none 0 0, .bool false, .int .i64 0] 84))
      go_loopw [7, 10] (fun n i wr => ∃ (m : Nat) (qb : Option Addr) (qd : Nat), i = .int .i64 m ∧ m ≤ per ∧ n = .int .i64 ((kp + m : Nat) : Int) ∧ wr.heap[wo.heap.size]? = some (.cells #[.int .i64 (k : Int), .int .u64 1, .slice qb m qd, .bool false, .int .i64 0] 84 (0, 0)) ∧ IOwn (wo.heap.size + 1) wr (.slice qb m qd) ((beg1 per k).ns.take m) ∧ Kept NoB wo wr) (fun _ i _ => per - (intOf i).toNat)
      case atStart => exact ⟨0, none, 0, rfl, Nat.zero_le _, rfl, HB0.out, IOwn.nil _ _, HK0.out⟩
      case round =>
        obtain ⟨m, qb, qd, rfl, hm, rfl, hrow, hio, hkw⟩ := hrel
        have HROW := Lib.hid hrow
        have HIO := Lib.hid hio
        have HKW := Lib.hid hkw
        have hln : ((beg1 per k).ns.take m).length = m := by rw [List.length_take, beg1_ns]; omega
        have HLN := Lib.hid hln
        have hgs := heap_lt hrow
        clear hio hkw hln
        by_cases hml : m < per
        · have hm1 : (m : Int) < (per : Int) := by omega
          have HTK : Hid ((beg1 per k).ns.take (m + 1) = (beg1 per k).ns.take m ++ [(((kp + m : Nat) : Int) + 1)]) := Lib.hid (by rw [take_one (by rw [beg1_ns]; exact hml), beg1_at hml, ← HKP.out]; rfl)
          obtain ⟨M, hM⟩ : ∃ M, M = (beg1 per k).ns.take m := ⟨_, rfl⟩
          rw [← hM] at HIO HLN HTK
          clear hM
          obtain ⟨n0, hn0⟩ : ∃ n0, n0 = kp + m := ⟨_, rfl⟩
          rw [← hn0] at HTK ⊢
          have hn0b : n0 ≤ 25 := by omega
          have HN0 := Lib.hid hn0
          clear hn0
          have HO1 := Lib.hid (row_keptI HIO.out ((Kept.refl NoB wr).alloc (.cells #[.int .i64 ((n0 : Int) + 1)] 3)) (fun _ _ h => h))
          have HON := Lib.hid (nsl_one (heap_alloc_new wr (.cells #[.int .i64 ((n0 : Int) + 1)] 3)))
          have HSZ : Hid (wo.heap.size + 1 ≤ (wr.alloc (.cells #[.int .i64 ((n0 : Int) + 1)] 3)).heap.size) := Lib.hid (by simp; omega)
          obtain ⟨c0, c1, c2, c3, c4⟩ := cells5 hrow
          have HM5 : Hid (M.length + 1 ≤ 100000) := Lib.hid (by rw [HLN.out]; omega)
          rw [← HLN.out] at HO1
          clear hrow
          go_wp2_with (at_builtin; refine wpList_append_nsl _ rfl (.tmp 40) (.tmp 42) rfl (wo.heap.size + 1) (.slice qb M.length qd) M (by rw [HLN.out] <;> rfl) HO1.out (fun _ => True) (.slice (some ⟨wr.heap.size, 0, none⟩) 1 1) [(n0 : Int) + 1] rfl HON.out (by simpa using HM5.out) HSZ.out ?_; intro a1 e1 w3 hown1 hg1 hat1; have hk3 : Kept (fun b => (Value.slice qb M.length qd).ownBlock = some b) wr w3 := ((Kept.refl _ wr).alloc _).grown hg1 (fun b hb => .inl hb); have hrow3 := hk3.heap (fun h => by have := (World.ownsRow.lt HO1.out _ h).1; omega) HROW.out; obtain ⟨d0, d1, d2, d3, d4⟩ := cells5 hrow3; have z2 : w3.frozen? ⟨wo.heap.size, 2, none⟩ = false := (by simp [World.frozen?, hrow3]); have HOWN1 := Lib.hid hown1; have HROW3 := Lib.hid hrow3; have HKW3 := Lib.hid ((HKW.out.alloc (.cells #[.int .i64 ((n0 : Int) + 1)] 3)).grown hg1 (fun b hb => .inr (by have := (World.ownsRow.lt HO1.out _ hb).1; omega))); clear hown1 hg1 hat1 hk3 hrow3 c0 c1 c2 c3 c4)
          rw [List.length_singleton, HLN.out] at HOWN1
          go_roundw
          case rel =>
            refine ⟨m + 1, a1, e1, by go_num, by omega, by rw [show kp + (m + 1) = n0 + 1 by rw [HN0.out]; omega]; go_num, by rw [HLN.out]; exact bset1 HROW3.out 2 _, ?_, HKW3.out.setCell (p := ⟨wo.heap.size, 2, none⟩) (.inr (Nat.le_refl _)) _⟩
            rw [HTK.out]
            exact row_keptI HOWN1.out ((Kept.refl (fun i => i = wo.heap.size) w3).setCell (p := ⟨wo.heap.size, 2, none⟩) (.inl rfl) _) (fun b hb h => by have := (World.ownsRow.lt HOWN1.out b hb).1; omega)
          case measure => simp [intOf]; omega
        · obtain rfl : m = per := by omega
          have HNS : Hid ((beg1 m k).ns.take m = (beg1 m k).ns) := Lib.hid (List.take_of_length_le (by rw [beg1_ns]; omega))
          rw [HNS.out] at HIO HLN
          obtain ⟨c0, c1, c2, c3, c4⟩ := cells5 hrow
          have HKA := Lib.hid (HKW.out.alloc (.cells #[.int .i64 (k : Int), .int .u64 1, .slice qb m qd, .bool false, .int .i64 0] 84))
          have HKO := Lib.hid (HO.out.kept HKA.out (fun _ _ h => h))
          have HBB : Hid ((wr.alloc (.cells #[.int .i64 (k : Int), .int .u64 1, .slice qb m qd, .bool false, .int .i64 0] 84)).heap[wr.heap.size]? = some (.cells #[.int .i64 (beg1 m k).ch, .int .u64 (beg1 m k).ep, .slice qb m qd, .bool (beg1 m k).fr, .int .i64 (beg1 m k).jn] 84 (0, 0))) := Lib.hid (heap_alloc_new wr _)
          have HSZ : Hid (w.heap.size ≤ (wr.alloc (.cells #[.int .i64 (k : Int), .int .u64 1, .slice qb m qd, .bool false, .int .i64 0] 84)).heap.size) := Lib.hid (by have := HK.out.size; simp; omega)
          clear hrow
          go_wp2_with (at_builtin; refine wpList_append_kc _ rfl (.tmp 45) (.tmp 47) rfl w.heap.size (.slice qa ps.length qc) ps rfl HKO.out wr.heap.size (beg1 m k) (.slice qb m qd) rfl HBB.out rfl (by have := HPL.out; omega) HSZ.out ?_; intro a1 e1 w3 hown1 hg1 hat1; have HOWN1 := Lib.hid hown1; have HG1 := Lib.hid hg1; have HAT1 := Lib.hid hat1; clear hown1 hg1 hat1)
          refine ⟨⟨k + 1, ps ++ [(beg1 m k, .slice qb m qd)], by go_num, by omega, ?_, ?_, ?_, ?_, ?_⟩, by simp [intOf]; omega⟩
          · rw [Nat.add_mul, ← HKP.out, Nat.one_mul]; go_num
          · rw [List.map_append, HMAP.out, List.range_succ, List.map_append]; rfl
          · exact HOWN1.out
          · have hks : Kept (fun b => (Value.slice qa ps.length qc).ownBlock = some b) wo w3 := (HKA.out.mono (fun _ _ h => absurd h (fun h => h))).grown HG1.out (fun b hb => .inl hb)
            have hks2 : Kept (fun b => (Value.slice qa ps.length qc).ownBlock = some b) wr w3 := ((Kept.refl _ wr).alloc _).grown HG1.out (fun b hb => .inl hb)
            have hlo : ∀ b, (Value.slice qa ps.length qc).ownBlock = some b → b < wo.heap.size := fun b hb => (World.ownsRow.lt HO.out b hb).2
            have hnw : ∀ b, b < wr.heap.size → (Value.slice qa ps.length qc).ownBlock ≠ some b → (Value.slice a1 (ps.length + 1) e1).ownBlock ≠ some b := fun b hb hne he => by
              rcases HAT1.out with h | h
              · exact hne (h ▸ he)
              · rw [h] at he
                injection he with he
                have : (wr.alloc (.cells #[.int .i64 (k : Int), .int .u64 1, .slice qb m qd, .bool false, .int .i64 0] 84)).heap.size = wr.heap.size + 1 := by simp
                omega
            intro p hp
            rcases List.mem_append.1 hp with hp | hp
            · have hz := HKW.out.size
              exact (((HN.out p hp).mono (G := fun b => (w.heap.size ≤ b ∧ (Value.slice a1 (ps.length + 1) e1).ownBlock ≠ some b) ∧ (Value.slice qa ps.length qc).ownBlock ≠ some b) (fun b hb h => ⟨⟨h.1, hnw b (by omega) h.2⟩, h.2⟩)).kept hks (fun b _ h => h.2)).mono (fun _ _ h => h.1)
            · obtain rfl : p = (beg1 m k, .slice qb m qd) := by simpa using hp
              have hz := HK.out.size
              refine ((HIO.out.nsl (F := fun b => (w.heap.size ≤ b ∧ (Value.slice a1 (ps.length + 1) e1).ownBlock ≠ some b) ∧ (Value.slice qa ps.length qc).ownBlock ≠ some b) (fun b hb => ?_)).kept hks2 (fun b _ h => h.2)).mono (fun _ _ h => h.1)
              have hbb := World.ownsRow.lt HIO.out b hb
              have hne : (Value.slice qa ps.length qc).ownBlock ≠ some b := fun h => by have := hlo b h; omega
              exact ⟨⟨by omega, hnw b hbb.2 hne⟩, hne⟩
          · exact (HK.out.trans HKA.out (fun _ _ h => h)).grown HG1.out (fun b hb => .inr (World.ownsRow.lt HO.out b hb).1)
    · obtain rfl : k = chains := by omega
      have h24 : decide (24 < (kp : Int)) = false := decide_eq_false (by omega)
      have hcf : CfsAt wr (fun b => w.heap.size ≤ b) (.slice qa ps.length qc) (ps.map Prod.fst) := HO.out.cfs (fun b hb => (World.ownsRow.lt HO.out b hb).1) (fun p hp => by
        have hp1 : p.1 ∈ (List.range k).map (beg1 per) := HMAP.out ▸ List.mem_map_of_mem hp
        obtain ⟨j, _, hj⟩ := List.mem_map.1 hp1
        refine ⟨(HN.out p hp).mono (fun _ _ h => h.1), ?_⟩
        rw [← hj]
        exact ⟨by show (0 : Int) ≤ 1; omega, by show (1 : Int) ≤ topE; unfold topE; omega, by rw [beg1_ns]; omega⟩)
      rw [HMAP.out] at hcf
      have HC := Lib.hid hcf
      clear hcf
      go_wp2
      go_ret2
      exact ⟨_, (by rw [HBX.out.2] <;> rfl), (by rw [HBX.out.1]; exact HC.out), HK.out⟩
end Go.Proofs.Ytidhaofojcdbaaa
namespace Go.Proofs.Ytidhaofojcdbaaa
open Go.RowKit
set_option linter.unusedVariables false
set_option linter.unusedSimpArgs false

theorem RBegin_any (chains per : Int) (w : World) : Calls Try.prog 30 #[.int .i64 chains, .int .i64 per] w (BegE chains per w) := by
  cases h : begB chains per with
  | false => exact RBegin_bad chains per w h
  | true =>
    have hb : 1 ≤ chains ∧ chains ≤ 4 ∧ 1 ≤ per ∧ per ≤ 5 := of_decide_eq_true h
    obtain ⟨c, rfl⟩ := Int.eq_ofNat_of_zero_le (show 0 ≤ chains by omega)
    obtain ⟨p, rfl⟩ := Int.eq_ofNat_of_zero_le (show 0 ≤ per by omega)
    exact RBegin_good c p w (by omega) (by omega) (by omega) (by omega)
theorem set_some {c : Cf} (h : Rgt c) : ∃ x, x ∈ c.set := by
  rw [set_rgt h]
  obtain ⟨r1, r2, r3, r4, r5, r6, r7⟩ := h
  cases hf : c.fr with
  | false =>
    rw [if_neg (by simp)]
    exact ⟨_, List.getElem_mem (n := 0) (by omega)⟩
  | true =>
    have := (r6 hf).1
    rw [if_pos rfl]
    exact ⟨_, List.getElem_mem (n := 0) (by rw [List.length_take]; omega)⟩
/-- What one command does, chain by chain. -/
structure Stp (l l' : List Cf) (ok : Bool) (k ch : Int) : Prop where
  len : l'.length = l.length
  all : AllC l'
  moved : ∀ c, c < l.length → ok = true → k ≠ 0 → ch = (c : Int) → (nthC l' c).ep = (nthC l c).ep + 1 ∧ (nthC l c).ep ≠ topE
  stays : ∀ c, c < l.length → ¬ (ok = true ∧ k ≠ 0 ∧ ch = (c : Int)) → nthC l' c = nthC l c
  meet : ∀ c, c < l.length → meetB (nthC l c).set (nthC l' c).set = true
  ord : ∀ c, c < l.length → Ordd (nthC l c).ns (nthC l' c).ns
theorem stp_same {l : List Cf} {ok : Bool} {k ch : Int} (hA : AllC l) (hno : ∀ c : Nat, c < l.length → ¬ (ok = true ∧ k ≠ 0 ∧ ch = (c : Int))) : Stp l l ok k ch where
  len := rfl
  all := hA
  moved := fun c hc h1 h2 h3 => absurd ⟨h1, h2, h3⟩ (hno c hc)
  stays := fun _ _ _ => rfl
  meet := fun c hc => by
    obtain ⟨x, hx⟩ := set_some (hA.2.2 c hc).1
    exact meet_of hx hx
  ord := fun c _ => Ordd.refl _
theorem stp_of {l : List Cf} {e0 k ch ep nd : Int} (hA : AllC l) (hx : Chk k ch ep nd e0) (hbd : ∀ j, j < l.length → (nthC l j).ep ≤ topE) : Stp l (doC l e0 k ch ep nd) (decide (canC l e0 k ch ep nd = 0)) k ch := by
  by_cases hc : canC l e0 k ch ep nd = 0
  · obtain ⟨_, rfl, hk⟩ := can_ok hc
    have hv := Chk.ok.1 hx
    by_cases k0 : k = 0
    · subst k0
      rw [doC_zero]
      exact stp_same hA (fun c _ h => h.2.1 rfl)
    · rcases hk with hk | ⟨_, h1, h2, h3, h4⟩
      · exact absurd hk k0
      rw [doC_yes hc k0]
      unfold Vld at hv
      have hch0 : 0 ≤ ch := by omega
      have hk1 : 1 ≤ k := by unfold Chk at hx; omega
      have hk4 : k ≤ 4 := by unfold Chk at hx; omega
      have hn1 : 1 ≤ nd := by omega
      have hn2 : nd ≤ 24 := by omega
      obtain ⟨i, rfl⟩ := Int.eq_ofNat_of_zero_le hch0
      have hi : i < l.length := by omega
      obtain ⟨ha, hg⟩ := do_all hA hk1 hk4 hch0 h1 hn1 hn2 h3 h4 (hbd _ (by rw [Int.toNat_natCast]; exact hi))
      rw [Int.toNat_natCast] at *
      have hat : nthC (l.set i (madeC (nthC l i) k nd)) i = madeC (nthC l i) k nd := nthC_sets hi _
      have hfar : ∀ c, c ≠ i → nthC (l.set i (madeC (nthC l i) k nd)) c = nthC l c := fun c hne => by rw [nthC_set hi, if_neg hne]
      refine ⟨by simp, ha, fun c hcl _ _ he => ?_, fun c hcl hno => ?_, fun c hcl => ?_, fun c hcl => ?_⟩
      · obtain rfl : i = c := by omega
        rw [hat]
        exact ⟨hg.ep, h4⟩
      · refine hfar c (fun e => ?_)
        subst e
        exact hno ⟨decide_eq_true hc, k0, rfl⟩
      · by_cases e : c = i
        · subst e
          rw [hat]
          obtain ⟨x, x1, x2⟩ := hg.set
          exact meet_of x1 x2
        · rw [hfar c e]
          obtain ⟨x, hx⟩ := set_some (hA.2.2 c hcl).1
          exact meet_of hx hx
      · by_cases e : c = i
        · subst e
          rw [hat]
          exact hg.ns
        · rw [hfar c e]
          exact Ordd.refl _
  · rw [doC_no hc]
    exact stp_same hA (fun c _ h => hc (of_decide_eq_true h.1))
end Go.Proofs.Ytidhaofojcdbaaa
