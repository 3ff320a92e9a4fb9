/-
  Package conf: Do.
-/
import Derived.Test.YtbdenjmnohhhiaaDoorCnfAE
namespace Go.Proofs.YtbdenjmnohhhiaaDoor
open Go.RowKit
set_option linter.unusedVariables false

theorem do_1 (B r cap : Nat) (l : List Cf) (us : Nat → Value) (j : Nat) (nd : Int) (w : World) (hr : RowC w r cap l us) (ho : OwnC B w l us) (hB : B ≤ r) (hBw : B ≤ w.heap.size) (hj : j < l.length) (h1 : 1 ≤ (nthC l j).ns.length) (h5 : (nthC l j).ns.length ≤ 5) :
    Calls Tryd.prog 58 #[.pointer (some ⟨r, j * 5, none⟩), .int .i64 nd] w (DoEnd B r cap (l.set j (turnC (nthC l j) 1 nd)) w) := by
  by_cases hjn : (nthC l j).jn = nd
  · exact do_remove_join B r cap l us j nd w hr ho hB hj hjn
  · exact do_remove_node B r cap l us j nd w hr ho hB hBw hj hjn h1 h5
theorem do_2 (B r cap : Nat) (l : List Cf) (us : Nat → Value) (j : Nat) (nd : Int) (w : World) (hr : RowC w r cap l us) (ho : OwnC B w l us) (hB : B ≤ r) (hBw : B ≤ w.heap.size) (hj : j < l.length) (h1 : 1 ≤ (nthC l j).ns.length) (h5 : (nthC l j).ns.length ≤ 5) :
    Calls Tryd.prog 60 #[.pointer (some ⟨r, j * 5, none⟩), .int .i64 nd] w (DoEnd B r cap (l.set j (turnC (nthC l j) 2 nd)) w) := do_append B r cap l us j nd w hr ho hB hj
theorem do_3 (B r cap : Nat) (l : List Cf) (us : Nat → Value) (j : Nat) (nd : Int) (w : World) (hr : RowC w r cap l us) (ho : OwnC B w l us) (hB : B ≤ r) (hBw : B ≤ w.heap.size) (hj : j < l.length) (h1 : 1 ≤ (nthC l j).ns.length) (h5 : (nthC l j).ns.length ≤ 5) :
    Calls Tryd.prog 62 #[.pointer (some ⟨r, j * 5, none⟩), .int .i64 nd] w (DoEnd B r cap (l.set j (turnC (nthC l j) 3 nd)) w) := do_promote B r cap l us j nd w hr ho hB hBw hj h5
theorem do_4 (B r cap : Nat) (l : List Cf) (us : Nat → Value) (j : Nat) (nd : Int) (w : World) (hr : RowC w r cap l us) (ho : OwnC B w l us) (hB : B ≤ r) (hBw : B ≤ w.heap.size) (hj : j < l.length) (h1 : 1 ≤ (nthC l j).ns.length) (h5 : (nthC l j).ns.length ≤ 5) :
    Calls Tryd.prog 64 #[.pointer (some ⟨r, j * 5, none⟩), .int .i64 nd] w (DoEnd B r cap (l.set j (turnC (nthC l j) 4 nd)) w) := do_settle B r cap l us j nd w hr ho hB hj
theorem made_turn (c : Cf) (k nd : Int) : madeC c k nd = { turnC c k nd with ep := c.ep + 1 } := by
  unfold turnC madeC
  split
  · split <;> rfl
  · split
    · rfl
    · split <;> rfl
theorem turn_ep (c : Cf) (k nd : Int) : (turnC c k nd).ep = c.ep := rfl
/-- What Do tells. -/
def DoE (l' : List Cf) (ok : Bool) (w : World) (e : Ending) (w' : World) : Prop := ∃ v, e = .returned (.tuple #[v, .bool ok]) ∧ CfsAt w' (fun k => w.heap.size ≤ k) v l' ∧ Kept NoB w w'
theorem copy_cfs {l : List Cf} {w0 w w' : World} {e : Ending} (h : CopyEnd l w e w') (h0 : w0.heap.size ≤ w.heap.size) : ∃ a cap, e = .returned (.slice a l.length cap) ∧ CfsAt w' (fun k => w0.heap.size ≤ k) (.slice a l.length cap) l ∧ Kept NoB w w' := by
  obtain ⟨hk, ⟨rfl, a, c, rfl, hc, hn⟩ | ⟨r, cap, us, rfl, hr, hrow, hown⟩⟩ := h
  · exact ⟨a, c, rfl, ⟨a, c, rfl, Nat.zero_le _, hc, hn, fun h => absurd h (by simp)⟩, hk⟩
  · exact ⟨_, cap, rfl, (hrow.cfs hown.nodes hr).mono (fun k _ hk => Nat.le_trans h0 hk), hk⟩
theorem copy_ne {l : List Cf} {w w' : World} {e : Ending} (h : CopyEnd l w e w') (hl : 0 < l.length) : ∃ r cap us, e = .returned (.slice (some ⟨r, 0, none⟩) l.length cap) ∧ w.heap.size ≤ r ∧ RowC w' r cap l us ∧ OwnC w.heap.size w' l us ∧ Kept NoB w w' := by
  obtain ⟨hk, ⟨rfl, _⟩ | ⟨r, cap, us, rfl, hr, hrow, hown⟩⟩ := h
  · exact absurd hl (by simp)
  · exact ⟨r, cap, us, rfl, hr, hrow, hown, hk⟩
/-- The last two steps: the epoch rises; what lies there then. -/
theorem do_end (B r cap : Nat) (l : List Cf) (us : Nat → Value) (j : Nat) (k nd : Int) (w W : World) (hj : j < l.length) (hr : RowC W r cap (l.set j (turnC (nthC l j) k nd)) us) (ho : OwnC B W (l.set j (turnC (nthC l j) k nd)) us) (hB : B ≤ r) (hwB : w.heap.size ≤ B) (hk : Kept (fun k => B ≤ k) w W) (he0 : 0 ≤ (nthC l j).ep) (he : (nthC l j).ep ≠ topE) (he2 : (nthC l j).ep ≤ topE) :
    W.cell? ⟨r, j * 5 + 1, none⟩ = some (.int .u64 (nthC l j).ep) ∧ W.frozen? ⟨r, j * 5 + 1, none⟩ = false ∧
    CfsAt (W.setCell ⟨r, j * 5 + 1, none⟩ (.int .u64 ((nthC l j).ep + 1))) (fun k => w.heap.size ≤ k) (.slice (some ⟨r, 0, none⟩) l.length cap) (l.set j (madeC (nthC l j) k nd)) ∧ Kept NoB w (W.setCell ⟨r, j * 5 + 1, none⟩ (.int .u64 ((nthC l j).ep + 1))) := by
  have hj1 : j < (l.set j (turnC (nthC l j) k nd)).length := by rw [List.length_set]; exact hj
  obtain ⟨c1, f1⟩ := hr.cell (m := j * 5 + 1) (by omega)
  rw [cellC1, nthC_sets hj, turn_ep] at c1
  refine ⟨c1, f1, ?_, ?_⟩
  · have h1 := hr.setEp hj1 ((nthC l j).ep + 1)
    have h2 := ho.store hr (o := j * 5 + 1) hj1 { nthC (l.set j (turnC (nthC l j) k nd)) j with ep := (nthC l j).ep + 1 } (.int .u64 ((nthC l j).ep + 1)) rfl ⟨by show 0 ≤ (nthC l j).ep + 1; omega, by show (nthC l j).ep + 1 ≤ topE; omega⟩
    have h3 := h1.cfs (h2.nodes) hB
    rw [nthC_sets hj, set_set, ← made_turn, List.length_set] at h3
    exact h3.mono (fun k _ hk => Nat.le_trans hwB hk)
  · have hb := (hk.setCell (p := ⟨r, j * 5 + 1, none⟩) (.inl hB) (.int .u64 ((nthC l j).ep + 1)))
    exact ⟨hb.os, hb.tape, hb.output, hb.size, fun i hi _ => hb.block i hi (fun hB' => by have hB' : B ≤ i := hB'; omega)⟩
set_option maxRecDepth 100000 in
set_option maxHeartbeats 4000000 in
theorem Do_1 (v : Value) (l : List Cf) (j : Nat) (ep nd : Int) (F : Nat → Prop) (w : World) (h : CfsAt w F v l) (hA : AllC l) (hx : Chk 1 j ep nd 0) (hep : 0 ≤ ep) (hj : j < l.length) (hcan : canC l 0 1 j ep nd = 0) :
    Calls Tryd.prog 19 #[v, .agg #[.int .i64 1, .int .i64 j, .int .u64 ep, .int .i64 nd]] w (DoE (l.set j (madeC (nthC l j) 1 nd)) true w) := by
  obtain ⟨a, cap, rfl, _⟩ := id h
  have hl4 : l.length ≤ 4 := hA.2.1
  have hl : l.length ≤ 1000 := by omega
  have ejn : ((j : Int)).toNat = j := by omega
  have hne : (nthC l j).ep ≠ topE := by
    rcases (can_ok hcan).2.2 with h0 | h0
    · exact absurd h0 (by decide)
    · have := h0.2.2.2.2; rwa [ejn] at this
  obtain ⟨hb0, hbt⟩ : 0 ≤ (nthC l j).ep ∧ (nthC l j).ep ≤ topE := by
    obtain ⟨_, _, _, _, _, _, _, _, _, _, _, _, hb0, hbt, _⟩ := h.at_ hj
    exact ⟨hb0, hbt⟩
  have hn1 : 1 ≤ (nthC l j).ns.length := (hA.2.2 j hj).1.2.2.2.1
  have hn5 : (nthC l j).ns.length ≤ 5 := (hA.2.2 j hj).1.2.2.2.2.1
  have HB := Lib.hid (heap_alloc_new w (.cells #[.int .i64 1, .int .i64 (j : Int), .int .u64 ep, .int .i64 nd] 56))
  have HK := Lib.hid ((Kept.refl NoB w).alloc (.cells #[.int .i64 1, .int .i64 (j : Int), .int .u64 ep, .int .i64 nd] 56))
  have HZ : Hid ((w.alloc (.cells #[.int .i64 1, .int .i64 (j : Int), .int .u64 ep, .int .i64 nd] 56)).heap.size = w.heap.size + 1) := Lib.hid (by simp)
  have HCP : Hid (Calls Tryd.prog 36 #[.slice a l.length cap] (w.alloc (.cells #[.int .i64 1, .int .i64 (j : Int), .int .u64 ep, .int .i64 nd] 56)) fun e w' => ∃ r rc us, e = .returned (.slice (some ⟨r, 0, none⟩) l.length rc) ∧ (w.alloc (.cells #[.int .i64 1, .int .i64 (j : Int), .int .u64 ep, .int .i64 nd] 56)).heap.size ≤ r ∧ RowC w' r rc l us ∧ OwnC (w.alloc (.cells #[.int .i64 1, .int .i64 (j : Int), .int .u64 ep, .int .i64 nd] 56)).heap.size w' l us ∧ Kept NoB (w.alloc (.cells #[.int .i64 1, .int .i64 (j : Int), .int .u64 ep, .int .i64 nd] 56)) w') :=
    Lib.hid ((Copy_any _ l _ F (h.kept HK.out (fun _ _ _ h => h)) hl).mono fun e w' hc => copy_ne hc (by omega))
  have HCA : Hid (∀ w', Kept NoB w w' → Calls Tryd.prog 37 #[.slice a l.length cap, .agg #[.int .i64 1, .int .i64 (j : Int), .int .u64 ep, .int .i64 nd]] w' (IntE 0 w')) := Lib.hid (fun w' hk => by
    have := Can_any _ l 0 1 j ep nd F w' (h.kept hk (fun _ _ _ h => h)) hx hep
    rwa [hcan] at this)
  have HRU := Lib.hid (fun w => rule1 w)
  have hfl := fun (f g : FuncId) (w : World) => rule_fld1 f g w
  have hk1 : (j : Int) < (l.length : Int) := by omega
  have hk0 : (0 : Int) ≤ (j : Int) := by omega
  have HNE := Lib.hid hne
  have HB0 := Lib.hid hb0
  have HBT := Lib.hid hbt
  clear h hx hep hcan hne hb0 hbt ejn
  go_enter Tryd.func19, Tryd.ntmps19
  go_wp2_with fail
  refine HCP.out.mono ?_
  rintro e w1 ⟨r, rc, us, rfl, hr, hrow, hown, hk⟩
  have HR := Lib.hid (Nat.le_trans (Nat.le_of_eq HZ.out.symm) hr)
  have HROW := Lib.hid hrow
  have HOWN := Lib.hid hown
  have HK1 := Lib.hid (HK.out.trans hk (fun _ _ h => h))
  have HB1 := Lib.hid (hk.heap (fun h => h) HB.out)
  obtain ⟨c0, c1, c2, c3⟩ := cells4c HB1.out
  have hrc : l.length ≤ rc := by obtain ⟨_, _, _, h3, _⟩ := hrow; exact h3
  clear hk hr hrow hown
  go_wp2_with fail
  refine (HCA.out _ HK1.out).mono ?_
  rintro e w2 ⟨rfl, hk⟩
  have HK2 := Lib.hid (HK1.out.trans hk (fun _ _ h => h))
  have HB2 := Lib.hid (hk.heap (fun h => h) HB1.out)
  have HROW2 := Lib.hid (HROW.out.kept hk (fun h => h))
  have HOWN2 := Lib.hid (HOWN.out.kept hk (fun _ _ _ _ h => h))
  clear hk c0 c1 c2 c3
  obtain ⟨c0, c1, c2, c3⟩ := cells4c HB2.out
  have HBZ : Hid (w.heap.size + 1 ≤ w2.heap.size) := Lib.hid (heap_lt HB2.out)
  go_wp2_with fail
  have HKc := Lib.hid (Kept.refl (fun k => w.heap.size + 1 ≤ k) w2)
  have HPR : Hid (∀ W, Kept NoB w2 W → Calls Tryd.prog 58 #[.pointer (some ⟨r, j * 5, none⟩), .int .i64 nd] W (DoEnd (w.heap.size + 1) r rc (l.set j (turnC (nthC l j) 1 nd)) W)) := Lib.hid (fun W hk =>
    do_1 (w.heap.size + 1) r rc l us j nd W (HROW2.out.kept hk (fun h => h)) (by have := HOWN2.out.kept hk (fun _ _ _ _ h => h); rw [HZ.out] at this; exact this) HR.out (Nat.le_trans HBZ.out hk.size) hj hn1 hn5)
  have HST : Hid (∃ us', RowC w2 r rc (l.set j (turnC (nthC l j) 1 nd)) us' ∧ OwnC (w.heap.size + 1) w2 (l.set j (turnC (nthC l j) 1 nd)) us' ∨ True) := Lib.hid ⟨us, .inr trivial⟩
  clear HST
  go_region_held3 (fun w' => w'.cell? ⟨w.heap.size, 0, none⟩ = some (.int .i64 1) ∧ w'.cell? ⟨w.heap.size, 3, none⟩ = some (.int .i64 nd))
    (first
      | exact ⟨cell_drew c0, cell_drew c3⟩
      | exact ⟨HKc.out.cell (p := ⟨w.heap.size, 0, none⟩) (by show ¬ w.heap.size + 1 ≤ w.heap.size; omega) c0, HKc.out.cell (p := ⟨w.heap.size, 3, none⟩) (by show ¬ w.heap.size + 1 ≤ w.heap.size; omega) c3⟩
      | go_keep)
    (first
      | (go_at_call 38; refine (HRU.out _).mono ?_; rintro e w4 ⟨rfl, hk4⟩; have HKN := Lib.hid ((Kept.refl NoB w2).drew.trans hk4 (fun _ _ h => h)); replace HKc := Lib.hid (HKc.out.drew.trans hk4 (fun _ _ h => h.elim)); clear hk4)
      | (go_at_call 58; refine (HPR.out _ HKN.out).mono ?_; rintro e w5 ⟨rfl, hex, hk5⟩; have HEX := Lib.hid hex; replace HKc := Lib.hid (HKc.out.trans hk5 (fun _ _ h => h)); clear hex hk5))
  all_goals
    obtain ⟨us5, hr5, ho5⟩ := HEX.out
    have hend := do_end (w.heap.size + 1) r rc l us5 j 1 nd w _ hj hr5 ho5 HR.out (by omega) ((HK2.out.mono (fun _ _ h => h.elim)).trans HKc.out (fun _ _ h => h)) HB0.out HNE.out HBT.out
    obtain ⟨q1, g1, hcfs, hkf⟩ := hend
    have HCF := Lib.hid hcfs
    have HKF := Lib.hid hkf
    have he0 := HB0.out
    have he1 : (nthC l j).ep ≤ 18446744073709551614 := by have := HNE.out; have := HBT.out; unfold topE at *; omega
    clear hcfs hkf hr5 ho5 c0 c1 c2 c3
    generalize (nthC l j).ep = E at q1 he0 he1 HCF HKF
    go_wp2
    go_ret2
    exact ⟨_, rfl, HCF.out, HKF.out⟩
set_option maxRecDepth 100000 in
set_option maxHeartbeats 4000000 in
theorem Do_2 (v : Value) (l : List Cf) (j : Nat) (ep nd : Int) (F : Nat → Prop) (w : World) (h : CfsAt w F v l) (hA : AllC l) (hx : Chk 2 j ep nd 0) (hep : 0 ≤ ep) (hj : j < l.length) (hcan : canC l 0 2 j ep nd = 0) :
    Calls Tryd.prog 19 #[v, .agg #[.int .i64 2, .int .i64 j, .int .u64 ep, .int .i64 nd]] w (DoE (l.set j (madeC (nthC l j) 2 nd)) true w) := by
  obtain ⟨a, cap, rfl, _⟩ := id h
  have hl4 : l.length ≤ 4 := hA.2.1
  have hl : l.length ≤ 1000 := by omega
  have ejn : ((j : Int)).toNat = j := by omega
  have hne : (nthC l j).ep ≠ topE := by
    rcases (can_ok hcan).2.2 with h0 | h0
    · exact absurd h0 (by decide)
    · have := h0.2.2.2.2; rwa [ejn] at this
  obtain ⟨hb0, hbt⟩ : 0 ≤ (nthC l j).ep ∧ (nthC l j).ep ≤ topE := by
    obtain ⟨_, _, _, _, _, _, _, _, _, _, _, _, hb0, hbt, _⟩ := h.at_ hj
    exact ⟨hb0, hbt⟩
  have hn1 : 1 ≤ (nthC l j).ns.length := (hA.2.2 j hj).1.2.2.2.1
  have hn5 : (nthC l j).ns.length ≤ 5 := (hA.2.2 j hj).1.2.2.2.2.1
  have HB := Lib.hid (heap_alloc_new w (.cells #[.int .i64 2, .int .i64 (j : Int), .int .u64 ep, .int .i64 nd] 56))
  have HK := Lib.hid ((Kept.refl NoB w).alloc (.cells #[.int .i64 2, .int .i64 (j : Int), .int .u64 ep, .int .i64 nd] 56))
  have HZ : Hid ((w.alloc (.cells #[.int .i64 2, .int .i64 (j : Int), .int .u64 ep, .int .i64 nd] 56)).heap.size = w.heap.size + 1) := Lib.hid (by simp)
  have HCP : Hid (Calls Tryd.prog 36 #[.slice a l.length cap] (w.alloc (.cells #[.int .i64 2, .int .i64 (j : Int), .int .u64 ep, .int .i64 nd] 56)) fun e w' => ∃ r rc us, e = .returned (.slice (some ⟨r, 0, none⟩) l.length rc) ∧ (w.alloc (.cells #[.int .i64 2, .int .i64 (j : Int), .int .u64 ep, .int .i64 nd] 56)).heap.size ≤ r ∧ RowC w' r rc l us ∧ OwnC (w.alloc (.cells #[.int .i64 2, .int .i64 (j : Int), .int .u64 ep, .int .i64 nd] 56)).heap.size w' l us ∧ Kept NoB (w.alloc (.cells #[.int .i64 2, .int .i64 (j : Int), .int .u64 ep, .int .i64 nd] 56)) w') :=
    Lib.hid ((Copy_any _ l _ F (h.kept HK.out (fun _ _ _ h => h)) hl).mono fun e w' hc => copy_ne hc (by omega))
  have HCA : Hid (∀ w', Kept NoB w w' → Calls Tryd.prog 37 #[.slice a l.length cap, .agg #[.int .i64 2, .int .i64 (j : Int), .int .u64 ep, .int .i64 nd]] w' (IntE 0 w')) := Lib.hid (fun w' hk => by
    have := Can_any _ l 0 2 j ep nd F w' (h.kept hk (fun _ _ _ h => h)) hx hep
    rwa [hcan] at this)
  have HRU := Lib.hid (fun w => rule2 w)
  have hfl := fun (f g : FuncId) (w : World) => rule_fld1 f g w
  have hk1 : (j : Int) < (l.length : Int) := by omega
  have hk0 : (0 : Int) ≤ (j : Int) := by omega
  have HNE := Lib.hid hne
  have HB0 := Lib.hid hb0
  have HBT := Lib.hid hbt
  clear h hx hep hcan hne hb0 hbt ejn
  go_enter Tryd.func19, Tryd.ntmps19
  go_wp2_with fail
  refine HCP.out.mono ?_
  rintro e w1 ⟨r, rc, us, rfl, hr, hrow, hown, hk⟩
  have HR := Lib.hid (Nat.le_trans (Nat.le_of_eq HZ.out.symm) hr)
  have HROW := Lib.hid hrow
  have HOWN := Lib.hid hown
  have HK1 := Lib.hid (HK.out.trans hk (fun _ _ h => h))
  have HB1 := Lib.hid (hk.heap (fun h => h) HB.out)
  obtain ⟨c0, c1, c2, c3⟩ := cells4c HB1.out
  have hrc : l.length ≤ rc := by obtain ⟨_, _, _, h3, _⟩ := hrow; exact h3
  clear hk hr hrow hown
  go_wp2_with fail
  refine (HCA.out _ HK1.out).mono ?_
  rintro e w2 ⟨rfl, hk⟩
  have HK2 := Lib.hid (HK1.out.trans hk (fun _ _ h => h))
  have HB2 := Lib.hid (hk.heap (fun h => h) HB1.out)
  have HROW2 := Lib.hid (HROW.out.kept hk (fun h => h))
  have HOWN2 := Lib.hid (HOWN.out.kept hk (fun _ _ _ _ h => h))
  clear hk c0 c1 c2 c3
  obtain ⟨c0, c1, c2, c3⟩ := cells4c HB2.out
  have HBZ : Hid (w.heap.size + 1 ≤ w2.heap.size) := Lib.hid (heap_lt HB2.out)
  go_wp2_with fail
  have HKc := Lib.hid (Kept.refl (fun k => w.heap.size + 1 ≤ k) w2)
  have HPR : Hid (∀ W, Kept NoB w2 W → Calls Tryd.prog 60 #[.pointer (some ⟨r, j * 5, none⟩), .int .i64 nd] W (DoEnd (w.heap.size + 1) r rc (l.set j (turnC (nthC l j) 2 nd)) W)) := Lib.hid (fun W hk =>
    do_2 (w.heap.size + 1) r rc l us j nd W (HROW2.out.kept hk (fun h => h)) (by have := HOWN2.out.kept hk (fun _ _ _ _ h => h); rw [HZ.out] at this; exact this) HR.out (Nat.le_trans HBZ.out hk.size) hj hn1 hn5)
  have HST : Hid (∃ us', RowC w2 r rc (l.set j (turnC (nthC l j) 2 nd)) us' ∧ OwnC (w.heap.size + 1) w2 (l.set j (turnC (nthC l j) 2 nd)) us' ∨ True) := Lib.hid ⟨us, .inr trivial⟩
  clear HST
  go_region_held3 (fun w' => w'.cell? ⟨w.heap.size, 0, none⟩ = some (.int .i64 2) ∧ w'.cell? ⟨w.heap.size, 3, none⟩ = some (.int .i64 nd))
    (first
      | exact ⟨cell_drew c0, cell_drew c3⟩
      | exact ⟨HKc.out.cell (p := ⟨w.heap.size, 0, none⟩) (by show ¬ w.heap.size + 1 ≤ w.heap.size; omega) c0, HKc.out.cell (p := ⟨w.heap.size, 3, none⟩) (by show ¬ w.heap.size + 1 ≤ w.heap.size; omega) c3⟩
      | go_keep)
    (first
      | (go_at_call 38; refine (HRU.out _).mono ?_; rintro e w4 ⟨rfl, hk4⟩; have HKN := Lib.hid ((Kept.refl NoB w2).drew.trans hk4 (fun _ _ h => h)); replace HKc := Lib.hid (HKc.out.drew.trans hk4 (fun _ _ h => h.elim)); clear hk4)
      | (go_at_call 60; refine (HPR.out _ HKN.out).mono ?_; rintro e w5 ⟨rfl, hex, hk5⟩; have HEX := Lib.hid hex; replace HKc := Lib.hid (HKc.out.trans hk5 (fun _ _ h => h)); clear hex hk5))
  all_goals
    obtain ⟨us5, hr5, ho5⟩ := HEX.out
    have hend := do_end (w.heap.size + 1) r rc l us5 j 2 nd w _ hj hr5 ho5 HR.out (by omega) ((HK2.out.mono (fun _ _ h => h.elim)).trans HKc.out (fun _ _ h => h)) HB0.out HNE.out HBT.out
    obtain ⟨q1, g1, hcfs, hkf⟩ := hend
    have HCF := Lib.hid hcfs
    have HKF := Lib.hid hkf
    have he0 := HB0.out
    have he1 : (nthC l j).ep ≤ 18446744073709551614 := by have := HNE.out; have := HBT.out; unfold topE at *; omega
    clear hcfs hkf hr5 ho5 c0 c1 c2 c3
    generalize (nthC l j).ep = E at q1 he0 he1 HCF HKF
    go_wp2
    go_ret2
    exact ⟨_, rfl, HCF.out, HKF.out⟩
set_option maxRecDepth 100000 in
set_option maxHeartbeats 4000000 in
theorem Do_3 (v : Value) (l : List Cf) (j : Nat) (ep nd : Int) (F : Nat → Prop) (w : World) (h : CfsAt w F v l) (hA : AllC l) (hx : Chk 3 j ep nd 0) (hep : 0 ≤ ep) (hj : j < l.length) (hcan : canC l 0 3 j ep nd = 0) :
    Calls Tryd.prog 19 #[v, .agg #[.int .i64 3, .int .i64 j, .int .u64 ep, .int .i64 nd]] w (DoE (l.set j (madeC (nthC l j) 3 nd)) true w) := by
  obtain ⟨a, cap, rfl, _⟩ := id h
  have hl4 : l.length ≤ 4 := hA.2.1
  have hl : l.length ≤ 1000 := by omega
  have ejn : ((j : Int)).toNat = j := by omega
  have hne : (nthC l j).ep ≠ topE := by
    rcases (can_ok hcan).2.2 with h0 | h0
    · exact absurd h0 (by decide)
    · have := h0.2.2.2.2; rwa [ejn] at this
  obtain ⟨hb0, hbt⟩ : 0 ≤ (nthC l j).ep ∧ (nthC l j).ep ≤ topE := by
    obtain ⟨_, _, _, _, _, _, _, _, _, _, _, _, hb0, hbt, _⟩ := h.at_ hj
    exact ⟨hb0, hbt⟩
  have hn1 : 1 ≤ (nthC l j).ns.length := (hA.2.2 j hj).1.2.2.2.1
  have hn5 : (nthC l j).ns.length ≤ 5 := (hA.2.2 j hj).1.2.2.2.2.1
  have HB := Lib.hid (heap_alloc_new w (.cells #[.int .i64 3, .int .i64 (j : Int), .int .u64 ep, .int .i64 nd] 56))
  have HK := Lib.hid ((Kept.refl NoB w).alloc (.cells #[.int .i64 3, .int .i64 (j : Int), .int .u64 ep, .int .i64 nd] 56))
  have HZ : Hid ((w.alloc (.cells #[.int .i64 3, .int .i64 (j : Int), .int .u64 ep, .int .i64 nd] 56)).heap.size = w.heap.size + 1) := Lib.hid (by simp)
  have HCP : Hid (Calls Tryd.prog 36 #[.slice a l.length cap] (w.alloc (.cells #[.int .i64 3, .int .i64 (j : Int), .int .u64 ep, .int .i64 nd] 56)) fun e w' => ∃ r rc us, e = .returned (.slice (some ⟨r, 0, none⟩) l.length rc) ∧ (w.alloc (.cells #[.int .i64 3, .int .i64 (j : Int), .int .u64 ep, .int .i64 nd] 56)).heap.size ≤ r ∧ RowC w' r rc l us ∧ OwnC (w.alloc (.cells #[.int .i64 3, .int .i64 (j : Int), .int .u64 ep, .int .i64 nd] 56)).heap.size w' l us ∧ Kept NoB (w.alloc (.cells #[.int .i64 3, .int .i64 (j : Int), .int .u64 ep, .int .i64 nd] 56)) w') :=
    Lib.hid ((Copy_any _ l _ F (h.kept HK.out (fun _ _ _ h => h)) hl).mono fun e w' hc => copy_ne hc (by omega))
  have HCA : Hid (∀ w', Kept NoB w w' → Calls Tryd.prog 37 #[.slice a l.length cap, .agg #[.int .i64 3, .int .i64 (j : Int), .int .u64 ep, .int .i64 nd]] w' (IntE 0 w')) := Lib.hid (fun w' hk => by
    have := Can_any _ l 0 3 j ep nd F w' (h.kept hk (fun _ _ _ h => h)) hx hep
    rwa [hcan] at this)
  have HRU := Lib.hid (fun w => rule3 w)
  have hfl := fun (f g : FuncId) (w : World) => rule_fld1 f g w
  have hk1 : (j : Int) < (l.length : Int) := by omega
  have hk0 : (0 : Int) ≤ (j : Int) := by omega
  have HNE := Lib.hid hne
  have HB0 := Lib.hid hb0
  have HBT := Lib.hid hbt
  clear h hx hep hcan hne hb0 hbt ejn
  go_enter Tryd.func19, Tryd.ntmps19
  go_wp2_with fail
  refine HCP.out.mono ?_
  rintro e w1 ⟨r, rc, us, rfl, hr, hrow, hown, hk⟩
  have HR := Lib.hid (Nat.le_trans (Nat.le_of_eq HZ.out.symm) hr)
  have HROW := Lib.hid hrow
  have HOWN := Lib.hid hown
  have HK1 := Lib.hid (HK.out.trans hk (fun _ _ h => h))
  have HB1 := Lib.hid (hk.heap (fun h => h) HB.out)
  obtain ⟨c0, c1, c2, c3⟩ := cells4c HB1.out
  have hrc : l.length ≤ rc := by obtain ⟨_, _, _, h3, _⟩ := hrow; exact h3
  clear hk hr hrow hown
  go_wp2_with fail
  refine (HCA.out _ HK1.out).mono ?_
  rintro e w2 ⟨rfl, hk⟩
  have HK2 := Lib.hid (HK1.out.trans hk (fun _ _ h => h))
  have HB2 := Lib.hid (hk.heap (fun h => h) HB1.out)
  have HROW2 := Lib.hid (HROW.out.kept hk (fun h => h))
  have HOWN2 := Lib.hid (HOWN.out.kept hk (fun _ _ _ _ h => h))
  clear hk c0 c1 c2 c3
  obtain ⟨c0, c1, c2, c3⟩ := cells4c HB2.out
  have HBZ : Hid (w.heap.size + 1 ≤ w2.heap.size) := Lib.hid (heap_lt HB2.out)
  go_wp2_with fail
  have HKc := Lib.hid (Kept.refl (fun k => w.heap.size + 1 ≤ k) w2)
  have HPR : Hid (∀ W, Kept NoB w2 W → Calls Tryd.prog 62 #[.pointer (some ⟨r, j * 5, none⟩), .int .i64 nd] W (DoEnd (w.heap.size + 1) r rc (l.set j (turnC (nthC l j) 3 nd)) W)) := Lib.hid (fun W hk =>
    do_3 (w.heap.size + 1) r rc l us j nd W (HROW2.out.kept hk (fun h => h)) (by have := HOWN2.out.kept hk (fun _ _ _ _ h => h); rw [HZ.out] at this; exact this) HR.out (Nat.le_trans HBZ.out hk.size) hj hn1 hn5)
  have HST : Hid (∃ us', RowC w2 r rc (l.set j (turnC (nthC l j) 3 nd)) us' ∧ OwnC (w.heap.size + 1) w2 (l.set j (turnC (nthC l j) 3 nd)) us' ∨ True) := Lib.hid ⟨us, .inr trivial⟩
  clear HST
  go_region_held3 (fun w' => w'.cell? ⟨w.heap.size, 0, none⟩ = some (.int .i64 3) ∧ w'.cell? ⟨w.heap.size, 3, none⟩ = some (.int .i64 nd))
    (first
      | exact ⟨cell_drew c0, cell_drew c3⟩
      | exact ⟨HKc.out.cell (p := ⟨w.heap.size, 0, none⟩) (by show ¬ w.heap.size + 1 ≤ w.heap.size; omega) c0, HKc.out.cell (p := ⟨w.heap.size, 3, none⟩) (by show ¬ w.heap.size + 1 ≤ w.heap.size; omega) c3⟩
      | go_keep)
    (first
      | (go_at_call 38; refine (HRU.out _).mono ?_; rintro e w4 ⟨rfl, hk4⟩; have HKN := Lib.hid ((Kept.refl NoB w2).drew.trans hk4 (fun _ _ h => h)); replace HKc := Lib.hid (HKc.out.drew.trans hk4 (fun _ _ h => h.elim)); clear hk4)
      | (go_at_call 62; refine (HPR.out _ HKN.out).mono ?_; rintro e w5 ⟨rfl, hex, hk5⟩; have HEX := Lib.hid hex; replace HKc := Lib.hid (HKc.out.trans hk5 (fun _ _ h => h)); clear hex hk5))
  all_goals
    obtain ⟨us5, hr5, ho5⟩ := HEX.out
    have hend := do_end (w.heap.size + 1) r rc l us5 j 3 nd w _ hj hr5 ho5 HR.out (by omega) ((HK2.out.mono (fun _ _ h => h.elim)).trans HKc.out (fun _ _ h => h)) HB0.out HNE.out HBT.out
    obtain ⟨q1, g1, hcfs, hkf⟩ := hend
    have HCF := Lib.hid hcfs
    have HKF := Lib.hid hkf
    have he0 := HB0.out
    have he1 : (nthC l j).ep ≤ 18446744073709551614 := by have := HNE.out; have := HBT.out; unfold topE at *; omega
    clear hcfs hkf hr5 ho5 c0 c1 c2 c3
    generalize (nthC l j).ep = E at q1 he0 he1 HCF HKF
    go_wp2
    go_ret2
    exact ⟨_, rfl, HCF.out, HKF.out⟩
set_option maxRecDepth 100000 in
set_option maxHeartbeats 4000000 in
theorem Do_4 (v : Value) (l : List Cf) (j : Nat) (ep nd : Int) (F : Nat → Prop) (w : World) (h : CfsAt w F v l) (hA : AllC l) (hx : Chk 4 j ep nd 0) (hep : 0 ≤ ep) (hj : j < l.length) (hcan : canC l 0 4 j ep nd = 0) :
    Calls Tryd.prog 19 #[v, .agg #[.int .i64 4, .int .i64 j, .int .u64 ep, .int .i64 nd]] w (DoE (l.set j (madeC (nthC l j) 4 nd)) true w) := by
  obtain ⟨a, cap, rfl, _⟩ := id h
  have hl4 : l.length ≤ 4 := hA.2.1
  have hl : l.length ≤ 1000 := by omega
  have ejn : ((j : Int)).toNat = j := by omega
  have hne : (nthC l j).ep ≠ topE := by
    rcases (can_ok hcan).2.2 with h0 | h0
    · exact absurd h0 (by decide)
    · have := h0.2.2.2.2; rwa [ejn] at this
  obtain ⟨hb0, hbt⟩ : 0 ≤ (nthC l j).ep ∧ (nthC l j).ep ≤ topE := by
    obtain ⟨_, _, _, _, _, _, _, _, _, _, _, _, hb0, hbt, _⟩ := h.at_ hj
    exact ⟨hb0, hbt⟩
  have hn1 : 1 ≤ (nthC l j).ns.length := (hA.2.2 j hj).1.2.2.2.1
  have hn5 : (nthC l j).ns.length ≤ 5 := (hA.2.2 j hj).1.2.2.2.2.1
  have HB := Lib.hid (heap_alloc_new w (.cells #[.int .i64 4, .int .i64 (j : Int), .int .u64 ep, .int .i64 nd] 56))
  have HK := Lib.hid ((Kept.refl NoB w).alloc (.cells #[.int .i64 4, .int .i64 (j : Int), .int .u64 ep, .int .i64 nd] 56))
  have HZ : Hid ((w.alloc (.cells #[.int .i64 4, .int .i64 (j : Int), .int .u64 ep, .int .i64 nd] 56)).heap.size = w.heap.size + 1) := Lib.hid (by simp)
  have HCP : Hid (Calls Tryd.prog 36 #[.slice a l.length cap] (w.alloc (.cells #[.int .i64 4, .int .i64 (j : Int), .int .u64 ep, .int .i64 nd] 56)) fun e w' => ∃ r rc us, e = .returned (.slice (some ⟨r, 0, none⟩) l.length rc) ∧ (w.alloc (.cells #[.int .i64 4, .int .i64 (j : Int), .int .u64 ep, .int .i64 nd] 56)).heap.size ≤ r ∧ RowC w' r rc l us ∧ OwnC (w.alloc (.cells #[.int .i64 4, .int .i64 (j : Int), .int .u64 ep, .int .i64 nd] 56)).heap.size w' l us ∧ Kept NoB (w.alloc (.cells #[.int .i64 4, .int .i64 (j : Int), .int .u64 ep, .int .i64 nd] 56)) w') :=
    Lib.hid ((Copy_any _ l _ F (h.kept HK.out (fun _ _ _ h => h)) hl).mono fun e w' hc => copy_ne hc (by omega))
  have HCA : Hid (∀ w', Kept NoB w w' → Calls Tryd.prog 37 #[.slice a l.length cap, .agg #[.int .i64 4, .int .i64 (j : Int), .int .u64 ep, .int .i64 nd]] w' (IntE 0 w')) := Lib.hid (fun w' hk => by
    have := Can_any _ l 0 4 j ep nd F w' (h.kept hk (fun _ _ _ h => h)) hx hep
    rwa [hcan] at this)
  have HRU := Lib.hid (fun w => rule4 w)
  have hfl := fun (f g : FuncId) (w : World) => rule_fld1 f g w
  have hk1 : (j : Int) < (l.length : Int) := by omega
  have hk0 : (0 : Int) ≤ (j : Int) := by omega
  have HNE := Lib.hid hne
  have HB0 := Lib.hid hb0
  have HBT := Lib.hid hbt
  clear h hx hep hcan hne hb0 hbt ejn
  go_enter Tryd.func19, Tryd.ntmps19
  go_wp2_with fail
  refine HCP.out.mono ?_
  rintro e w1 ⟨r, rc, us, rfl, hr, hrow, hown, hk⟩
  have HR := Lib.hid (Nat.le_trans (Nat.le_of_eq HZ.out.symm) hr)
  have HROW := Lib.hid hrow
  have HOWN := Lib.hid hown
  have HK1 := Lib.hid (HK.out.trans hk (fun _ _ h => h))
  have HB1 := Lib.hid (hk.heap (fun h => h) HB.out)
  obtain ⟨c0, c1, c2, c3⟩ := cells4c HB1.out
  have hrc : l.length ≤ rc := by obtain ⟨_, _, _, h3, _⟩ := hrow; exact h3
  clear hk hr hrow hown
  go_wp2_with fail
  refine (HCA.out _ HK1.out).mono ?_
  rintro e w2 ⟨rfl, hk⟩
  have HK2 := Lib.hid (HK1.out.trans hk (fun _ _ h => h))
  have HB2 := Lib.hid (hk.heap (fun h => h) HB1.out)
  have HROW2 := Lib.hid (HROW.out.kept hk (fun h => h))
  have HOWN2 := Lib.hid (HOWN.out.kept hk (fun _ _ _ _ h => h))
  clear hk c0 c1 c2 c3
  obtain ⟨c0, c1, c2, c3⟩ := cells4c HB2.out
  have HBZ : Hid (w.heap.size + 1 ≤ w2.heap.size) := Lib.hid (heap_lt HB2.out)
  go_wp2_with fail
  have HKc := Lib.hid (Kept.refl (fun k => w.heap.size + 1 ≤ k) w2)
  have HPR : Hid (∀ W, Kept NoB w2 W → Calls Tryd.prog 64 #[.pointer (some ⟨r, j * 5, none⟩), .int .i64 nd] W (DoEnd (w.heap.size + 1) r rc (l.set j (turnC (nthC l j) 4 nd)) W)) := Lib.hid (fun W hk =>
    do_4 (w.heap.size + 1) r rc l us j nd W (HROW2.out.kept hk (fun h => h)) (by have := HOWN2.out.kept hk (fun _ _ _ _ h => h); rw [HZ.out] at this; exact this) HR.out (Nat.le_trans HBZ.out hk.size) hj hn1 hn5)
  have HST : Hid (∃ us', RowC w2 r rc (l.set j (turnC (nthC l j) 4 nd)) us' ∧ OwnC (w.heap.size + 1) w2 (l.set j (turnC (nthC l j) 4 nd)) us' ∨ True) := Lib.hid ⟨us, .inr trivial⟩
  clear HST
  go_region_held3 (fun w' => w'.cell? ⟨w.heap.size, 0, none⟩ = some (.int .i64 4) ∧ w'.cell? ⟨w.heap.size, 3, none⟩ = some (.int .i64 nd))
    (first
      | exact ⟨cell_drew c0, cell_drew c3⟩
      | exact ⟨HKc.out.cell (p := ⟨w.heap.size, 0, none⟩) (by show ¬ w.heap.size + 1 ≤ w.heap.size; omega) c0, HKc.out.cell (p := ⟨w.heap.size, 3, none⟩) (by show ¬ w.heap.size + 1 ≤ w.heap.size; omega) c3⟩
      | go_keep)
    (first
      | (go_at_call 38; refine (HRU.out _).mono ?_; rintro e w4 ⟨rfl, hk4⟩; have HKN := Lib.hid ((Kept.refl NoB w2).drew.trans hk4 (fun _ _ h => h)); replace HKc := Lib.hid (HKc.out.drew.trans hk4 (fun _ _ h => h.elim)); clear hk4)
      | (go_at_call 64; refine (HPR.out _ HKN.out).mono ?_; rintro e w5 ⟨rfl, hex, hk5⟩; have HEX := Lib.hid hex; replace HKc := Lib.hid (HKc.out.trans hk5 (fun _ _ h => h)); clear hex hk5))
  all_goals
    obtain ⟨us5, hr5, ho5⟩ := HEX.out
    have hend := do_end (w.heap.size + 1) r rc l us5 j 4 nd w _ hj hr5 ho5 HR.out (by omega) ((HK2.out.mono (fun _ _ h => h.elim)).trans HKc.out (fun _ _ h => h)) HB0.out HNE.out HBT.out
    obtain ⟨q1, g1, hcfs, hkf⟩ := hend
    have HCF := Lib.hid hcfs
    have HKF := Lib.hid hkf
    have he0 := HB0.out
    have he1 : (nthC l j).ep ≤ 18446744073709551614 := by have := HNE.out; have := HBT.out; unfold topE at *; omega
    clear hcfs hkf hr5 ho5 c0 c1 c2 c3
    generalize (nthC l j).ep = E at q1 he0 he1 HCF HKF
    go_wp2
    go_ret2
    exact ⟨_, rfl, HCF.out, HKF.out⟩
theorem doC_no {l : List Cf} {e0 k ch ep nd : Int} (h : canC l e0 k ch ep nd ≠ 0) : doC l e0 k ch ep nd = l := if_pos h
theorem doC_zero {l : List Cf} {e0 ch ep nd : Int} : doC l e0 0 ch ep nd = l := by unfold doC; split <;> rfl
theorem doC_yes {l : List Cf} {e0 k ch ep nd : Int} (h : canC l e0 k ch ep nd = 0) (hk : k ≠ 0) : doC l e0 k ch ep nd = l.set ch.toNat (madeC (nthC l ch.toNat) k nd) := by unfold doC; rw [if_neg (fun x => x h), if_neg hk]
set_option maxRecDepth 100000 in
set_option maxHeartbeats 2000000 in
theorem Do_any (v : Value) (l : List Cf) (e0 k ch ep nd : Int) (F : Nat → Prop) (w : World) (h : CfsAt w F v l) (hlen : l.length ≤ 1000) (hx : Chk k ch ep nd e0) (hep : 0 ≤ ep) :
    Calls Tryd.prog 19 #[v, cmdv k ch ep nd] w (DoE (doC l e0 k ch ep nd) (decide (canC l e0 k ch ep nd = 0)) w) := by
  obtain ⟨a, cap, rfl, _⟩ := id h
  have HB := Lib.hid (heap_alloc_new w (.cells #[.int .i64 k, .int .i64 ch, .int .u64 ep, .int .i64 nd] 56))
  have HK := Lib.hid ((Kept.refl NoB w).alloc (.cells #[.int .i64 k, .int .i64 ch, .int .u64 ep, .int .i64 nd] 56))
  have HCP : Hid (Calls Tryd.prog 36 #[.slice a l.length cap] (w.alloc (.cells #[.int .i64 k, .int .i64 ch, .int .u64 ep, .int .i64 nd] 56)) fun e w' => ∃ a cap, e = .returned (.slice a l.length cap) ∧ CfsAt w' (fun k => w.heap.size ≤ k) (.slice a l.length cap) l ∧ Kept NoB (w.alloc (.cells #[.int .i64 k, .int .i64 ch, .int .u64 ep, .int .i64 nd] 56)) w') :=
    Lib.hid ((Copy_any _ l _ F (h.kept HK.out (fun _ _ _ h => h)) hlen).mono fun e w' hc => copy_cfs hc (by simp))
  have HCA : Hid (∀ w', Kept NoB w w' → _) := Lib.hid (fun w' hk => Can_any _ l e0 k ch ep nd F w' (h.kept hk (fun _ _ _ h => h)) hx hep)
  by_cases hc : canC l e0 k ch ep nd = 0
  rotate_left
  · rw [doC_no hc, decide_eq_false hc]
    obtain ⟨x, hxx⟩ : ∃ x, x = canC l e0 k ch ep nd := ⟨_, rfl⟩
    rw [← hxx] at hc HCA
    have hxb : ((x : Int) != 0) = true := by simpa using hc
    clear h hx hep hc hxx
    go_enter Tryd.func19, Tryd.ntmps19
    go_wp2_with fail
    refine HCP.out.mono ?_
    rintro e w1 ⟨a1, cap1, rfl, hcf, hk⟩
    have HCF := Lib.hid hcf
    have HK1 := Lib.hid (HK.out.trans hk (fun _ _ h => h))
    have HB1 := Lib.hid (hk.heap (fun h => h) HB.out)
    obtain ⟨c0, c1, c2, c3⟩ := cells4c HB1.out
    clear hk hcf
    go_wp2_with fail
    refine (HCA.out _ HK1.out).mono ?_
    rintro e w2 ⟨rfl, hk⟩
    have HK2 := Lib.hid (HK1.out.trans hk (fun _ _ h => h))
    have HCF2 := Lib.hid (HCF.out.kept hk (fun _ _ _ h => h))
    clear hk c0 c1 c2 c3
    go_wp2
    go_ret2
    exact ⟨_, rfl, HCF2.out, HK2.out⟩
  obtain ⟨hA, rfl, hcs⟩ := can_ok hc
  by_cases hk0 : k = 0
  · subst hk0
    rw [doC_zero, decide_eq_true hc]
    rw [hc] at HCA
    clear h hx hep hc hcs
    go_enter Tryd.func19, Tryd.ntmps19
    go_wp2_with fail
    refine HCP.out.mono ?_
    rintro e w1 ⟨a1, cap1, rfl, hcf, hk⟩
    have HCF := Lib.hid hcf
    have HK1 := Lib.hid (HK.out.trans hk (fun _ _ h => h))
    have HB1 := Lib.hid (hk.heap (fun h => h) HB.out)
    obtain ⟨c0, c1, c2, c3⟩ := cells4c HB1.out
    clear hk hcf
    go_wp2_with fail
    refine (HCA.out _ HK1.out).mono ?_
    rintro e w2 ⟨rfl, hk⟩
    have HK2 := Lib.hid (HK1.out.trans hk (fun _ _ h => h))
    have HCF2 := Lib.hid (HCF.out.kept hk (fun _ _ _ h => h))
    have d0 := (cells4c (hk.heap (fun h => h) HB1.out)).1
    clear hk c0 c1 c2 c3
    go_wp2
    go_ret2
    exact ⟨_, rfl, HCF2.out, HK2.out⟩
  rcases hcs with h0 | ⟨_, hlt, _, _, _⟩
  · exact absurd h0 hk0
  have hV := Chk.ok.1 hx
  unfold Vld at hV
  obtain ⟨hk1, hk4, hch0⟩ : 1 ≤ k ∧ k ≤ 4 ∧ 0 ≤ ch := by omega
  rw [doC_yes hc hk0, decide_eq_true hc]
  obtain ⟨j, rfl⟩ := Int.eq_ofNat_of_zero_le hch0
  have ejn : ((j : Int)).toNat = j := by omega
  rw [ejn]
  have hj : j < l.length := by omega
  rcases (by omega : k = 1 ∨ k = 2 ∨ k = 3 ∨ k = 4) with rfl | rfl | rfl | rfl
  · exact Do_1 _ l j ep nd F w h hA hx hep hj hc
  · exact Do_2 _ l j ep nd F w h hA hx hep hj hc
  · exact Do_3 _ l j ep nd F w h hA hx hep hj hc
  · exact Do_4 _ l j ep nd F w h hA hx hep hj hc
end Go.Proofs.YtbdenjmnohhhiaaDoor
