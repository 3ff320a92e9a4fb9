/-
  The law's same: a bag has what the chapter says.
-/
import Derived.Test.YteinjmhogkneoaaBagM
import Derived.Test.YteinjmhogkneoaaBagG
import Derived.BigQuiet
namespace Go.Proofs.Yteinjmhogkneoaa
open Go.RowKit Go.Shelf
set_option linter.unusedVariables false
attribute [local go_sem] Oper.semAt_some

/-- The variables of same that lie in memory. -/
def SmBox (w : World) (most last : Int) (a : Option Addr) (n c : Nat) (b0 b1 b2 g : Nat) (wr : World) : Prop :=
  wr.heap[b0]? = some (.cells #[.pointer (some ⟨g, 0, none⟩)] 23 (0, 0)) ∧ wr.heap[b1]? = some (.cells #[.int .i64 most, .int .i64 last, .slice a n c] 27 (0, 0)) ∧ wr.heap[b2]? = some (.cells #[.bool false] 4 (0, 0)) ∧ Kept NoB w wr
theorem SmBox.no {w wr w' : World} {most last : Int} {a : Option Addr} {n c b0 b1 b2 g : Nat} (h : SmBox w most last a n c b0 b1 b2 g wr) (hk : Kept NoB wr w') : SmBox w most last a n c b0 b1 b2 g w' := by
  obtain ⟨h0, h1, h2, h4⟩ := h
  exact ⟨hk.heap (fun h => h) h0, hk.heap (fun h => h) h1, hk.heap (fun h => h) h2, h4.trans hk (fun _ _ h => h)⟩
theorem SmBox.own {D : Nat} {w W W' : World} {most last : Int} {a : Option Addr} {n c b0 b1 b2 g : Nat} {rr : Option Nat} (h : SmBox w most last a n c b0 b1 b2 g W) (hk : W.grownBy W' rr) (hr : ∀ r, rr = some r → D ≤ r ∧ ∃ o : Obj, W.heap[r]? = some o ∧ o.isCells = false) (hD : w.heap.size ≤ D) : SmBox w most last a n c b0 b1 b2 g W' := by
  obtain ⟨h0, h1, h2, h4⟩ := h
  have k := kept_of_grown hk
  exact ⟨k.heap (nc hr h0) h0, k.heap (nc hr h1) h1, k.heap (nc hr h2) h2, h4.trans k (fun i hi he => by have := (hr i he.symm).1; omega)⟩
theorem RRow.own {D B : Nat} {W W' : World} {a : Option Addr} {c : Nat} {l : List It} {rr : Option Nat} (h : RRow B W a c l) (hk : W.grownBy W' rr) (hr : ∀ r, rr = some r → D ≤ r ∧ ∃ o : Obj, W.heap[r]? = some o ∧ o.isCells = false) : RRow B W' a c l :=
  h.kept (kept_of_grown hk) (fun k cs fr hh => nc hr hh)
/-- Between two rounds of same. -/
def SmI (w : World) (B g : Nat) (row : Option Nat) (mb most last : Int) (a : Option Addr) (c : Nat) (l : List It) (b0 b1 b2 cc b6 : Nat) (pre : List It) (W : World) : Prop :=
  pre = l.take pre.length ∧ pre.length ≤ l.length ∧ Bg B W g row mb last l ∧ RRow B W a c l ∧ SmBox w most last a l.length c b0 b1 b2 g W ∧ W.heap[cc]? = some (.cells #[.pointer (some ⟨g, 0, none⟩)] 23 (0, 0)) ∧ W.heap[b6]? = some (.cells #[.int .i64 pre.length] 3 (0, 0))
theorem SmI.own {D : Nat} {w W W' : World} {B g : Nat} {row : Option Nat} {mb most last : Int} {a : Option Addr} {c : Nat} {l : List It} {b0 b1 b2 cc b6 : Nat} {pre : List It} {rr : Option Nat} (h : SmI w B g row mb most last a c l b0 b1 b2 cc b6 pre W) (hk : W.grownBy W' rr) (hr : ∀ r, rr = some r → D ≤ r ∧ ∃ o : Obj, W.heap[r]? = some o ∧ o.isCells = false) (hD : w.heap.size ≤ D) :
    SmI w B g row mb most last a c l b0 b1 b2 cc b6 pre W' := by
  obtain ⟨h1, h2, h3, h4, h5, h6, h7⟩ := h
  have k := kept_of_grown hk
  exact ⟨h1, h2, h3.own hk hr, h4.own hk hr, h5.own hk hr hD, k.heap (nc hr h6) h6, k.heap (nc hr h7) h7⟩
theorem SmI.step {w W : World} {B g : Nat} {row : Option Nat} {mb most last : Int} {a : Option Addr} {c : Nat} {l : List It} {b0 b1 b2 cc b6 : Nat} {pre : List It} (h : SmI w B g row mb most last a c l b0 b1 b2 cc b6 pre W) (hlt : pre.length < l.length) (hw : w.heap.size ≤ b6) (D : Nat) :
    SmI w B g row mb most last a c l b0 b1 b2 cc b6 (pre ++ [nth l pre.length]) (W.setCell ⟨b6, 0, none⟩ (.int .i64 ((pre.length : Int) + 1))) ∧ KeepsOthers W (W.setCell ⟨b6, 0, none⟩ (.int .i64 ((pre.length : Int) + 1))) ∧ KpB D g W (W.setCell ⟨b6, 0, none⟩ (.int .i64 ((pre.length : Int) + 1))) := by
  obtain ⟨h1, h2, h3, h4, ⟨g0, g1, g2, g3⟩, h6, h7⟩ := h
  obtain ⟨_, _, _, _, _, _, hown, hrow, hgl, hh⟩ := h3.cells
  have hk : Kept (One b6) W (W.setCell ⟨b6, 0, none⟩ (.int .i64 ((pre.length : Int) + 1))) := Kept.one (Kept.refl _ _) 0 _
  have hlen : (pre ++ [nth l pre.length] : List It).length = pre.length + 1 := by simp
  have hnr : ∀ r, row = some r → ¬ One b6 r := by
    intro r hr h9
    have h9 : r = b6 := h9
    subst h9
    rcases hown.2 with ⟨hv, _⟩ | ⟨r2, cap, cur, hv, _, hh2, _⟩
    · rw [hv] at hrow; rw [← hrow] at hr; cases hr
    · rw [hv] at hrow
      rw [← hrow] at hr
      injection hr with hr
      subst hr
      exact blk_ne h7 hh2 (by decide) rfl
  refine ⟨⟨?_, by rw [hlen]; omega, h3.kept hk (fun h => blk_ne hh h7 (by decide) h) hnr, h4.kept hk (fun k cs fr hh2 h => blk_ne hh2 h7 (by decide) h), ⟨hk.heap (fun h => blk_ne g0 h7 (by decide) h) g0, hk.heap (fun h => blk_ne g1 h7 (by decide) h) g1, hk.heap (fun h => blk_ne g2 h7 (by decide) h) g2, g3.trans hk (fun i hi' h => by have h : i = b6 := h; omega)⟩, hk.heap (fun h => blk_ne h6 h7 (by decide) h) h6, ?_⟩, KeepsOthers.setCell _ _ _, KpB.ofKept hk (fun h => blk_ne hh h7 (by decide) h) hgl (fun k cs fr hk h => blk_ne hk h7 (by decide) h)⟩
  · rw [hlen, take_nth l _ hlt, ← h1]
  · rw [hlen]
    exact blk_set h7 0 _
theorem nth_prefix {l pre : List It} {x : It} (h : pre ++ [x] <+: l) : x = nth l pre.length := by
  obtain ⟨t, ht⟩ := h
  have h1 : l[pre.length]? = some x := by rw [← ht, List.append_assoc, List.getElem?_append_right (Nat.le_refl _)]; simp
  unfold nth
  rw [List.getD_eq_getElem?_getD, h1]
  rfl
theorem sm_fin {w W : World} {most last : Int} {a : Option Addr} {n c b0 b1 b2 g D : Nat} (h : SmBox w most last a n c b0 b1 b2 g W) (h5 : W.heap[D]? = some (.deferred (some []))) (hb : w.heap.size ≤ b2) (hD : w.heap.size ≤ D) :
    (W.setCell ⟨b2, 0, none⟩ (.bool true)).heap[D]? = some (.deferred (some [])) ∧ ((W.setCell ⟨b2, 0, none⟩ (.bool true)).putObj D (.deferred none)).cell? ⟨b2, 0, none⟩ = some (.bool true) ∧ Kept NoB w ((W.setCell ⟨b2, 0, none⟩ (.bool true)).putObj D (.deferred none)) := by
  obtain ⟨_, _, h2, h6⟩ := h
  have hne := blk_nd h2 h5 rfl
  have e1 := blk_set_other h5 0 (.bool true) hne
  have e2 := blk_set h2 0 (.bool true)
  have k2 : Kept NoB w (W.setCell ⟨b2, 0, none⟩ (.bool true)) := h6.setCell (p := ⟨b2, 0, none⟩) (.inr hb) _
  refine ⟨e1, cell_of_row _ _ 0 _ _ _ ((World.putObj_heap_other hne).trans e2), ?_⟩
  exact kept_of_below ((below_of_kept k2).trans (belowK_b (w := w) (Nat.le_refl _) _ D _ _ hD e1 rfl rfl))

set_option maxRecDepth 100000 in
set_option maxHeartbeats 2000000 in
theorem same_any (B g : Nat) (row : Option Nat) (mb most last : Int) (a : Option Addr) (c : Nat) (l : List It) (w : World) (hb : Bg B w g row mb last l) (hr : RRow B w a c l) (hl : l.length ≤ 1000) (hB : B ≤ w.heap.size) :
    Calls Try.prog 9 #[.pointer (some ⟨g, 0, none⟩), rbv most last a l.length c] w fun e w' => e = .returned (.bool true) ∧ Kept NoB w w' := by
  refine (callsIn_wide (n := 9)).1 (callsIn_of_wp_marks Try.func9 rfl trivial (wpIn_wide.2 ?_) rfl)
  simp only [Try.ntmps9, List.size_toArray, List.length_cons, List.length_nil, Nat.reduceAdd, Nat.reduceSub, Array.replicate_succ, Array.replicate_zero, List.push_toArray, List.append_toArray, List.nil_append, List.cons_append]
  have hK0 := (((Kept.refl NoB w).alloc (.cells #[.pointer (some ⟨g, 0, none⟩)] 23)).alloc (.cells #[.int .i64 most, .int .i64 last, .slice a l.length c] 27)).alloc (.cells #[.bool false] 4)
  obtain ⟨h30, h31, h32⟩ := three w (.cells #[.pointer (some ⟨g, 0, none⟩)] 23) (.cells #[.int .i64 most, .int .i64 last, .slice a l.length c] 27) (.cells #[.bool false] 4)
  have GB := Lib.hid (show SmBox w most last a l.length c w.heap.size (w.heap.size + 1) (w.heap.size + 1 + 1) g _ from ⟨h30, h31, h32, hK0⟩)
  have HB := Lib.hid (hb.keptNo hK0)
  have HR := Lib.hid (hr.no hK0)
  have hgw : g < w.heap.size := by obtain ⟨_, _, _, _, _, _, _, _, h, _⟩ := hb.cells; exact h
  clear h30 h31 h32 hK0 hb hr
  go_wp2_with fail
  refine (All_any (some ⟨g, 0, none⟩) _).mono ?_
  rintro e w' ⟨rfl, rfl⟩
  obtain ⟨W1, hW1⟩ : ∃ W1, W1 = ((w.alloc (.cells #[.pointer (some ⟨g, 0, none⟩)] 23)).alloc (.cells #[.int .i64 most, .int .i64 last, .slice a l.length c] 27)).alloc (.cells #[.bool false] 4) := ⟨_, rfl⟩
  have hz1 : W1.heap.size = w.heap.size + 1 + 1 + 1 := by rw [hW1]; simp
  rw [← hW1] at GB HB HR ⊢
  have hc1 := heap_alloc_new W1 (.cells #[.pointer (some ⟨g, 0, none⟩)] 23)
  have hk1 := (Kept.refl NoB W1).alloc (.cells #[.pointer (some ⟨g, 0, none⟩)] 23)
  obtain ⟨cc, hcc⟩ : ∃ cc, cc = W1.heap.size := ⟨_, rfl⟩
  have hccw : w.heap.size ≤ cc := by omega
  obtain ⟨W2, hW2⟩ : ∃ W2, W2 = W1.alloc (.cells #[.pointer (some ⟨g, 0, none⟩)] 23) := ⟨_, rfl⟩
  have hz2 : cc < W2.heap.size := by rw [hW2, hcc]; simp
  rw [← hW2] at hc1 hk1 ⊢
  rw [← hcc] at hc1 ⊢
  have GB2 := Lib.hid (GB.out.no hk1)
  have HB2 := Lib.hid (HB.out.keptNo hk1)
  have HR2 := Lib.hid (HR.out.no hk1)
  have HC2 := Lib.hid hc1
  clear GB HB HR hW1 hW2 hz1 hcc hc1 hk1
  have q0 : W2.cell? ⟨w.heap.size, 0, none⟩ = some (.pointer (some ⟨g, 0, none⟩)) := cell_of_row _ _ 0 _ _ _ GB2.out.1
  have q1 : W2.cell? ⟨w.heap.size + 1, 1, none⟩ = some (.int .i64 last) := cell_of_row _ _ 1 _ _ _ GB2.out.2.1
  have q2 : W2.cell? ⟨w.heap.size + 1, 2, none⟩ = some (.slice a l.length c) := cell_of_row _ _ 2 _ _ _ GB2.out.2.1
  have hne : ∀ (c : Nat) (w : World), (binOp BinOp.eql 47 (.func (.func 39) #[] #[.pointer (some ⟨c, 0, none⟩)]) .nilFunc).run Try.prog w = .ok (.bool false) w := fun _ _ => rfl
  go_wp2_with fail
  go_quiet (first
    | (go_at_call 17; refine Calls.quiet_of_same ((Len_any B g row mb last l _ (HB2.out.drewN _)).mono (by rintro e w6 ⟨rfl, rfl⟩; exact ⟨rfl, rfl⟩)))
    | (go_at_call 11; refine Calls.quiet_of_same ((Last_any B g row mb last l _ (HB2.out.drewN _)).mono (by rintro e w6 ⟨rfl, rfl⟩; exact ⟨rfl, rfl⟩))))
  obtain ⟨W3, hW3⟩ : ∃ W3, W3 = W2.drewN nq := ⟨_, rfl⟩
  have GB3 := GB2.out.no ((Kept.refl NoB W2).drewN nq)
  have HB3 := HB2.out.keptNo ((Kept.refl NoB W2).drewN nq)
  have HR3 := HR2.out.no ((Kept.refl NoB W2).drewN nq)
  have HC3 : (W2.drewN nq).heap[cc]? = _ := HC2.out
  have hz3 : cc < (W2.drewN nq).heap.size := hz2
  rw [← hW3] at GB3 HB3 HR3 HC3 hz3 ⊢
  have hk6 := (Kept.refl NoB W3).alloc (.cells #[.int .i64 0] 3)
  have hi6 := heap_alloc_new W3 (.cells #[.int .i64 0] 3)
  have GB6 := Lib.hid (GB3.no hk6)
  have HB6 := Lib.hid (HB3.keptNo hk6)
  have HR6 := Lib.hid (HR3.no hk6)
  have HC6 := Lib.hid (hk6.heap (fun h => h) HC3)
  have HI6 := Lib.hid hi6
  have hs3 := GB3.2.2.2.size
  clear GB2 HB2 HR2 HC2 hW3 GB3 HB3 HR3 HC3 hk6 hi6 q0 q1 q2 hz2 hne
  go_wp2
  obtain ⟨b6, hb6⟩ : ∃ b6, b6 = W3.heap.size := ⟨_, rfl⟩
  obtain ⟨W6, hW6⟩ : ∃ W6, W6 = W3.alloc (.cells #[.int .i64 0] 3) := ⟨_, rfl⟩
  have hD6 : b6 < W6.heap.size := by rw [hW6, hb6]; simp
  have hD7 : cc < W6.heap.size := by rw [hW6]; simp; omega
  have hw6 : w.heap.size ≤ b6 := by omega
  rw [← hb6] at HI6 ⊢
  rw [← hW6] at GB6 HB6 HR6 HC6 HI6 ⊢
  have hwD : w.heap.size ≤ W6.heap.size := by omega
  have hgD : g < W6.heap.size := by omega
  clear hW6 hb6 hz3 hs3
  refine (wpIn_wide (n := 9)).1 ?_
  refine wpIn_rangeFunc_ownF rfl (by omega) (gf := 39) (lb := #[.pointer (some ⟨cc, 0, none⟩)]) rfl trivial (enters_of Try.func39 (by kernel_rfl) rfl)
    (stops_bag (cell_of_row _ _ 0 _ _ _ HC6.out) (by omega) HB6.out (by omega) (by omega)) (fun h k => h.trans k) (fun W l o o' h1 h2 h3 _ => KpB.put hgD W l o o' h1 h2 h3) (Below.refl _ _) (fun _ => rfl)
    (fun pre W => SmI w B g row mb most last a c l w.heap.size (w.heap.size + 1) (w.heap.size + 1 + 1) cc b6 pre W)
    (fun c pre W => (c = .ret ∧ ¬ pre <+: l))
    (fun s A B row hs hg hr => hs.own hg hr hwD)
    (fun c s A B row hs hg hr => hs)
    ⟨rfl, Nat.zero_le _, HB6.out, HR6.out, GB6.out, HC6.out, HI6.out⟩ ?a1 ?assign ?body ?done ?stop
  case assign =>
    intro l x W K hK
    unfold encI
    gi_wp2
    exact hK
  case body =>
    rintro y pre x W hJ hN
    obtain ⟨no, v⟩ := x
    obtain ⟨hpre, hlen, hbb, hrr, hgb, hcx, hix⟩ := id hJ
    have HJ := Lib.hid hJ
    have q0 : W.cell? ⟨w.heap.size, 0, none⟩ = some (.pointer (some ⟨g, 0, none⟩)) := cell_of_row _ _ 0 _ _ _ hgb.1
    have q1 : W.cell? ⟨w.heap.size + 1, 2, none⟩ = some (.slice a l.length c) := cell_of_row _ _ 2 _ _ _ hgb.2.1
    have q2 : W.cell? ⟨w.heap.size + 1 + 1, 0, none⟩ = some (.bool false) := cell_of_row _ _ 0 _ _ _ hgb.2.2.1
    have z2 : W.frozen? ⟨w.heap.size + 1 + 1, 0, none⟩ = false := blk_frozen0 hgb.2.2.1 0
    have q6 : W.cell? ⟨b6, 0, none⟩ = some (.int .i64 pre.length) := cell_of_row _ _ 0 _ _ _ hix
    have z6 : W.frozen? ⟨b6, 0, none⟩ = false := blk_frozen0 hix 0
    obtain ⟨r, rfl, _, hcell, _⟩ := hrr.items (by omega)
    obtain ⟨e0, e1⟩ := hcell pre.length hN
    have hstep := hJ.step hN hw6 W6.heap.size
    have HNO := Lib.hid (No_yes B g row mb last l pre.length W hbb hN)
    have HPX := Lib.hid (show ∀ x : It, pre ++ [x] <+: l → x = nth l pre.length from fun x h => nth_prefix h)
    have HNE := Lib.hid (show nth l pre.length = ((nth l pre.length).1, (nth l pre.length).2) from rfl)
    have HST := Lib.hid hstep
    obtain ⟨p1, hp1⟩ : ∃ p1, p1 = (nth l pre.length).1 := ⟨_, rfl⟩
    obtain ⟨p2, hp2⟩ : ∃ p2, p2 = (nth l pre.length).2 := ⟨_, rfl⟩
    rw [← hp1] at e0 HNO HNE
    rw [← hp2] at e1 HNE
    rw [HNE.out] at HPX HST
    obtain ⟨i, hi⟩ : ∃ i, i = pre.length := ⟨_, rfl⟩
    rw [← hi] at e0 e1 q6 HNO HST hN
    have hiL : (i : Int) < (l.length : Int) := by omega
    have hi9 : (i : Int) + 1 ≤ 1000 := by omega
    clear hJ hpre hlen hbb hrr hgb hcx hix hcell hstep hp1 hp2 hi
    by_cases hno : p1 = no
    · by_cases hv : p2 = v
      · subst hno hv
        gi_wp2_with fail
        refine ⟨trivial, ?_⟩
        refine (CallsIn.inRound y (callsIn_wide.2 HNO.out)).mono ?_
        rintro e2 w2 ⟨rfl, rfl⟩
        gi_wp2
        exact ⟨HST.out.2.1, HST.out.2.2, HST.out.1⟩
      · have hd : (p2 != v) = true := by simpa using hv
        subst hno
        have HX := Lib.hid hv
        clear hv
        gi_wp2
        refine ⟨trivial, ?_⟩
        gi_wp2
        exact ⟨by first | exact KeepsOthers.refl _ | exact KeepsOthers.setCell _ _ _, rfl, fun h => by have := HPX.out _ h; injection this with _ h2; exact HX.out h2.symm⟩
    · have hd : (p1 != no) = true := by simpa using hno
      have HX := Lib.hid hno
      clear hno
      gi_wp2
      refine ⟨trivial, ?_⟩
      gi_wp2
      exact ⟨by first | exact KeepsOthers.refl _ | exact KeepsOthers.setCell _ _ _, rfl, fun h => by have := HPX.out _ h; injection this with h2; exact HX.out h2.symm⟩
  case done =>
    rintro D ys W hDD rfl hJ hK
    obtain ⟨hpre, hlen, hbb, hrr, hgb, hcx, hix⟩ := hJ
    have q1 : W.cell? ⟨w.heap.size + 1, 2, none⟩ = some (.slice a ys.length c) := cell_of_row _ _ 2 _ _ _ hgb.2.1
    have q2 : W.cell? ⟨w.heap.size + 1 + 1, 0, none⟩ = some (.bool false) := cell_of_row _ _ 0 _ _ _ hgb.2.2.1
    have z2 : W.frozen? ⟨w.heap.size + 1 + 1, 0, none⟩ = false := blk_frozen0 hgb.2.2.1 0
    have q6 : W.cell? ⟨b6, 0, none⟩ = some (.int .i64 ys.length) := cell_of_row _ _ 0 _ _ _ hix
    have HFIN := Lib.hid (sm_fin hgb hK (by omega) (by omega))
    clear hpre hlen hbb hrr hgb hcx hix hK
    go_wp2
    obtain ⟨e1, e2, e3⟩ := HFIN.out
    refine ⟨by simp, .inl ⟨_, _, rfl, run_takeDeferred e1, ?_⟩⟩
    refine ⟨.bool true, ?_, rfl, e3⟩
    simp [results, Try.f9, go_sem, e2]
  case stop =>
    rintro D c2 pre W hDD hpx ⟨rfl, hnp⟩ hK
    exact absurd hpx hnp
end Go.Proofs.Yteinjmhogkneoaa
