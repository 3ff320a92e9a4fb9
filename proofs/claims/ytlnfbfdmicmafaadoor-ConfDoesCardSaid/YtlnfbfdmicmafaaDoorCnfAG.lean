/-
  The chapter's answer: what a command makes of a configuration.
-/
import Derived.Test.YtlnfbfdmicmafaaDoorCnfAB
import Derived.Deep.CutRange
namespace Go.Proofs.YtlnfbfdmicmafaaDoor
open Go.RowKit
set_option linter.unusedVariables false

theorem bother {w : World} {g k : Nat} {o : Obj} (h : w.heap[g]? = some o) (i : Nat) (u : Value) (hk : k ≠ g) :
    (w.setCell ⟨k, i, none⟩ u).heap[g]? = some o := by simp [World.setCell, Array.getElem?_modify, h, hk]
theorem bset5 {w : World} {g : Nat} {cs : Array Value} {t : TypeId} {fr : Nat × Nat} (h : w.heap[g]? = some (.cells cs t fr)) (i : Nat) (u : Value) :
    (w.setCell ⟨g, i, none⟩ u).heap[g]? = some (.cells (cs.setIfInBounds i u) t fr) := by simp [World.setCell, Array.getElem?_modify, h]
theorem frz5 {w : World} {b : Nat} {cs : Array Value} {t : TypeId} (h : w.heap[b]? = some (.cells cs t (0, 0))) : w.frozen? ⟨b, 0, none⟩ = false ∧ w.frozen? ⟨b, 1, none⟩ = false ∧ w.frozen? ⟨b, 2, none⟩ = false ∧ w.frozen? ⟨b, 3, none⟩ = false ∧ w.frozen? ⟨b, 4, none⟩ = false := by
  refine ⟨?_, ?_, ?_, ?_, ?_⟩ <;> simp [World.frozen?, h]
theorem grown_blk {w w' : World} (hg : w.grownBy w' none) {g : Nat} {o : Obj} (h : w.heap[g]? = some o) : w'.heap[g]? = some o := (hg.block g (heap_lt h) (by simp)).trans h
theorem IOwn.ne {B : Nat} {w : World} {v : Value} {l : List Int} (h : IOwn B w v l) {g : Nat} {cs : Array Value} {t : TypeId} {fr : Nat × Nat} (hc : w.heap[g]? = some (.cells cs t fr)) (ht : t ≠ 3) : ∀ k, v.ownBlock = some k → k ≠ g := by
  intro k hk e
  subst e
  exact own_ne h hc (fun e => ht e.symm) hk.symm
/-- append of a slice to no slice: a row of the call's own. -/
theorem step_append_nil (w : World) {ops : Array Oper} {o : Oper} {a : Act} {K : Act → World → Prop} {Q : Exit → Act → World → Prop} {E : Prop} (hgd : o.guard = none) (s x : Operand)
    (ho : o.op = .call { callee := .builtin .append, args := #[s, x], argTypes := #[24, 24] })
    (base : Nat) (hs : a.eval s = .slice none 0 0) (F : Nat → Prop) (y : Value) (l : List Int) (hx : a.eval x = y) (hy : NSl w F y l) (hl : l.length ≤ 100000) (hbase : base ≤ w.heap.size)
    (h : ∀ a' c' w', IOwn base w' (.slice a' l.length c') l → w.grownBy w' none → K (a.put o.dst (.slice a' l.length c')) w') :
    if Region.wanted o (yielded ops a.tmps) = true then Oper.wp Tryd.prog o a w K Q else E :=
  step_append_nsl w hgd s x ho base (.slice none 0 0) [] hs (IOwn.nil _ _) F y l hx hy (by simpa using hl) hbase (fun a' c' w' h1 h2 _ => by
    simp only [List.length_nil, Nat.zero_add, List.nil_append] at h1 ⊢
    exact h a' c' w' h1 h2)
/-- append of one number that lies in a block. -/
theorem wpList_append_onei (w : World) {ops : Array Oper} {rest : List Oper} {o : Oper} {a : Act} {Q : Exit → Act → World → Prop} (hgd : o.guard = none) (s x : Operand)
    (ho : o.op = .call { callee := .builtin .append, args := #[s, x], argTypes := #[24, 24] })
    (base : Nat) (v : Value) (cs : List Int) (hs : a.eval s = v) (hown : IOwn base w v cs) (b : Nat) (y : Int) (hx : a.eval x = .slice (some ⟨b, 0, none⟩) 1 1) (hb : w.heap[b]? = some (.cells #[.int .i64 y] 3 (0, 0))) (hl : cs.length ≤ 10000) (hbase : base ≤ w.heap.size)
    (h : ∀ a' c' w', IOwn base w' (.slice a' (cs.length + 1) c') (cs ++ [y]) → w.grownBy w' v.ownBlock → wpList Tryd.prog ops Q rest (a.put o.dst (.slice a' (cs.length + 1) c')) w') : wpList Tryd.prog ops Q (o :: rest) a w :=
  wpList_append_nsl w hgd s x ho base v cs hs hown (fun _ => True) _ [y] hx (nsl_one hb) (by simp; omega) hbase (fun a' c' w' h1 h2 _ => h a' c' w' h1 h2)
def MadeE (c : Cf) (w : World) (e : Ending) (w' : World) : Prop := ∃ v, e = .returned v ∧ CfV w' (fun k => w.heap.size ≤ k) v c ∧ Kept NoB w w'
/-- What the first region leaves: the new configuration's variable. -/
def MdCut (W : World) (ch ep : Int) (ns : List Int) (fr : Bool) (jn : Int) (x5 : Value) (wc : World) : Prop :=
  ∃ (s5 : Nat) (a1 : Option Addr) (cp1 : Nat), x5 = .pointer (some ⟨s5, 0, none⟩) ∧ wc.heap[s5]? = some (.cells #[.int .i64 ch, .int .u64 (ep + 1), .slice a1 ns.length cp1, .bool fr, .int .i64 jn] 26 (0, 0)) ∧
    IOwn W.heap.size wc (.slice a1 ns.length cp1) ns ∧ W.heap.size ≤ s5 ∧ Kept NoB W wc
set_option maxRecDepth 100000 in
set_option maxHeartbeats 4000000 in
theorem made_any (v : Value) (c : Cf) (kd ch ep nd : Int) (F : Nat → Prop) (w : World) (h : CfV w F v c) (h1 : 1 ≤ c.ns.length) (h5 : c.ns.length ≤ 5) (he : c.ep ≠ topE) :
    Calls Tryd.prog 62 #[v, .agg #[.int .i64 kd, .int .i64 ch, .int .u64 ep, .int .i64 nd]] w (MadeE (madeC c kd nd) w) := by
  obtain ⟨u, rfl, hn, hb0, hbt, hnl⟩ := h
  obtain ⟨a, cap, rfl, _⟩ := id hn
  have hep1 : 0 ≤ c.ep + 1 := by omega
  have hep2 : c.ep + 1 ≤ topE := by omega
  have hkW : Kept NoB w (((w.alloc (.cells #[.int .i64 c.ch, .int .u64 c.ep, .slice a c.ns.length cap, .bool c.fr, .int .i64 c.jn] 26)).alloc (.cells #[.int .i64 kd, .int .i64 ch, .int .u64 ep, .int .i64 nd] 42)).alloc (.cells #[.int .i64 0, .int .u64 0, .slice none 0 0, .bool false, .int .i64 0] 26)) := (((Kept.refl NoB w).alloc _).alloc _).alloc _
  have HNW : Hid (∀ w', Kept NoB w w' → NSl w' F (.slice a c.ns.length cap) c.ns) := Lib.hid (fun w' hk => hn.kept hk (fun _ _ _ h => h))
  have hbx := balloc (balloc (heap_alloc_new w (.cells #[.int .i64 c.ch, .int .u64 c.ep, .slice a c.ns.length cap, .bool c.fr, .int .i64 c.jn] 26)) (.cells #[.int .i64 kd, .int .i64 ch, .int .u64 ep, .int .i64 nd] 42)) (.cells #[.int .i64 0, .int .u64 0, .slice none 0 0, .bool false, .int .i64 0] 26)
  have hz1 : (w.alloc (.cells #[.int .i64 c.ch, .int .u64 c.ep, .slice a c.ns.length cap, .bool c.fr, .int .i64 c.jn] 26)).heap.size = w.heap.size + 1 := by simp
  have hz2 : ((w.alloc (.cells #[.int .i64 c.ch, .int .u64 c.ep, .slice a c.ns.length cap, .bool c.fr, .int .i64 c.jn] 26)).alloc (.cells #[.int .i64 kd, .int .i64 ch, .int .u64 ep, .int .i64 nd] 42)).heap.size = w.heap.size + 2 := by simp
  have hcx := balloc (heap_alloc_new (w.alloc (.cells #[.int .i64 c.ch, .int .u64 c.ep, .slice a c.ns.length cap, .bool c.fr, .int .i64 c.jn] 26)) (.cells #[.int .i64 kd, .int .i64 ch, .int .u64 ep, .int .i64 nd] 42)) (.cells #[.int .i64 0, .int .u64 0, .slice none 0 0, .bool false, .int .i64 0] 26)
  have htx := heap_alloc_new ((w.alloc (.cells #[.int .i64 c.ch, .int .u64 c.ep, .slice a c.ns.length cap, .bool c.fr, .int .i64 c.jn] 26)).alloc (.cells #[.int .i64 kd, .int .i64 ch, .int .u64 ep, .int .i64 nd] 42)) (.cells #[.int .i64 0, .int .u64 0, .slice none 0 0, .bool false, .int .i64 0] 26)
  rw [hz1] at hcx
  rw [hz2] at htx
  have HMD := Lib.hid (show madeC c kd nd = madeC c kd nd from rfl)
  obtain ⟨R, hR⟩ : ∃ R, R = madeC c kd nd := ⟨_, rfl⟩
  have HR := Lib.hid hR
  have HLS : Hid (c.last = c.ns.getD (c.ns.length - 1) 0) := Lib.hid rfl
  rw [← hR]
  clear hR HMD
  obtain ⟨cch, cep, ns, fr, jn⟩ := c
  simp only at hnl hb0 hbt hep1 hep2 hbx hcx htx HNW HR h1 h5 he hkW HLS ⊢
  have hwr : IntKind.u64.wrap (cep + 1) = cep + 1 := IntWalk.u64_in _ (by unfold topE at hep2; omega)
  have HEB := Lib.hid (And.intro hep1 hep2)
  have HKW := Lib.hid hkW
  clear hz1 hz2 hn hkW hep1 hep2 hbt he
  go_enter Tryd.func62, Tryd.ntmps62
  go_wp2_with fail
  generalize ((w.alloc (.cells #[.int .i64 cch, .int .u64 cep, .slice a ns.length cap, .bool fr, .int .i64 jn] 26)).alloc (.cells #[.int .i64 kd, .int .i64 ch, .int .u64 ep, .int .i64 nd] 42)).alloc (.cells #[.int .i64 0, .int .u64 0, .slice none 0 0, .bool false, .int .i64 0] 26) = W at hbx hcx htx HKW ⊢
  obtain ⟨c0, c1, c2, c3, c4⟩ := cells5 hbx
  have HBX := Lib.hid hbx
  have HCX := Lib.hid hcx
  have HTX := Lib.hid htx
  have HSZ : Hid (w.heap.size + 2 < W.heap.size) := Lib.hid (heap_lt htx)
  clear hbx hcx htx
  have hq1 : ¬ W.heap.size = w.heap.size := fun h => by have := HSZ.out; omega
  have hq2 : ¬ w.heap.size = W.heap.size := fun h => hq1 h.symm
  have HKQ : Hid (Kept NoB W W.drew) := Lib.hid (Kept.refl NoB W).drew
  have HKQ2 : Hid (Kept NoB W (W.alloc (.cells #[.int .i64 0, .int .u64 0, .slice none 0 0, .bool false, .int .i64 0] 26)).drew) := Lib.hid ((Kept.refl NoB W).alloc _).drew
  have HZW : Hid ((W.alloc (.cells #[.int .i64 0, .int .u64 0, .slice none 0 0, .bool false, .int .i64 0] 26)).drew.heap[W.heap.size]? = some (.cells #[.int .i64 0, .int .u64 0, .slice none 0 0, .bool false, .int .i64 0] 26 (0, 0))) := Lib.hid (heap_alloc_new W _)
  have HN1 : Hid (NSl W.drew F (.slice a ns.length cap) ns) := Lib.hid (HNW.out _ (HKW.out.trans HKQ.out (fun _ _ h => h)))
  have HN2 : Hid (NSl (W.alloc (.cells #[.int .i64 0, .int .u64 0, .slice none 0 0, .bool false, .int .i64 0] 26)).drew F (.slice a ns.length cap) ns) := Lib.hid (HNW.out _ (HKW.out.trans HKQ2.out (fun _ _ h => h)))
  have hl5 : ns.length ≤ 100000 := by omega
  have HB1 : Hid (W.heap.size ≤ W.drew.heap.size) := Lib.hid HKQ.out.size
  have HB2 : Hid (W.heap.size ≤ (W.alloc (.cells #[.int .i64 0, .int .u64 0, .slice none 0 0, .bool false, .int .i64 0] 26)).drew.heap.size) := Lib.hid HKQ2.out.size
  go_cut [5] from 6 to 64 (MdCut W cch cep ns fr jn)
  case first =>
    go_region_held3 (fun w' => w'.cell? ⟨w.heap.size, 0, none⟩ = some (.int .i64 cch) ∧ w'.cell? ⟨w.heap.size, 1, none⟩ = some (.int .u64 cep) ∧ w'.cell? ⟨w.heap.size, 2, none⟩ = some (.slice a ns.length cap) ∧ w'.cell? ⟨w.heap.size, 3, none⟩ = some (.bool fr) ∧ w'.cell? ⟨w.heap.size, 4, none⟩ = some (.int .i64 jn))
      (first
        | (with_reducible exact ⟨cell_drew c0, cell_drew c1, cell_drew c2, cell_drew c3, cell_drew c4⟩)
        | (with_reducible exact ⟨cell_drew (cell_alloc c0 _), cell_drew (cell_alloc c1 _), cell_drew (cell_alloc c2 _), cell_drew (cell_alloc c3 _), cell_drew (cell_alloc c4 _)⟩)
        | (with_reducible exact ⟨k0, k1, k2, k3, k4⟩)
        | (with_reducible exact ⟨cell_alloc k0 _, cell_alloc k1 _, cell_alloc k2 _, cell_alloc k3 _, cell_alloc k4 _⟩)
        | go_keep)
      ((refine step_append_nil _ (by rfl) (.const (.slice none 0 0)) (.tmp 12) (by rfl) W.heap.size (by rfl) F (.slice a ns.length cap) ns (by rfl) (by first | (with_reducible exact HN1.out) | (with_reducible exact HN2.out)) hl5 (by first | (with_reducible exact HB1.out) | (with_reducible exact HB2.out)) ?_; intro a1 cp1 w1 hown1 hg1; have HO1 := Lib.hid hown1
        (first
          | (have HKA : Hid (Kept NoB W w1) := Lib.hid (HKQ.out.grown (by with_reducible exact hg1) (fun k hk => by cases hk)))
          | (have HKA : Hid (Kept NoB W w1) := Lib.hid (HKQ2.out.grown (by with_reducible exact hg1) (fun k hk => by cases hk)); have HZ1 := Lib.hid (grown_blk (by with_reducible exact hg1) HZW.out); have z0 := (frz5 HZ1.out).1; have z1 := (frz5 HZ1.out).2.1; have z2 := (frz5 HZ1.out).2.2.1; have z3 := (frz5 HZ1.out).2.2.2.1; have z4 := (frz5 HZ1.out).2.2.2.2; have y0 := (cells5 HZ1.out).1; have y1 := (cells5 HZ1.out).2.1; have y2 := (cells5 HZ1.out).2.2.1; have y3 := (cells5 HZ1.out).2.2.2.1; have y4 := (cells5 HZ1.out).2.2.2.2))
        have k0 := HKA.out.cell (p := ⟨w.heap.size, 0, none⟩) (fun h => h) c0; have k1 := HKA.out.cell (p := ⟨w.heap.size, 1, none⟩) (fun h => h) c1; have k2 := HKA.out.cell (p := ⟨w.heap.size, 2, none⟩) (fun h => h) c2; have k3 := HKA.out.cell (p := ⟨w.heap.size, 3, none⟩) (fun h => h) c3; have k4 := HKA.out.cell (p := ⟨w.heap.size, 4, none⟩) (fun h => h) c4
        clear hown1 hg1))
    · have HREL : Hid (MdCut W cch cep ns fr jn (.pointer (some ⟨w1.heap.size, 0, none⟩)) (w1.alloc (.cells #[.int .i64 cch, .int .u64 (cep + 1), .slice a1 ns.length cp1, .bool fr, .int .i64 jn] 26))) :=
        Lib.hid ⟨_, a1, cp1, rfl, heap_alloc_new _ _, row_keptI HO1.out ((Kept.refl NoB w1).alloc _) (fun _ _ h => h), HKA.out.size, HKA.out.alloc _⟩
      go_wp2_with fail
      go_meet
      exact HREL.out
    · have HREL : Hid (MdCut W cch cep ns fr jn (.pointer (some ⟨W.heap.size, 0, none⟩)) (((((w1.setCell ⟨W.heap.size, 0, none⟩ (.int .i64 cch)).setCell ⟨W.heap.size, 1, none⟩ (.int .u64 (cep + 1))).setCell ⟨W.heap.size, 2, none⟩ (.slice a1 ns.length cp1)).setCell ⟨W.heap.size, 3, none⟩ (.bool fr)).setCell ⟨W.heap.size, 4, none⟩ (.int .i64 jn))) :=
        Lib.hid ⟨_, a1, cp1, rfl, bset5 (bset5 (bset5 (bset5 (bset5 HZ1.out 0 (.int .i64 cch)) 1 (.int .u64 (cep + 1))) 2 (.slice a1 ns.length cp1)) 3 (.bool fr)) 4 (.int .i64 jn),
          row_keptI HO1.out ((((((Kept.refl (fun k => k = W.heap.size) w1).setCell (p := ⟨W.heap.size, 0, none⟩) (.inl rfl) (.int .i64 cch)).setCell (p := ⟨W.heap.size, 1, none⟩) (.inl rfl) (.int .u64 (cep + 1))).setCell (p := ⟨W.heap.size, 2, none⟩) (.inl rfl) (.slice a1 ns.length cp1)).setCell (p := ⟨W.heap.size, 3, none⟩) (.inl rfl) (.bool fr)).setCell (p := ⟨W.heap.size, 4, none⟩) (.inl rfl) (.int .i64 jn)) (fun k hk e => HO1.out.ne HZ1.out (by decide) k hk e), Nat.le_refl _,
          ((((HKA.out.setCell (p := ⟨W.heap.size, 0, none⟩) (.inr (Nat.le_refl _)) (.int .i64 cch)).setCell (p := ⟨W.heap.size, 1, none⟩) (.inr (Nat.le_refl _)) (.int .u64 (cep + 1))).setCell (p := ⟨W.heap.size, 2, none⟩) (.inr (Nat.le_refl _)) (.slice a1 ns.length cp1)).setCell (p := ⟨W.heap.size, 3, none⟩) (.inr (Nat.le_refl _)) (.bool fr)).setCell (p := ⟨W.heap.size, 4, none⟩) (.inr (Nat.le_refl _)) (.int .i64 jn)⟩
      clear z0 z1 z2 z3 z4 y0 y1 y2 y3 y4 k0 k1 k2 k3 k4
      go_wp2_with fail
      go_meet
      exact HREL.out
  case rest =>
    obtain ⟨s5, a1, cp1, rfl, h5x, ho, hs5, hk⟩ := hcut
    have HS := Lib.hid h5x
    have HO := Lib.hid ho
    have HX2 := Lib.hid (hk.heap (fun h => h) HBX.out)
    have HC2 := Lib.hid (hk.heap (fun h => h) HCX.out)
    have HT2 := Lib.hid (hk.heap (fun h => h) HTX.out)
    have HK2 := Lib.hid (HKW.out.trans hk (fun _ _ h => h))
    have hn1 : ¬ w.heap.size + 1 + 1 = s5 := fun h => by have := HSZ.out; omega
    have hn2 : ¬ s5 = w.heap.size + 1 + 1 := fun h => hn1 h.symm
    have hn3 : ¬ w.heap.size + 1 = s5 := fun h => by have := HSZ.out; omega
    have hn4 : ¬ s5 = w.heap.size + 1 := fun h => hn3 h.symm
    have hn5 : ¬ w.heap.size = s5 := fun h => by have := HSZ.out; omega
    have hn6 : ¬ s5 = w.heap.size := fun h => hn5 h.symm
    have HSB : Hid (w.heap.size ≤ s5) := Lib.hid (by have := HSZ.out; omega)
    have HN3 : Hid (NSl wc F (.slice a ns.length cap) ns) := Lib.hid (HNW.out _ HK2.out)
    have HWC : Hid (W.heap.size ≤ wc.heap.size) := Lib.hid hk.size
    obtain ⟨m0, m1, m2, m3⟩ := cells4c HC2.out
    obtain ⟨v0, v1, v2, v3, v4⟩ := cells5 HS.out
    obtain ⟨f0, f1, f2, f3, f4⟩ := frz5 HS.out
    clear c0 c1 c2 c3 c4 hq1 hq2 h5x ho hk hs5 hwr
    by_cases q1 : kd = 1
    · subst q1
      obtain ⟨c0, c1, c2, c3, c4⟩ := cells5 HX2.out
      by_cases hj : jn = nd
      · subst hj
        have HRR : Hid (R = ⟨cch, cep + 1, ns, fr, 0⟩) := Lib.hid (by rw [HR.out]; unfold madeC; rw [if_pos rfl, if_pos rfl])
        have HWL : Hid (ns.length ≤ 1000) := Lib.hid hnl
        go_upto_region 16 with fail
        have H54 : (wc.setCell ⟨s5, 4, none⟩ (.int .i64 0)).heap[s5]? = some (.cells #[.int .i64 cch, .int .u64 (cep + 1), .slice a1 ns.length cp1, .bool fr, .int .i64 0] 26 (0, 0)) := bset5 HS.out 4 (.int .i64 0)
        have HTn4 := bother HT2.out 4 (.int .i64 0) (show s5 ≠ w.heap.size + 2 from hn2)
        have HKn4 := (HK2.out).setCell (p := ⟨s5, 4, none⟩) (.inr HSB.out) (.int .i64 0)
        have HOn4 := row_keptI HO.out ((Kept.refl (fun k => k = s5) wc).setCell (p := ⟨s5, 4, none⟩) (.inl rfl) (.int .i64 0)) (fun k hk e => (HO.out).ne HS.out (by decide) k hk e)
        obtain ⟨W2, hW2⟩ : ∃ W, W = (wc.setCell ⟨s5, 4, none⟩ (.int .i64 0)) := ⟨_, rfl⟩
        have H5 := H54
        have HTn := HTn4
        have HKn := HKn4
        have HOn := HOn4
        rw [← hW2] at H5 HTn HKn HOn ⊢
        clear hW2 H54 HTn4 HKn4 HOn4 v0 v1 v2 v3 v4 f0 f1 f2 f3 f4 hn1 hn2 hn3 hn4 hn5 hn6
        obtain ⟨d0, d1, d2, d3, d4⟩ := cells5 H5
        obtain ⟨e0, e1, e2, e3, e4⟩ := cells5 HTn
        obtain ⟨g0, g1, g2, g3, g4⟩ := frz5 HTn
        have HTn := Lib.hid HTn
        have HKn := Lib.hid HKn
        have HNn := Lib.hid (HOn.nslB)
        clear H5 HOn
        go_wp2
        have HF := bset5 (bset5 (bset5 (bset5 (bset5 HTn.out 0 (.int .i64 cch)) 1 (.int .u64 (cep + 1))) 2 (.slice a1 ns.length cp1)) 3 (.bool fr)) 4 (.int .i64 0)
        have HKE := ((((HKn.out.setCell (p := ⟨w.heap.size + 2, 0, none⟩) (.inr (Nat.le_add_right _ _)) (.int .i64 cch)).setCell (p := ⟨w.heap.size + 2, 1, none⟩) (.inr (Nat.le_add_right _ _)) (.int .u64 (cep + 1))).setCell (p := ⟨w.heap.size + 2, 2, none⟩) (.inr (Nat.le_add_right _ _)) (.slice a1 ns.length cp1)).setCell (p := ⟨w.heap.size + 2, 3, none⟩) (.inr (Nat.le_add_right _ _)) (.bool fr)).setCell (p := ⟨w.heap.size + 2, 4, none⟩) (.inr (Nat.le_add_right _ _)) (.int .i64 0)
        have HKS := (((((Kept.refl (fun k => k = w.heap.size + 2) W2).setCell (p := ⟨w.heap.size + 2, 0, none⟩) (.inl rfl) (.int .i64 cch)).setCell (p := ⟨w.heap.size + 2, 1, none⟩) (.inl rfl) (.int .u64 (cep + 1))).setCell (p := ⟨w.heap.size + 2, 2, none⟩) (.inl rfl) (.slice a1 ns.length cp1)).setCell (p := ⟨w.heap.size + 2, 3, none⟩) (.inl rfl) (.bool fr)).setCell (p := ⟨w.heap.size + 2, 4, none⟩) (.inl rfl) (.int .i64 0)
        have HNE := (HNn.out.kept HKS (fun k _ h e => by have := HSZ.out; omega)).mono (G := fun k => w.heap.size ≤ k) (fun k _ h => by have := HSZ.out; omega)
        clear HKS d0 d1 d2 d3 d4 e0 e1 e2 e3 e4 g0 g1 g2 g3 g4 m0 m1 m2 m3
        obtain ⟨r0, r1, r2, r3, r4⟩ := cells5 (x0 := .int .i64 cch) (x1 := .int .u64 (cep + 1)) (x2 := .slice a1 ns.length cp1) (x3 := .bool fr) (x4 := .int .i64 0) HF
        clear HF HTn
        generalize hW : World.setCell _ _ _ = W3 at r0 r1 r2 r3 r4 HKE HNE ⊢
        rw [HRR.out]
        exact bodyPost_ret (v := .agg #[.int .i64 cch, .int .u64 (cep + 1), .slice a1 ns.length cp1, .bool fr, .int .i64 0]) (by simp [results, Tryd.results62, go_sem, r0, r1, r2, r3, r4]) rfl ⟨_, rfl, ⟨_, rfl, HNE, HEB.out.1, HEB.out.2, by have := HWL.out; simpa using this⟩, HKE⟩
      · have hjb : (jn == nd) = false := by simpa using hj
        obtain ⟨m, hm⟩ : ∃ m, m = ns.length - 1 := ⟨_, rfl⟩
        have hml : ns.length = m + 1 := by omega
        obtain ⟨b, o, rfl, _, _, hcl⟩ := HN3.out.at_ (j := ns.length - 1) (by omega)
        rw [← hm] at hcl
        have HLL := HLS.out
        rw [← hm] at HLL
        obtain ⟨x, hx⟩ : ∃ x, x = ns.getD m 0 := ⟨_, rfl⟩
        rw [← hx] at hcl HLL
        have hxe : Cf.last ⟨cch, cep, ns, fr, jn⟩ = x := HLL
        have HRX : Hid (R = ⟨cch, cep + 1, wo ns nd, fr && decide (x ≠ nd), jn⟩) := Lib.hid (by rw [HR.out]; unfold madeC; rw [if_pos rfl, if_neg (show ¬ (Cf.mk cch cep ns fr jn).jn = nd from hj), hxe])
        have HWT : Hid (∀ w', Kept (fun k => k = s5) wc w' → Calls Tryd.prog 90 #[.slice (some ⟨b, o, none⟩) ns.length cap, .int .i64 nd] w' fun e w'' => ∃ v', e = .returned v' ∧ IOwn w'.heap.size w'' v' (wo ns nd) ∧ Kept NoB w' w'') := Lib.hid (fun w' hk => by
          have hnn : NSl w' (fun _ => True) (.slice (some ⟨b, o, none⟩) ns.length cap) ns := by
            have hz := (HNW.out _ (Kept.refl NoB w)).mono (G := fun k => k < w.heap.size) (fun k hk _ => hk)
            exact ((hz.kept HK2.out (fun _ _ _ h => h)).kept hk (fun k _ h1 h2 => by have := HSB.out; omega)).mono (fun _ _ _ => trivial)
          exact Without_any _ ns nd _ w' hnn (by omega))
        have HWO : Hid ((wo ns nd).length ≤ 1000) := Lib.hid (by have : (wo ns nd).length ≤ ns.length := List.length_filter_le _ _; omega)
        obtain ⟨M, hM⟩ : ∃ M, M = wo ns nd := ⟨_, rfl⟩
        rw [← hM] at HRX HWT HWO
        have HML := Lib.hid hml
        clear hxe hm hx hM HLL hj
        rw [hml] at h1 h5 hl5 c2 HS HX2 v2 ⊢
        rw [hml] at HWT HO
        clear hml
        by_cases hl : x = nd
        · subst hl
          have HRR : Hid (R = ⟨cch, cep + 1, M, false, jn⟩) := Lib.hid (by rw [HRX.out]; simp)
          have HWL := HWO
          go_upto_region 7 with fail
          have hwm : IntKind.i64.wrap (m : Int) = (m : Int) := IntWalk.i64_in _ (by omega)
          have hwn : IntKind.i64.wrap (((m + 1 : Nat) : Int) - 1) = (m : Int) := by rw [show ((m + 1 : Nat) : Int) - 1 = (m : Int) by omega]; exact hwm
          have hmz : (0 : Int) ≤ (m : Int) := by omega
          have hmy : (m : Int) < ((m + 1 : Nat) : Int) := by omega
          have hmx : (m : Int) < (m : Int) + 1 := by omega
          go_region_held3 (fun w' => w'.cell? ⟨w.heap.size, 2, none⟩ = some (.slice (some ⟨b, o, none⟩) (m + 1) cap) ∧ w'.cell? ⟨b, o + m, none⟩ = some (.int .i64 x) ∧ w'.cell? ⟨w.heap.size + 1, 3, none⟩ = some (.int .i64 x))
            (first | (with_reducible exact ⟨cell_drew c2, cell_drew hcl, cell_drew m3⟩) | go_keep)
            (fail)
          have u3 : wc.drew.frozen? ⟨s5, 3, none⟩ = false := f3
          go_upto_region 9 with fail
          have HS3 : Hid ((wc.setCell ⟨s5, 3, none⟩ (.bool false)).drew.heap[s5]? = some (.cells #[.int .i64 cch, .int .u64 (cep + 1), .slice a1 (m + 1) cp1, .bool false, .int .i64 jn] 26 (0, 0))) := Lib.hid (bset5 (w := wc) HS.out 3 (.bool false))
          have HT3 : Hid ((wc.setCell ⟨s5, 3, none⟩ (.bool false)).drew.heap[w.heap.size + 2]? = _) := Lib.hid (bother (w := wc) HT2.out 3 (.bool false) (show s5 ≠ w.heap.size + 2 from hn2))
          have HC3 : Hid ((wc.setCell ⟨s5, 3, none⟩ (.bool false)).drew.heap[w.heap.size + 1]? = _) := Lib.hid (bother (w := wc) HC2.out 3 (.bool false) (show s5 ≠ w.heap.size + 1 from hn4))
          have HX3 : Hid ((wc.setCell ⟨s5, 3, none⟩ (.bool false)).drew.heap[w.heap.size]? = _) := Lib.hid (bother (w := wc) HX2.out 3 (.bool false) (show s5 ≠ w.heap.size from hn6))
          have HK3 := Lib.hid (HK2.out.setCell (p := ⟨s5, 3, none⟩) (.inr HSB.out) (.bool false)).drew
          have HKW3 : Hid (Kept (fun k => k = s5) wc (wc.setCell ⟨s5, 3, none⟩ (.bool false)).drew) := Lib.hid ((Kept.refl (fun k => k = s5) wc).setCell (p := ⟨s5, 3, none⟩) (.inl rfl) (.bool false)).drew
          clear hwm hwn hmz hmy hmx
          obtain ⟨Wa, hWa⟩ : ∃ W, W = (wc.setCell ⟨s5, 3, none⟩ (.bool false)).drew := ⟨_, rfl⟩
          rw [← hWa] at HS3 HT3 HC3 HX3 HK3 HKW3 ⊢
          clear hWa c0 c1 c2 c3 c4 m0 m1 m2 m3 v0 v1 v2 v3 v4 f0 f1 f2 f3 f4 hcl u3
          obtain ⟨c0, c1, c2, c3, c4⟩ := cells5 HX3.out
          obtain ⟨m0, m1, m2, m3⟩ := cells4c HC3.out
          go_wp2_with fail
          with_reducible refine (HWT.out _ HKW3.out).mono ?_
          rintro e wb ⟨v', rfl, hv', hkb⟩
          obtain ⟨va, vc, rfl⟩ := hv'.form
          have HSb := Lib.hid (hkb.heap (fun h => h) HS3.out)
          have HTb := Lib.hid (hkb.heap (fun h => h) HT3.out)
          have HKb := Lib.hid (HK3.out.trans hkb (fun _ _ h => h))
          have HOb : Hid (IOwn W.heap.size wb (.slice va M.length vc) M) := Lib.hid (hv'.low (by have := HWC.out; have := HKW3.out.size; omega))
          clear c0 c1 c2 c3 c4 m0 m1 m2 m3 hv' hkb
          obtain ⟨v0, v1, v2, v3, v4⟩ := cells5 HSb.out
          obtain ⟨f0, f1, f2, f3, f4⟩ := frz5 HSb.out
          go_upto_region 16 with fail
          have H52 : (wb.setCell ⟨s5, 2, none⟩ (.slice va M.length vc)).heap[s5]? = some (.cells #[.int .i64 cch, .int .u64 (cep + 1), .slice va M.length vc, .bool false, .int .i64 jn] 26 (0, 0)) := bset5 HSb.out 2 (.slice va M.length vc)
          have HTn2 := bother HTb.out 2 (.slice va M.length vc) (show s5 ≠ w.heap.size + 2 from hn2)
          have HKn2 := (HKb.out).setCell (p := ⟨s5, 2, none⟩) (.inr HSB.out) (.slice va M.length vc)
          have HOn2 := row_keptI HOb.out ((Kept.refl (fun k => k = s5) wb).setCell (p := ⟨s5, 2, none⟩) (.inl rfl) (.slice va M.length vc)) (fun k hk e => (HOb.out).ne HSb.out (by decide) k hk e)
          obtain ⟨W2, hW2⟩ : ∃ W, W = (wb.setCell ⟨s5, 2, none⟩ (.slice va M.length vc)) := ⟨_, rfl⟩
          have H5 := H52
          have HTn := HTn2
          have HKn := HKn2
          have HOn := HOn2
          rw [← hW2] at H5 HTn HKn HOn ⊢
          clear hW2 H52 HTn2 HKn2 HOn2 v0 v1 v2 v3 v4 f0 f1 f2 f3 f4 hn1 hn2 hn3 hn4 hn5 hn6
          obtain ⟨d0, d1, d2, d3, d4⟩ := cells5 H5
          obtain ⟨e0, e1, e2, e3, e4⟩ := cells5 HTn
          obtain ⟨g0, g1, g2, g3, g4⟩ := frz5 HTn
          have HTn := Lib.hid HTn
          have HKn := Lib.hid HKn
          have HNn := Lib.hid (HOn.nslB)
          clear H5 HOn
          go_wp2
          have HF := bset5 (bset5 (bset5 (bset5 (bset5 HTn.out 0 (.int .i64 cch)) 1 (.int .u64 (cep + 1))) 2 (.slice va M.length vc)) 3 (.bool false)) 4 (.int .i64 jn)
          have HKE := ((((HKn.out.setCell (p := ⟨w.heap.size + 2, 0, none⟩) (.inr (Nat.le_add_right _ _)) (.int .i64 cch)).setCell (p := ⟨w.heap.size + 2, 1, none⟩) (.inr (Nat.le_add_right _ _)) (.int .u64 (cep + 1))).setCell (p := ⟨w.heap.size + 2, 2, none⟩) (.inr (Nat.le_add_right _ _)) (.slice va M.length vc)).setCell (p := ⟨w.heap.size + 2, 3, none⟩) (.inr (Nat.le_add_right _ _)) (.bool false)).setCell (p := ⟨w.heap.size + 2, 4, none⟩) (.inr (Nat.le_add_right _ _)) (.int .i64 jn)
          have HKS := (((((Kept.refl (fun k => k = w.heap.size + 2) W2).setCell (p := ⟨w.heap.size + 2, 0, none⟩) (.inl rfl) (.int .i64 cch)).setCell (p := ⟨w.heap.size + 2, 1, none⟩) (.inl rfl) (.int .u64 (cep + 1))).setCell (p := ⟨w.heap.size + 2, 2, none⟩) (.inl rfl) (.slice va M.length vc)).setCell (p := ⟨w.heap.size + 2, 3, none⟩) (.inl rfl) (.bool false)).setCell (p := ⟨w.heap.size + 2, 4, none⟩) (.inl rfl) (.int .i64 jn)
          have HNE := (HNn.out.kept HKS (fun k _ h e => by have := HSZ.out; omega)).mono (G := fun k => w.heap.size ≤ k) (fun k _ h => by have := HSZ.out; omega)
          clear HKS d0 d1 d2 d3 d4 e0 e1 e2 e3 e4 g0 g1 g2 g3 g4
          obtain ⟨r0, r1, r2, r3, r4⟩ := cells5 (x0 := .int .i64 cch) (x1 := .int .u64 (cep + 1)) (x2 := .slice va M.length vc) (x3 := .bool false) (x4 := .int .i64 jn) HF
          clear HF HTn
          generalize hW : World.setCell _ _ _ = W3 at r0 r1 r2 r3 r4 HKE HNE ⊢
          rw [HRR.out]
          exact bodyPost_ret (v := .agg #[.int .i64 cch, .int .u64 (cep + 1), .slice va M.length vc, .bool false, .int .i64 jn]) (by simp [results, Tryd.results62, go_sem, r0, r1, r2, r3, r4]) rfl ⟨_, rfl, ⟨_, rfl, HNE, HEB.out.1, HEB.out.2, by have := HWL.out; simpa using this⟩, HKE⟩
        · have hlb : (x == nd) = false := by simpa using hl
          have HRR : Hid (R = ⟨cch, cep + 1, M, fr, jn⟩) := Lib.hid (by rw [HRX.out]; simp [hl])
          have HWL := HWO
          go_upto_region 7 with fail
          have hwm : IntKind.i64.wrap (m : Int) = (m : Int) := IntWalk.i64_in _ (by omega)
          have hwn : IntKind.i64.wrap (((m + 1 : Nat) : Int) - 1) = (m : Int) := by rw [show ((m + 1 : Nat) : Int) - 1 = (m : Int) by omega]; exact hwm
          have hmz : (0 : Int) ≤ (m : Int) := by omega
          have hmy : (m : Int) < ((m + 1 : Nat) : Int) := by omega
          have hmx : (m : Int) < (m : Int) + 1 := by omega
          go_region_held3 (fun w' => w'.cell? ⟨w.heap.size, 2, none⟩ = some (.slice (some ⟨b, o, none⟩) (m + 1) cap) ∧ w'.cell? ⟨b, o + m, none⟩ = some (.int .i64 x) ∧ w'.cell? ⟨w.heap.size + 1, 3, none⟩ = some (.int .i64 nd))
            (first | (with_reducible exact ⟨cell_drew c2, cell_drew hcl, cell_drew m3⟩) | go_keep)
            (fail)
          go_upto_region 9 with fail
          have HS3 : Hid (wc.drew.heap[s5]? = some (.cells #[.int .i64 cch, .int .u64 (cep + 1), .slice a1 (m + 1) cp1, .bool fr, .int .i64 jn] 26 (0, 0))) := Lib.hid HS.out
          have HT3 : Hid (wc.drew.heap[w.heap.size + 2]? = some (.cells #[.int .i64 0, .int .u64 0, .slice none 0 0, .bool false, .int .i64 0] 26 (0, 0))) := Lib.hid HT2.out
          have HC3 : Hid (wc.drew.heap[w.heap.size + 1]? = _) := Lib.hid HC2.out
          have HX3 : Hid (wc.drew.heap[w.heap.size]? = _) := Lib.hid HX2.out
          have HK3 := Lib.hid HK2.out.drew
          have HKW3 : Hid (Kept (fun k => k = s5) wc wc.drew) := Lib.hid (Kept.refl _ wc).drew
          clear hwm hwn hmz hmy hmx
          obtain ⟨Wa, hWa⟩ : ∃ W, W = wc.drew := ⟨_, rfl⟩
          rw [← hWa] at HS3 HT3 HC3 HX3 HK3 HKW3 ⊢
          clear hWa c0 c1 c2 c3 c4 m0 m1 m2 m3 v0 v1 v2 v3 v4 f0 f1 f2 f3 f4 hcl
          obtain ⟨c0, c1, c2, c3, c4⟩ := cells5 HX3.out
          obtain ⟨m0, m1, m2, m3⟩ := cells4c HC3.out
          go_wp2_with fail
          with_reducible refine (HWT.out _ HKW3.out).mono ?_
          rintro e wb ⟨v', rfl, hv', hkb⟩
          obtain ⟨va, vc, rfl⟩ := hv'.form
          have HSb := Lib.hid (hkb.heap (fun h => h) HS3.out)
          have HTb := Lib.hid (hkb.heap (fun h => h) HT3.out)
          have HKb := Lib.hid (HK3.out.trans hkb (fun _ _ h => h))
          have HOb : Hid (IOwn W.heap.size wb (.slice va M.length vc) M) := Lib.hid (hv'.low (by have := HWC.out; have := HKW3.out.size; omega))
          clear c0 c1 c2 c3 c4 m0 m1 m2 m3 hv' hkb
          obtain ⟨v0, v1, v2, v3, v4⟩ := cells5 HSb.out
          obtain ⟨f0, f1, f2, f3, f4⟩ := frz5 HSb.out
          go_upto_region 16 with fail
          have H52 : (wb.setCell ⟨s5, 2, none⟩ (.slice va M.length vc)).heap[s5]? = some (.cells #[.int .i64 cch, .int .u64 (cep + 1), .slice va M.length vc, .bool fr, .int .i64 jn] 26 (0, 0)) := bset5 HSb.out 2 (.slice va M.length vc)
          have HTn2 := bother HTb.out 2 (.slice va M.length vc) (show s5 ≠ w.heap.size + 2 from hn2)
          have HKn2 := (HKb.out).setCell (p := ⟨s5, 2, none⟩) (.inr HSB.out) (.slice va M.length vc)
          have HOn2 := row_keptI HOb.out ((Kept.refl (fun k => k = s5) wb).setCell (p := ⟨s5, 2, none⟩) (.inl rfl) (.slice va M.length vc)) (fun k hk e => (HOb.out).ne HSb.out (by decide) k hk e)
          obtain ⟨W2, hW2⟩ : ∃ W, W = (wb.setCell ⟨s5, 2, none⟩ (.slice va M.length vc)) := ⟨_, rfl⟩
          have H5 := H52
          have HTn := HTn2
          have HKn := HKn2
          have HOn := HOn2
          rw [← hW2] at H5 HTn HKn HOn ⊢
          clear hW2 H52 HTn2 HKn2 HOn2 v0 v1 v2 v3 v4 f0 f1 f2 f3 f4 hn1 hn2 hn3 hn4 hn5 hn6
          obtain ⟨d0, d1, d2, d3, d4⟩ := cells5 H5
          obtain ⟨e0, e1, e2, e3, e4⟩ := cells5 HTn
          obtain ⟨g0, g1, g2, g3, g4⟩ := frz5 HTn
          have HTn := Lib.hid HTn
          have HKn := Lib.hid HKn
          have HNn := Lib.hid (HOn.nslB)
          clear H5 HOn
          go_wp2
          have HF := bset5 (bset5 (bset5 (bset5 (bset5 HTn.out 0 (.int .i64 cch)) 1 (.int .u64 (cep + 1))) 2 (.slice va M.length vc)) 3 (.bool fr)) 4 (.int .i64 jn)
          have HKE := ((((HKn.out.setCell (p := ⟨w.heap.size + 2, 0, none⟩) (.inr (Nat.le_add_right _ _)) (.int .i64 cch)).setCell (p := ⟨w.heap.size + 2, 1, none⟩) (.inr (Nat.le_add_right _ _)) (.int .u64 (cep + 1))).setCell (p := ⟨w.heap.size + 2, 2, none⟩) (.inr (Nat.le_add_right _ _)) (.slice va M.length vc)).setCell (p := ⟨w.heap.size + 2, 3, none⟩) (.inr (Nat.le_add_right _ _)) (.bool fr)).setCell (p := ⟨w.heap.size + 2, 4, none⟩) (.inr (Nat.le_add_right _ _)) (.int .i64 jn)
          have HKS := (((((Kept.refl (fun k => k = w.heap.size + 2) W2).setCell (p := ⟨w.heap.size + 2, 0, none⟩) (.inl rfl) (.int .i64 cch)).setCell (p := ⟨w.heap.size + 2, 1, none⟩) (.inl rfl) (.int .u64 (cep + 1))).setCell (p := ⟨w.heap.size + 2, 2, none⟩) (.inl rfl) (.slice va M.length vc)).setCell (p := ⟨w.heap.size + 2, 3, none⟩) (.inl rfl) (.bool fr)).setCell (p := ⟨w.heap.size + 2, 4, none⟩) (.inl rfl) (.int .i64 jn)
          have HNE := (HNn.out.kept HKS (fun k _ h e => by have := HSZ.out; omega)).mono (G := fun k => w.heap.size ≤ k) (fun k _ h => by have := HSZ.out; omega)
          clear HKS d0 d1 d2 d3 d4 e0 e1 e2 e3 e4 g0 g1 g2 g3 g4
          obtain ⟨r0, r1, r2, r3, r4⟩ := cells5 (x0 := .int .i64 cch) (x1 := .int .u64 (cep + 1)) (x2 := .slice va M.length vc) (x3 := .bool fr) (x4 := .int .i64 jn) HF
          clear HF HTn
          generalize hW : World.setCell _ _ _ = W3 at r0 r1 r2 r3 r4 HKE HNE ⊢
          rw [HRR.out]
          exact bodyPost_ret (v := .agg #[.int .i64 cch, .int .u64 (cep + 1), .slice va M.length vc, .bool fr, .int .i64 jn]) (by simp [results, Tryd.results62, go_sem, r0, r1, r2, r3, r4]) rfl ⟨_, rfl, ⟨_, rfl, HNE, HEB.out.1, HEB.out.2, by have := HWL.out; simpa using this⟩, HKE⟩
    · have b1 : (kd == 1) = false := by simpa using q1
      by_cases q2 : kd = 2
      · subst q2
        have HRR : Hid (R = ⟨cch, cep + 1, ns, fr, nd⟩) := Lib.hid (by rw [HR.out]; unfold madeC; rw [if_neg (by decide), if_pos rfl])
        have HWL : Hid (ns.length ≤ 1000) := Lib.hid hnl
        go_upto_region 16 with fail
        have H54 : (wc.setCell ⟨s5, 4, none⟩ (.int .i64 nd)).heap[s5]? = some (.cells #[.int .i64 cch, .int .u64 (cep + 1), .slice a1 ns.length cp1, .bool fr, .int .i64 nd] 26 (0, 0)) := bset5 HS.out 4 (.int .i64 nd)
        have HTn4 := bother HT2.out 4 (.int .i64 nd) (show s5 ≠ w.heap.size + 2 from hn2)
        have HKn4 := (HK2.out).setCell (p := ⟨s5, 4, none⟩) (.inr HSB.out) (.int .i64 nd)
        have HOn4 := row_keptI HO.out ((Kept.refl (fun k => k = s5) wc).setCell (p := ⟨s5, 4, none⟩) (.inl rfl) (.int .i64 nd)) (fun k hk e => (HO.out).ne HS.out (by decide) k hk e)
        obtain ⟨W2, hW2⟩ : ∃ W, W = (wc.setCell ⟨s5, 4, none⟩ (.int .i64 nd)) := ⟨_, rfl⟩
        have H5 := H54
        have HTn := HTn4
        have HKn := HKn4
        have HOn := HOn4
        rw [← hW2] at H5 HTn HKn HOn ⊢
        clear hW2 H54 HTn4 HKn4 HOn4 v0 v1 v2 v3 v4 f0 f1 f2 f3 f4 hn1 hn2 hn3 hn4 hn5 hn6
        obtain ⟨d0, d1, d2, d3, d4⟩ := cells5 H5
        obtain ⟨e0, e1, e2, e3, e4⟩ := cells5 HTn
        obtain ⟨g0, g1, g2, g3, g4⟩ := frz5 HTn
        have HTn := Lib.hid HTn
        have HKn := Lib.hid HKn
        have HNn := Lib.hid (HOn.nslB)
        clear H5 HOn
        go_wp2
        have HF := bset5 (bset5 (bset5 (bset5 (bset5 HTn.out 0 (.int .i64 cch)) 1 (.int .u64 (cep + 1))) 2 (.slice a1 ns.length cp1)) 3 (.bool fr)) 4 (.int .i64 nd)
        have HKE := ((((HKn.out.setCell (p := ⟨w.heap.size + 2, 0, none⟩) (.inr (Nat.le_add_right _ _)) (.int .i64 cch)).setCell (p := ⟨w.heap.size + 2, 1, none⟩) (.inr (Nat.le_add_right _ _)) (.int .u64 (cep + 1))).setCell (p := ⟨w.heap.size + 2, 2, none⟩) (.inr (Nat.le_add_right _ _)) (.slice a1 ns.length cp1)).setCell (p := ⟨w.heap.size + 2, 3, none⟩) (.inr (Nat.le_add_right _ _)) (.bool fr)).setCell (p := ⟨w.heap.size + 2, 4, none⟩) (.inr (Nat.le_add_right _ _)) (.int .i64 nd)
        have HKS := (((((Kept.refl (fun k => k = w.heap.size + 2) W2).setCell (p := ⟨w.heap.size + 2, 0, none⟩) (.inl rfl) (.int .i64 cch)).setCell (p := ⟨w.heap.size + 2, 1, none⟩) (.inl rfl) (.int .u64 (cep + 1))).setCell (p := ⟨w.heap.size + 2, 2, none⟩) (.inl rfl) (.slice a1 ns.length cp1)).setCell (p := ⟨w.heap.size + 2, 3, none⟩) (.inl rfl) (.bool fr)).setCell (p := ⟨w.heap.size + 2, 4, none⟩) (.inl rfl) (.int .i64 nd)
        have HNE := (HNn.out.kept HKS (fun k _ h e => by have := HSZ.out; omega)).mono (G := fun k => w.heap.size ≤ k) (fun k _ h => by have := HSZ.out; omega)
        clear HKS d0 d1 d2 d3 d4 e0 e1 e2 e3 e4 g0 g1 g2 g3 g4 m0 m1 m2 m3
        obtain ⟨r0, r1, r2, r3, r4⟩ := cells5 (x0 := .int .i64 cch) (x1 := .int .u64 (cep + 1)) (x2 := .slice a1 ns.length cp1) (x3 := .bool fr) (x4 := .int .i64 nd) HF
        clear HF HTn
        generalize hW : World.setCell _ _ _ = W3 at r0 r1 r2 r3 r4 HKE HNE ⊢
        rw [HRR.out]
        exact bodyPost_ret (v := .agg #[.int .i64 cch, .int .u64 (cep + 1), .slice a1 ns.length cp1, .bool fr, .int .i64 nd]) (by simp [results, Tryd.results62, go_sem, r0, r1, r2, r3, r4]) rfl ⟨_, rfl, ⟨_, rfl, HNE, HEB.out.1, HEB.out.2, by have := HWL.out; simpa using this⟩, HKE⟩
      · have b2 : (kd == 2) = false := by simpa using q2
        by_cases q3 : kd = 3
        · subst q3
          have HRR : Hid (R = ⟨cch, cep + 1, ns ++ [nd], true, 0⟩) := Lib.hid (by rw [HR.out]; unfold madeC; rw [if_neg (by decide), if_neg (by decide), if_pos rfl])
          have HWL : Hid ((ns ++ [nd]).length ≤ 1000) := Lib.hid (by simp; omega)
          have HO1 := Lib.hid (row_keptI HO.out ((Kept.refl NoB wc).alloc (.cells #[.int .i64 nd] 3)) (fun _ _ h => h))
          have HON := Lib.hid (heap_alloc_new wc (.cells #[.int .i64 nd] 3))
          have HSZ2 : Hid (W.heap.size ≤ (wc.alloc (.cells #[.int .i64 nd] 3)).heap.size) := Lib.hid (by have := HWC.out; simp; omega)
          have hl6 : ns.length ≤ 10000 := by omega
          go_upto_region 14 with (at_builtin; refine wpList_append_onei _ rfl (.tmp 56) (.tmp 59) rfl W.heap.size (.slice a1 ns.length cp1) ns rfl HO1.out wc.heap.size nd rfl HON.out hl6 HSZ2.out ?_; intro a2 c2 wb hown1 hg1; have HKG := Lib.hid (((Kept.refl (fun k => (Value.slice a1 ns.length cp1).ownBlock = some k) wc).alloc (.cells #[.int .i64 nd] 3)).grown hg1 (fun k hk => .inl hk)); have HKb := Lib.hid ((HK2.out.alloc (.cells #[.int .i64 nd] 3)).grown hg1 (fun k hk => .inr (by have := (World.ownsRow.lt HO.out k hk).1; have := HSZ.out; omega))); have HSb := Lib.hid (HKG.out.heap (fun e => HO.out.ne HS.out (by decide) s5 e rfl) HS.out); have HTb := Lib.hid (HKG.out.heap (fun e => HO.out.ne HT2.out (by decide) (w.heap.size + 2) e rfl) HT2.out); have HOb := Lib.hid hown1; clear hown1 hg1 m0 m1 m2 m3 v0 v1 v2 v3 v4 f0 f1 f2 f3 f4; obtain ⟨v0, v1, v2, v3, v4⟩ := cells5 HSb.out; obtain ⟨f0, f1, f2, f3, f4⟩ := frz5 HSb.out)
          have hNL : (ns ++ [nd]).length = ns.length + 1 := by simp
          go_upto_region 16 with fail
          have H52 : (wb.setCell ⟨s5, 2, none⟩ (.slice a2 (ns.length + 1) c2)).heap[s5]? = some (.cells #[.int .i64 cch, .int .u64 (cep + 1), .slice a2 (ns.length + 1) c2, .bool fr, .int .i64 jn] 26 (0, 0)) := bset5 HSb.out 2 (.slice a2 (ns.length + 1) c2)
          have HTn2 := bother HTb.out 2 (.slice a2 (ns.length + 1) c2) (show s5 ≠ w.heap.size + 2 from hn2)
          have HKn2 := (HKb.out).setCell (p := ⟨s5, 2, none⟩) (.inr HSB.out) (.slice a2 (ns.length + 1) c2)
          have HOn2 := row_keptI HOb.out ((Kept.refl (fun k => k = s5) wb).setCell (p := ⟨s5, 2, none⟩) (.inl rfl) (.slice a2 (ns.length + 1) c2)) (fun k hk e => (HOb.out).ne HSb.out (by decide) k hk e)
          have H53 : ((wb.setCell ⟨s5, 2, none⟩ (.slice a2 (ns.length + 1) c2)).setCell ⟨s5, 3, none⟩ (.bool true)).heap[s5]? = some (.cells #[.int .i64 cch, .int .u64 (cep + 1), .slice a2 (ns.length + 1) c2, .bool true, .int .i64 jn] 26 (0, 0)) := bset5 H52 3 (.bool true)
          have HTn3 := bother HTn2 3 (.bool true) (show s5 ≠ w.heap.size + 2 from hn2)
          have HKn3 := (HKn2).setCell (p := ⟨s5, 3, none⟩) (.inr HSB.out) (.bool true)
          have HOn3 := row_keptI HOn2 ((Kept.refl (fun k => k = s5) (wb.setCell ⟨s5, 2, none⟩ (.slice a2 (ns.length + 1) c2))).setCell (p := ⟨s5, 3, none⟩) (.inl rfl) (.bool true)) (fun k hk e => (HOn2).ne H52 (by decide) k hk e)
          have H54 : (((wb.setCell ⟨s5, 2, none⟩ (.slice a2 (ns.length + 1) c2)).setCell ⟨s5, 3, none⟩ (.bool true)).setCell ⟨s5, 4, none⟩ (.int .i64 0)).heap[s5]? = some (.cells #[.int .i64 cch, .int .u64 (cep + 1), .slice a2 (ns.length + 1) c2, .bool true, .int .i64 0] 26 (0, 0)) := bset5 H53 4 (.int .i64 0)
          have HTn4 := bother HTn3 4 (.int .i64 0) (show s5 ≠ w.heap.size + 2 from hn2)
          have HKn4 := (HKn3).setCell (p := ⟨s5, 4, none⟩) (.inr HSB.out) (.int .i64 0)
          have HOn4 := row_keptI HOn3 ((Kept.refl (fun k => k = s5) ((wb.setCell ⟨s5, 2, none⟩ (.slice a2 (ns.length + 1) c2)).setCell ⟨s5, 3, none⟩ (.bool true))).setCell (p := ⟨s5, 4, none⟩) (.inl rfl) (.int .i64 0)) (fun k hk e => (HOn3).ne H53 (by decide) k hk e)
          obtain ⟨W2, hW2⟩ : ∃ W, W = (((wb.setCell ⟨s5, 2, none⟩ (.slice a2 (ns.length + 1) c2)).setCell ⟨s5, 3, none⟩ (.bool true)).setCell ⟨s5, 4, none⟩ (.int .i64 0)) := ⟨_, rfl⟩
          have H5 := H54
          have HTn := HTn4
          have HKn := HKn4
          have HOn := HOn4
          rw [← hW2] at H5 HTn HKn HOn ⊢
          clear hNL hW2 H52 HTn2 HKn2 HOn2 H53 HTn3 HKn3 HOn3 H54 HTn4 HKn4 HOn4 v0 v1 v2 v3 v4 f0 f1 f2 f3 f4 hn1 hn2 hn3 hn4 hn5 hn6
          obtain ⟨d0, d1, d2, d3, d4⟩ := cells5 H5
          obtain ⟨e0, e1, e2, e3, e4⟩ := cells5 HTn
          obtain ⟨g0, g1, g2, g3, g4⟩ := frz5 HTn
          have HTn := Lib.hid HTn
          have HKn := Lib.hid HKn
          have HNn := Lib.hid (HOn.nslB)
          clear H5 HOn
          go_wp2
          have HF := bset5 (bset5 (bset5 (bset5 (bset5 HTn.out 0 (.int .i64 cch)) 1 (.int .u64 (cep + 1))) 2 (.slice a2 (ns.length + 1) c2)) 3 (.bool true)) 4 (.int .i64 0)
          have HKE := ((((HKn.out.setCell (p := ⟨w.heap.size + 2, 0, none⟩) (.inr (Nat.le_add_right _ _)) (.int .i64 cch)).setCell (p := ⟨w.heap.size + 2, 1, none⟩) (.inr (Nat.le_add_right _ _)) (.int .u64 (cep + 1))).setCell (p := ⟨w.heap.size + 2, 2, none⟩) (.inr (Nat.le_add_right _ _)) (.slice a2 (ns.length + 1) c2)).setCell (p := ⟨w.heap.size + 2, 3, none⟩) (.inr (Nat.le_add_right _ _)) (.bool true)).setCell (p := ⟨w.heap.size + 2, 4, none⟩) (.inr (Nat.le_add_right _ _)) (.int .i64 0)
          have HKS := (((((Kept.refl (fun k => k = w.heap.size + 2) W2).setCell (p := ⟨w.heap.size + 2, 0, none⟩) (.inl rfl) (.int .i64 cch)).setCell (p := ⟨w.heap.size + 2, 1, none⟩) (.inl rfl) (.int .u64 (cep + 1))).setCell (p := ⟨w.heap.size + 2, 2, none⟩) (.inl rfl) (.slice a2 (ns.length + 1) c2)).setCell (p := ⟨w.heap.size + 2, 3, none⟩) (.inl rfl) (.bool true)).setCell (p := ⟨w.heap.size + 2, 4, none⟩) (.inl rfl) (.int .i64 0)
          have HNE := (HNn.out.kept HKS (fun k _ h e => by have := HSZ.out; omega)).mono (G := fun k => w.heap.size ≤ k) (fun k _ h => by have := HSZ.out; omega)
          clear HKS d0 d1 d2 d3 d4 e0 e1 e2 e3 e4 g0 g1 g2 g3 g4
          obtain ⟨r0, r1, r2, r3, r4⟩ := cells5 (x0 := .int .i64 cch) (x1 := .int .u64 (cep + 1)) (x2 := .slice a2 (ns.length + 1) c2) (x3 := .bool true) (x4 := .int .i64 0) HF
          clear HF HTn
          generalize hW : World.setCell _ _ _ = W3 at r0 r1 r2 r3 r4 HKE HNE ⊢
          rw [HRR.out]
          exact bodyPost_ret (v := .agg #[.int .i64 cch, .int .u64 (cep + 1), .slice a2 (ns.length + 1) c2, .bool true, .int .i64 0]) (by simp [results, Tryd.results62, go_sem, r0, r1, r2, r3, r4]) rfl ⟨_, rfl, ⟨_, rfl, HNE, HEB.out.1, HEB.out.2, by have := HWL.out; simpa using this⟩, HKE⟩
        · have b3 : (kd == 3) = false := by simpa using q3
          have HRR : Hid (R = ⟨cch, cep + 1, ns, false, jn⟩) := Lib.hid (by rw [HR.out]; unfold madeC; rw [if_neg q1, if_neg q2, if_neg q3])
          have HWL : Hid (ns.length ≤ 1000) := Lib.hid hnl
          go_upto_region 16 with fail
          have H53 : (wc.setCell ⟨s5, 3, none⟩ (.bool false)).heap[s5]? = some (.cells #[.int .i64 cch, .int .u64 (cep + 1), .slice a1 ns.length cp1, .bool false, .int .i64 jn] 26 (0, 0)) := bset5 HS.out 3 (.bool false)
          have HTn3 := bother HT2.out 3 (.bool false) (show s5 ≠ w.heap.size + 2 from hn2)
          have HKn3 := (HK2.out).setCell (p := ⟨s5, 3, none⟩) (.inr HSB.out) (.bool false)
          have HOn3 := row_keptI HO.out ((Kept.refl (fun k => k = s5) wc).setCell (p := ⟨s5, 3, none⟩) (.inl rfl) (.bool false)) (fun k hk e => (HO.out).ne HS.out (by decide) k hk e)
          obtain ⟨W2, hW2⟩ : ∃ W, W = (wc.setCell ⟨s5, 3, none⟩ (.bool false)) := ⟨_, rfl⟩
          have H5 := H53
          have HTn := HTn3
          have HKn := HKn3
          have HOn := HOn3
          rw [← hW2] at H5 HTn HKn HOn ⊢
          clear hW2 H53 HTn3 HKn3 HOn3 v0 v1 v2 v3 v4 f0 f1 f2 f3 f4 hn1 hn2 hn3 hn4 hn5 hn6
          obtain ⟨d0, d1, d2, d3, d4⟩ := cells5 H5
          obtain ⟨e0, e1, e2, e3, e4⟩ := cells5 HTn
          obtain ⟨g0, g1, g2, g3, g4⟩ := frz5 HTn
          have HTn := Lib.hid HTn
          have HKn := Lib.hid HKn
          have HNn := Lib.hid (HOn.nslB)
          clear H5 HOn
          go_wp2
          have HF := bset5 (bset5 (bset5 (bset5 (bset5 HTn.out 0 (.int .i64 cch)) 1 (.int .u64 (cep + 1))) 2 (.slice a1 ns.length cp1)) 3 (.bool false)) 4 (.int .i64 jn)
          have HKE := ((((HKn.out.setCell (p := ⟨w.heap.size + 2, 0, none⟩) (.inr (Nat.le_add_right _ _)) (.int .i64 cch)).setCell (p := ⟨w.heap.size + 2, 1, none⟩) (.inr (Nat.le_add_right _ _)) (.int .u64 (cep + 1))).setCell (p := ⟨w.heap.size + 2, 2, none⟩) (.inr (Nat.le_add_right _ _)) (.slice a1 ns.length cp1)).setCell (p := ⟨w.heap.size + 2, 3, none⟩) (.inr (Nat.le_add_right _ _)) (.bool false)).setCell (p := ⟨w.heap.size + 2, 4, none⟩) (.inr (Nat.le_add_right _ _)) (.int .i64 jn)
          have HKS := (((((Kept.refl (fun k => k = w.heap.size + 2) W2).setCell (p := ⟨w.heap.size + 2, 0, none⟩) (.inl rfl) (.int .i64 cch)).setCell (p := ⟨w.heap.size + 2, 1, none⟩) (.inl rfl) (.int .u64 (cep + 1))).setCell (p := ⟨w.heap.size + 2, 2, none⟩) (.inl rfl) (.slice a1 ns.length cp1)).setCell (p := ⟨w.heap.size + 2, 3, none⟩) (.inl rfl) (.bool false)).setCell (p := ⟨w.heap.size + 2, 4, none⟩) (.inl rfl) (.int .i64 jn)
          have HNE := (HNn.out.kept HKS (fun k _ h e => by have := HSZ.out; omega)).mono (G := fun k => w.heap.size ≤ k) (fun k _ h => by have := HSZ.out; omega)
          clear HKS d0 d1 d2 d3 d4 e0 e1 e2 e3 e4 g0 g1 g2 g3 g4 m0 m1 m2 m3
          obtain ⟨r0, r1, r2, r3, r4⟩ := cells5 (x0 := .int .i64 cch) (x1 := .int .u64 (cep + 1)) (x2 := .slice a1 ns.length cp1) (x3 := .bool false) (x4 := .int .i64 jn) HF
          clear HF HTn
          generalize hW : World.setCell _ _ _ = W3 at r0 r1 r2 r3 r4 HKE HNE ⊢
          rw [HRR.out]
          exact bodyPost_ret (v := .agg #[.int .i64 cch, .int .u64 (cep + 1), .slice a1 ns.length cp1, .bool false, .int .i64 jn]) (by simp [results, Tryd.results62, go_sem, r0, r1, r2, r3, r4]) rfl ⟨_, rfl, ⟨_, rfl, HNE, HEB.out.1, HEB.out.2, by have := HWL.out; simpa using this⟩, HKE⟩
end Go.Proofs.YtlnfbfdmicmafaaDoor
