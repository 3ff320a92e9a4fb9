/-
  Layer 30: patches in memory: rows of patches, slices that read as patches.
-/
import Derived.Test.YtiifkcjngajegaaIno4
import Derived.Test.YtiifkcjngajegaaVolB
namespace Go.Proofs.Ytiifkcjngajegaa
open Go.RowKit
set_option linter.unusedVariables false

/-- A patch as it lies: its key, its version, where its data lie. -/
abbrev Pv := Int × Int × (Option Addr × Nat × Nat)
/-- A patch, plainly. -/
abbrev Pt := Int × Int × List Int
abbrev sp30 (x : Option Addr × Nat × Nat) : Value := .slice x.1 x.2.1 x.2.2
def pth (l : List Pv) (i : Nat) : Pv := l.getD i (0, 0, none, 0, 0)
theorem pth_eq {l : List Pv} {i : Nat} (h : i < l.length) : pth l i = l[i] := by unfold pth; rw [List.getD_eq_getElem?_getD, List.getElem?_eq_getElem h]; rfl
def ptl (l : List Pt) (i : Nat) : Pt := l.getD i (0, 0, [])
theorem ptl_eq {l : List Pt} {i : Nat} (h : i < l.length) : ptl l i = l[i] := by unfold ptl; rw [List.getD_eq_getElem?_getD, List.getElem?_eq_getElem h]; rfl
def celP (l : List Pv) : List Value := l.flatMap fun e => [.int .u32 e.1, .int .u64 e.2.1, sp30 e.2.2]
theorem celP_len (l : List Pv) : (celP l).length = l.length * 3 := by
  induction l with
  | nil => rfl
  | cons e r ih => unfold celP at ih ⊢; rw [List.flatMap_cons, List.length_append, ih]; simp; omega
theorem celP_app (l m : List Pv) : celP (l ++ m) = celP l ++ celP m := by unfold celP; rw [List.flatMap_append]
theorem celP_at {l : List Pv} {i : Nat} (h : i < l.length) : (celP l)[i * 3]? = some (.int .u32 (pth l i).1) ∧ (celP l)[i * 3 + 1]? = some (.int .u64 (pth l i).2.1) ∧ (celP l)[i * 3 + 1 + 1]? = some (sp30 (pth l i).2.2) := by
  induction l generalizing i with
  | nil => simp at h
  | cons e r ih =>
    have hc : celP (e :: r) = .int .u32 e.1 :: .int .u64 e.2.1 :: sp30 e.2.2 :: celP r := by unfold celP; rw [List.flatMap_cons]; rfl
    rw [hc]
    cases i with
    | zero => exact ⟨rfl, rfl, rfl⟩
    | succ i =>
      have := ih (i := i) (by simpa using h)
      rw [show (i + 1) * 3 = i * 3 + 1 + 1 + 1 by omega]
      exact this
/-- A slice that reads as these extents, in blocks of F. -/
def PvSl (w : World) (F : Nat → Prop) (v : Value) (l : List Pv) : Prop :=
  ∃ a cap, v = .slice a l.length cap ∧ l.length ≤ cap ∧ cap ≤ maxLen ∧ (a = none → cap = 0) ∧
    (0 < l.length → ∃ b o, a = some ⟨b, o, none⟩ ∧ F b ∧ b < w.heap.size ∧ ∀ j, j < l.length → w.cell? ⟨b, o + j * 3, none⟩ = some (.int .u32 (pth l j).1) ∧ w.cell? ⟨b, o + j * 3 + 1, none⟩ = some (.int .u64 (pth l j).2.1) ∧ w.cell? ⟨b, o + j * 3 + 1 + 1, none⟩ = some (sp30 (pth l j).2.2))
theorem PvSl.nil (w : World) (F : Nat → Prop) : PvSl w F (.slice none 0 0) [] := ⟨none, 0, rfl, Nat.le_refl _, Nat.zero_le _, fun _ => rfl, fun h => absurd h (by simp)⟩
theorem PvSl.kept {S F : Nat → Prop} {w w' : World} {v : Value} {l : List Pv} (h : PvSl w F v l) (hk : Kept S w w') (hs : ∀ k, k < w.heap.size → F k → ¬ S k) : PvSl w' F v l := by
  obtain ⟨a, cap, h1, h2, h3, h4, h5⟩ := h
  refine ⟨a, cap, h1, h2, h3, h4, fun hl => ?_⟩
  obtain ⟨b, o, ha, hF, hb, hc⟩ := h5 hl
  exact ⟨b, o, ha, hF, Nat.lt_of_lt_of_le hb hk.size, fun j hj => ⟨hk.cell (p := ⟨b, o + j * 3, none⟩) (hs b hb hF) (hc j hj).1, hk.cell (p := ⟨b, o + j * 3 + 1, none⟩) (hs b hb hF) (hc j hj).2.1, hk.cell (p := ⟨b, o + j * 3 + 1 + 1, none⟩) (hs b hb hF) (hc j hj).2.2⟩⟩
theorem PvSl.no {F : Nat → Prop} {w w' : World} {v : Value} {l : List Pv} (h : PvSl w F v l) (hk : Kept NoB w w') : PvSl w' F v l := h.kept hk (fun _ _ _ h => h)
theorem PvSl.mono {F G : Nat → Prop} {w : World} {v : Value} {l : List Pv} (h : PvSl w F v l) (hG : ∀ k, k < w.heap.size → F k → G k) : PvSl w G v l := by
  obtain ⟨a, cap, h1, h2, h3, h4, h5⟩ := h
  refine ⟨a, cap, h1, h2, h3, h4, fun hl => ?_⟩
  obtain ⟨b, o, ha, hF, hb, hc⟩ := h5 hl
  exact ⟨b, o, ha, hG b hb hF, hb, hc⟩
theorem PvSl.any {F : Nat → Prop} {w : World} {v : Value} {l : List Pv} (h : PvSl w F v l) : PvSl w (fun _ => True) v l := h.mono (fun _ _ _ => trivial)
theorem PvSl.at_ {F : Nat → Prop} {w : World} {a : Option Addr} {n cap : Nat} {l : List Pv} (h : PvSl w F (.slice a n cap) l) {j : Nat} (hj : j < l.length) :
    ∃ b o, a = some ⟨b, o, none⟩ ∧ F b ∧ b < w.heap.size ∧ w.cell? ⟨b, o + j * 3, none⟩ = some (.int .u32 (pth l j).1) ∧ w.cell? ⟨b, o + j * 3 + 1, none⟩ = some (.int .u64 (pth l j).2.1) ∧ w.cell? ⟨b, o + j * 3 + 1 + 1, none⟩ = some (sp30 (pth l j).2.2) := by
  obtain ⟨a', cap', h1, h2, h3, h4, h5⟩ := h
  injection h1 with h1 _ _
  subst h1
  obtain ⟨b, o, ha, hF, hb, hc⟩ := h5 (by omega)
  exact ⟨b, o, ha, hF, hb, (hc j hj).1, (hc j hj).2⟩
/-- A row of extents of the call's own, of the element type t. -/
def POwn (t : TypeId) (B : Nat) (w : World) (v : Value) (l : List Pv) : Prop := w.ownsRow B t 3 v l.length (celP l)
theorem POwn.nil (t : TypeId) (B : Nat) (w : World) : POwn t B w (.slice none 0 0) [] := World.ownsRow_nil _ _ _ _
theorem POwn.form {t : TypeId} {B : Nat} {w : World} {v : Value} {l : List Pv} (h : POwn t B w v l) : ∃ a c, v = .slice a l.length c := by
  rcases h.2 with ⟨rfl, h0⟩ | ⟨r, cap, cur, rfl, _⟩
  · exact ⟨none, 0, by rw [h0]⟩
  · exact ⟨_, _, rfl⟩
theorem POwn.low {t : TypeId} {B C : Nat} {w : World} {v : Value} {l : List Pv} (h : POwn t B w v l) (hC : C ≤ B) : POwn t C w v l := by
  refine ⟨h.1, ?_⟩
  rcases h.2 with hn | ⟨g, cap, cur, hv, hb, rest⟩
  · exact .inl hn
  · exact .inr ⟨g, cap, cur, hv, by omega, rest⟩
theorem POwn.kept {t : TypeId} {S : Nat → Prop} {B : Nat} {w w' : World} {v : Value} {l : List Pv} (h : POwn t B w v l) (hk : Kept S w w') (hs : ∀ k, v.ownBlock = some k → ¬ S k) : POwn t B w' v l := by
  refine ⟨h.1, ?_⟩
  rcases h.2 with hn | ⟨r, cap, cur, rfl, hb, hr, rest⟩
  · exact .inl hn
  · exact .inr ⟨r, cap, cur, rfl, hb, hk.heap (hs r rfl) hr, rest⟩
theorem POwn.no {t : TypeId} {B : Nat} {w w' : World} {v : Value} {l : List Pv} (h : POwn t B w v l) (hk : Kept NoB w w') : POwn t B w' v l := h.kept hk (fun _ _ h => h)
theorem POwn.drewN {t : TypeId} {B : Nat} {w : World} {v : Value} {l : List Pv} (h : POwn t B w v l) (n : Nat) : POwn t B (w.drewN n) v l := h
theorem POwn.sl {t : TypeId} {B : Nat} {w : World} {v : Value} {l : List Pv} (h : POwn t B w v l) : PvSl w (fun k => B ≤ k) v l := by
  rcases h.2 with ⟨rfl, h0⟩ | ⟨r, cap, cur, rfl, hb, hr, hc, hm, hcs, ht⟩
  · obtain rfl : l = [] := List.eq_nil_of_length_eq_zero h0
    exact PvSl.nil w _
  · refine ⟨_, cap, rfl, hc, hm, (fun h => by cases h), fun hl => ⟨r, 0, rfl, hb, heap_lt hr, fun j hj => ?_⟩⟩
    have hx := World.ownsRow.cellAt (h : w.ownsRow B t 3 (.slice (some ⟨r, 0, none⟩) l.length cap) l.length (celP l))
    rw [Nat.zero_add, hx (j * 3) (by omega), hx (j * 3 + 1) (by omega), hx (j * 3 + 1 + 1) (by omega)]
    exact celP_at hj
/-- append of one extent that lies in a block of its own. -/
theorem run_append_p {T t : TypeId} {i0 : TypeInfo} {z : Value} (ht : Try.prog.underlying T = some (.slice t)) (hi : Try.prog.info? t = some i0) (hz : i0.zero = some z) (h1 : i0.size = 3) (h2 : i0.bytes = 40) (hzs : z.cells.size = 3)
    (w : World) (base : Nat) (ty : TypeId) (v : Value) (cs : List Pv) (hown : POwn t base w v cs) (b : Nat) (e : Pv) (hb : w.heap[b]? = some (.cells #[.int .u32 e.1, .int .u64 e.2.1, sp30 e.2.2] t (0, 0))) (hl : cs.length ≤ 100000) (hbase : base ≤ w.heap.size) :
    ∃ a' c' w', (Builtin.append_ #[T, T] ty #[v, .slice (some ⟨b, 0, none⟩) 1 1]).run Try.prog w = .ok (.slice a' (cs.length + 1) c') w' ∧ POwn t base w' (.slice a' (cs.length + 1) c') (cs ++ [e]) ∧ w.grownBy w' v.ownBlock := by
  obtain ⟨v', w', hrun, r1, r2, _⟩ := run_append_own (P := Try.prog) w base T ty t i0 z 3 40 ht hi hz h1 h2 hzs (by decide) v cs.length (celP cs) hown ⟨b, 0, none⟩ 1 1 [.int .u32 e.1, .int .u64 e.2.1, sp30 e.2.2] rfl (World.news_of_block (cs := #[_, _, _]) hb) (by simp [Value.oneCell']) (by unfold maxLen; omega) (by omega) hbase
  have h3 : POwn t base w' v' (cs ++ [e]) := by unfold POwn; rw [celP_app, List.length_append]; exact r1
  obtain ⟨a', c', he⟩ := h3.form
  rw [List.length_append] at he
  have he : v' = .slice a' (cs.length + 1) c' := he
  subst he
  exact ⟨a', c', w', hrun, h3, r2⟩
theorem wp_append_p {T t : TypeId} {i0 : TypeInfo} {z : Value} (ht : Try.prog.underlying T = some (.slice t)) (hi : Try.prog.info? t = some i0) (hz : i0.zero = some z) (h1 : i0.size = 3) (h2 : i0.bytes = 40) (hzs : z.cells.size = 3)
    (w : World) {o : Oper} {a : Act} {K : Act → World → Prop} {Q : Exit → Act → World → Prop} (s x : Operand)
    (ho : o.op = .call { callee := .builtin .append, args := #[s, x], argTypes := #[T, T] })
    (base : Nat) (v : Value) (cs : List Pv) (hs : a.eval s = v) (hown : POwn t base w v cs) (b : Nat) (e : Pv) (hx : a.eval x = .slice (some ⟨b, 0, none⟩) 1 1) (hb : w.heap[b]? = some (.cells #[.int .u32 e.1, .int .u64 e.2.1, sp30 e.2.2] t (0, 0))) (hl : cs.length ≤ 100000) (hbase : base ≤ w.heap.size)
    (h : ∀ a' c' w', POwn t base w' (.slice a' (cs.length + 1) c') (cs ++ [e]) → w.grownBy w' v.ownBlock → K (a.put o.dst (.slice a' (cs.length + 1) c')) w') : o.wp Try.prog a w K Q := by
  obtain ⟨a', c', w', hrun, r2, r3⟩ := run_append_p ht hi hz h1 h2 hzs w base o.type v cs hown b e hb hl hbase
  unfold Oper.wp execOp
  simp only [ho, resolve, invoke, builtin, Sem.run_bind, Sem.run_pure, Result.andThen_ok, List.map_toArray, List.map_cons, List.map_nil, hs, hx, hrun]
  exact h a' c' w' r2 r3
theorem wpList_append_p {T t : TypeId} {i0 : TypeInfo} {z : Value} (ht : Try.prog.underlying T = some (.slice t)) (hi : Try.prog.info? t = some i0) (hz : i0.zero = some z) (h1 : i0.size = 3) (h2 : i0.bytes = 40) (hzs : z.cells.size = 3)
    (w : World) {ops : Array Oper} {rest : List Oper} {o : Oper} {a : Act} {Q : Exit → Act → World → Prop} (hgd : o.guard = none) (s x : Operand)
    (ho : o.op = .call { callee := .builtin .append, args := #[s, x], argTypes := #[T, T] })
    (base : Nat) (v : Value) (cs : List Pv) (hs : a.eval s = v) (hown : POwn t base w v cs) (b : Nat) (e : Pv) (hx : a.eval x = .slice (some ⟨b, 0, none⟩) 1 1) (hb : w.heap[b]? = some (.cells #[.int .u32 e.1, .int .u64 e.2.1, sp30 e.2.2] t (0, 0))) (hl : cs.length ≤ 100000) (hbase : base ≤ w.heap.size)
    (h : ∀ a' c' w', POwn t base w' (.slice a' (cs.length + 1) c') (cs ++ [e]) → w.grownBy w' v.ownBlock → wpList Try.prog ops Q rest (a.put o.dst (.slice a' (cs.length + 1) c')) w') : wpList Try.prog ops Q (o :: rest) a w :=
  wpList_plain hgd fun K hK => wp_append_p ht hi hz h1 h2 hzs w s x ho base v cs hs hown b e hx hb hl hbase fun a' c' w' r2 r3 => hK _ _ (h a' c' w' r2 r3)
theorem step_append_p {T t : TypeId} {i0 : TypeInfo} {z : Value} (ht : Try.prog.underlying T = some (.slice t)) (hi : Try.prog.info? t = some i0) (hz : i0.zero = some z) (h1 : i0.size = 3) (h2 : i0.bytes = 40) (hzs : z.cells.size = 3)
    (w : World) {ops : Array Oper} {o : Oper} {a : Act} {K : Act → World → Prop} {Q : Exit → Act → World → Prop} {E : Prop} (hgd : o.guard = none) (s x : Operand)
    (ho : o.op = .call { callee := .builtin .append, args := #[s, x], argTypes := #[T, T] })
    (base : Nat) (v : Value) (cs : List Pv) (hs : a.eval s = v) (hown : POwn t base w v cs) (b : Nat) (e : Pv) (hx : a.eval x = .slice (some ⟨b, 0, none⟩) 1 1) (hb : w.heap[b]? = some (.cells #[.int .u32 e.1, .int .u64 e.2.1, sp30 e.2.2] t (0, 0))) (hl : cs.length ≤ 100000) (hbase : base ≤ w.heap.size)
    (h : ∀ a' c' w', POwn t base w' (.slice a' (cs.length + 1) c') (cs ++ [e]) → w.grownBy w' v.ownBlock → K (a.put o.dst (.slice a' (cs.length + 1) c')) w') :
    if Region.wanted o (yielded ops a.tmps) = true then Oper.wp Try.prog o a w K Q else E := by
  have hw : Region.wanted o (yielded ops a.tmps) = true := by simp [Region.wanted, hgd]
  rw [if_pos hw]
  exact wp_append_p ht hi hz h1 h2 hzs w s x ho base v cs hs hown b e hx hb hl hbase h

/-- What lies reads as these patches, their data in blocks of G. -/
def Dat (w : World) (G : Nat → Prop) (ps : List Pv) (l : List Pt) : Prop := ps.length = l.length ∧ ∀ j, j < l.length → (pth ps j).1 = (ptl l j).1 ∧ (pth ps j).2.1 = (ptl l j).2.1 ∧ BSl w G (sp30 (pth ps j).2.2) (ptl l j).2.2
theorem Dat.kept {S G : Nat → Prop} {w w' : World} {ps : List Pv} {l : List Pt} (h : Dat w G ps l) (hk : Kept S w w') (hs : ∀ k, G k → ¬ S k) : Dat w' G ps l :=
  ⟨h.1, fun j hj => ⟨(h.2 j hj).1, (h.2 j hj).2.1, (h.2 j hj).2.2.kept hk hs⟩⟩
theorem Dat.mono {F G : Nat → Prop} {w : World} {ps : List Pv} {l : List Pt} (h : Dat w F ps l) (hG : ∀ k, k < w.heap.size → F k → G k) : Dat w G ps l :=
  ⟨h.1, fun j hj => ⟨(h.2 j hj).1, (h.2 j hj).2.1, (h.2 j hj).2.2.mono hG⟩⟩
theorem Dat.nil (w : World) (G : Nat → Prop) : Dat w G [] [] := ⟨rfl, fun j hj => by cases hj⟩
theorem Dat.snoc {w : World} {G : Nat → Prop} {ps : List Pv} {l : List Pt} (h : Dat w G ps l) (k v : Int) (a : Option Addr) (c : Nat) (d : List Int) (hd : BSl w G (.slice a d.length c) d) : Dat w G (ps ++ [(k, v, a, d.length, c)]) (l ++ [(k, v, d)]) := by
  refine ⟨by rw [List.length_append, List.length_append, h.1]; rfl, fun j hj => ?_⟩
  rw [List.length_append, List.length_cons, List.length_nil] at hj
  rcases (by omega : j < l.length ∨ j = l.length) with hlt | rfl
  · have e1 : pth (ps ++ [(k, v, a, d.length, c)]) j = pth ps j := by unfold pth; rw [List.getD_eq_getElem?_getD, List.getD_eq_getElem?_getD, List.getElem?_append_left (by rw [h.1]; exact hlt)]
    have e2 : ptl (l ++ [(k, v, d)]) j = ptl l j := by unfold ptl; rw [List.getD_eq_getElem?_getD, List.getD_eq_getElem?_getD, List.getElem?_append_left hlt]
    rw [e1, e2]; exact h.2 j hlt
  · have e1 : pth (ps ++ [(k, v, a, d.length, c)]) l.length = (k, v, a, d.length, c) := by unfold pth; rw [List.getD_eq_getElem?_getD, List.getElem?_append_right (by rw [h.1]; exact Nat.le_refl _), h.1, Nat.sub_self]; rfl
    have e2 : ptl (l ++ [(k, v, d)]) l.length = (k, v, d) := by unfold ptl; rw [List.getD_eq_getElem?_getD, List.getElem?_append_right (Nat.le_refl _), Nat.sub_self]; rfl
    rw [e1, e2]; exact ⟨rfl, rfl, hd⟩
/-- A slice that reads as these patches. -/
def PSl (w : World) (F G : Nat → Prop) (v : Value) (l : List Pt) : Prop := ∃ ps, PvSl w F v ps ∧ Dat w G ps l
theorem PSl.nil (w : World) (F G : Nat → Prop) : PSl w F G (.slice none 0 0) [] := ⟨[], PvSl.nil _ _, Dat.nil _ _⟩
theorem PSl.kept {S F G : Nat → Prop} {w w' : World} {v : Value} {l : List Pt} (h : PSl w F G v l) (hk : Kept S w w') (hF : ∀ k, F k → ¬ S k) (hG : ∀ k, G k → ¬ S k) : PSl w' F G v l := by
  obtain ⟨ps, h1, h2⟩ := h
  exact ⟨ps, h1.kept hk (fun k _ => hF k), h2.kept hk hG⟩
theorem PSl.no {F G : Nat → Prop} {w w' : World} {v : Value} {l : List Pt} (h : PSl w F G v l) (hk : Kept NoB w w') : PSl w' F G v l := h.kept hk (fun _ _ h => h) (fun _ _ h => h)
theorem PSl.any {F G : Nat → Prop} {w : World} {v : Value} {l : List Pt} (h : PSl w F G v l) : PSl w (fun _ => True) (fun _ => True) v l := by
  obtain ⟨ps, h1, h2⟩ := h
  exact ⟨ps, h1.any, h2.mono (fun _ _ _ => trivial)⟩
theorem PSl.form {F G : Nat → Prop} {w : World} {v : Value} {l : List Pt} (h : PSl w F G v l) : ∃ a c, v = .slice a l.length c ∧ l.length ≤ maxLen := by
  obtain ⟨ps, ⟨a, c, rfl, h1, h2, _⟩, h3⟩ := h
  exact ⟨a, c, by rw [h3.1], by rw [← h3.1]; omega⟩
theorem PSl.at_ {F G : Nat → Prop} {w : World} {a : Option Addr} {n c : Nat} {l : List Pt} (h : PSl w F G (.slice a n c) l) {j : Nat} (hj : j < l.length) :
    ∃ b o da dn dc, a = some ⟨b, o, none⟩ ∧ F b ∧ b < w.heap.size ∧ w.cell? ⟨b, o + j * 3, none⟩ = some (.int .u32 (ptl l j).1) ∧ w.cell? ⟨b, o + j * 3 + 1, none⟩ = some (.int .u64 (ptl l j).2.1) ∧ w.cell? ⟨b, o + j * 3 + 1 + 1, none⟩ = some (.slice da dn dc) ∧ dn = (ptl l j).2.2.length ∧ BSl w G (.slice da dn dc) (ptl l j).2.2 := by
  obtain ⟨ps, h1, h2⟩ := h
  obtain ⟨b, o, ha, hF, hb, c0, c1, c2⟩ := h1.at_ (j := j) (by rw [h2.1]; exact hj)
  obtain ⟨d0, d1, d2⟩ := h2.2 j hj
  have hq := d2
  obtain ⟨a', c', he, _⟩ := hq
  injection he with e1 e2 e3
  exact ⟨b, o, (pth ps j).2.2.1, (pth ps j).2.2.2.1, (pth ps j).2.2.2.2, ha, hF, hb, by rw [← d0]; exact c0, by rw [← d1]; exact c1, c2, e2, d2⟩
theorem info_p : (Try.prog.info? 101).map (fun i => (i.zero, i.size, i.bytes)) = some (some (.agg #[.int .u32 0, .int .u64 0, .slice none 0 0]), 3, 40) := by kernel_rfl
theorem info_rp : (Try.prog.info? 100).map (fun i => (i.zero, i.size, i.bytes)) = some (some (.agg #[.int .u32 0, .int .u64 0, .slice none 0 0]), 3, 40) := by kernel_rfl
end Go.Proofs.Ytiifkcjngajegaa
