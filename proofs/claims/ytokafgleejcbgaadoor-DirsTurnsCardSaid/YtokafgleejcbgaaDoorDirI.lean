/-
  Layer 29: entries in memory: rows of entries, slices that read as entries.
-/
import Derived.Test.YtokafgleejcbgaaDoorDirH
namespace Go.Proofs.YtokafgleejcbgaaDoor
open Go.RowKit
set_option linter.unusedVariables false

/-- An entry. -/
abbrev En := List UInt8 × Int
def eth (l : List En) (i : Nat) : En := l.getD i ([], 0)
theorem eth_eq {l : List En} {i : Nat} (h : i < l.length) : eth l i = l[i] := by unfold eth; rw [List.getD_eq_getElem?_getD, List.getElem?_eq_getElem h]; rfl
theorem eth_mem {l : List En} {i : Nat} (h : i < l.length) : eth l i ∈ l := by rw [eth_eq h]; exact List.getElem_mem h
theorem etake_snoc {l : List En} {k : Nat} (h : k < l.length) : l.take (k + 1) = l.take k ++ [eth l k] := by rw [eth_eq h]; exact List.take_succ_eq_append_getElem h
theorem edrop_cons {l : List En} {k : Nat} (h : k < l.length) : l.drop k = eth l k :: l.drop (k + 1) := by rw [eth_eq h]; exact List.drop_eq_getElem_cons h
def celE (l : List En) : List Value := l.flatMap fun e => [.string ⟨e.1.toArray⟩, .int .i64 e.2]
theorem celE_len (l : List En) : (celE l).length = l.length * 2 := by
  induction l with
  | nil => rfl
  | cons e r ih => unfold celE at ih ⊢; rw [List.flatMap_cons, List.length_append, ih]; simp; omega
theorem celE_app (l m : List En) : celE (l ++ m) = celE l ++ celE m := by unfold celE; rw [List.flatMap_append]
theorem celE_at {l : List En} {i : Nat} (h : i < l.length) : (celE l)[i * 2]? = some (.string ⟨(eth l i).1.toArray⟩) ∧ (celE l)[i * 2 + 1]? = some (.int .i64 (eth l i).2) := by
  induction l generalizing i with
  | nil => simp at h
  | cons e r ih =>
    have hc : celE (e :: r) = .string ⟨e.1.toArray⟩ :: .int .i64 e.2 :: celE r := by unfold celE; rw [List.flatMap_cons]; rfl
    rw [hc]
    cases i with
    | zero => exact ⟨rfl, rfl⟩
    | succ i =>
      have := ih (i := i) (by simpa using h)
      rw [show (i + 1) * 2 = i * 2 + 1 + 1 by omega]
      exact this
/-- A slice that reads as these extents, in blocks of F. -/
def ESl (w : World) (F : Nat → Prop) (v : Value) (l : List En) : Prop :=
  ∃ a cap, v = .slice a l.length cap ∧ l.length ≤ cap ∧ cap ≤ maxLen ∧ (a = none → cap = 0) ∧
    (0 < l.length → ∃ b o, a = some ⟨b, o, none⟩ ∧ F b ∧ b < w.heap.size ∧ ∀ j, j < l.length → w.cell? ⟨b, o + j * 2, none⟩ = some (.string ⟨(eth l j).1.toArray⟩) ∧ w.cell? ⟨b, o + j * 2 + 1, none⟩ = some (.int .i64 (eth l j).2))
theorem ESl.nil (w : World) (F : Nat → Prop) : ESl w F (.slice none 0 0) [] := ⟨none, 0, rfl, Nat.le_refl _, Nat.zero_le _, fun _ => rfl, fun h => absurd h (by simp)⟩
theorem ESl.kept {S F : Nat → Prop} {w w' : World} {v : Value} {l : List En} (h : ESl w F v l) (hk : Kept S w w') (hs : ∀ k, k < w.heap.size → F k → ¬ S k) : ESl w' F v l := by
  obtain ⟨a, cap, h1, h2, h3, h4, h5⟩ := h
  refine ⟨a, cap, h1, h2, h3, h4, fun hl => ?_⟩
  obtain ⟨b, o, ha, hF, hb, hc⟩ := h5 hl
  exact ⟨b, o, ha, hF, Nat.lt_of_lt_of_le hb hk.size, fun j hj => ⟨hk.cell (p := ⟨b, o + j * 2, none⟩) (hs b hb hF) (hc j hj).1, hk.cell (p := ⟨b, o + j * 2 + 1, none⟩) (hs b hb hF) (hc j hj).2⟩⟩
theorem ESl.no {F : Nat → Prop} {w w' : World} {v : Value} {l : List En} (h : ESl w F v l) (hk : Kept NoB w w') : ESl w' F v l := h.kept hk (fun _ _ _ h => h)
theorem ESl.mono {F G : Nat → Prop} {w : World} {v : Value} {l : List En} (h : ESl w F v l) (hG : ∀ k, k < w.heap.size → F k → G k) : ESl w G v l := by
  obtain ⟨a, cap, h1, h2, h3, h4, h5⟩ := h
  refine ⟨a, cap, h1, h2, h3, h4, fun hl => ?_⟩
  obtain ⟨b, o, ha, hF, hb, hc⟩ := h5 hl
  exact ⟨b, o, ha, hG b hb hF, hb, hc⟩
theorem ESl.any {F : Nat → Prop} {w : World} {v : Value} {l : List En} (h : ESl w F v l) : ESl w (fun _ => True) v l := h.mono (fun _ _ _ => trivial)
theorem ESl.at_ {F : Nat → Prop} {w : World} {a : Option Addr} {n cap : Nat} {l : List En} (h : ESl w F (.slice a n cap) l) {j : Nat} (hj : j < l.length) :
    ∃ b o, a = some ⟨b, o, none⟩ ∧ F b ∧ b < w.heap.size ∧ w.cell? ⟨b, o + j * 2, none⟩ = some (.string ⟨(eth l j).1.toArray⟩) ∧ w.cell? ⟨b, o + j * 2 + 1, none⟩ = some (.int .i64 (eth l j).2) := by
  obtain ⟨a', cap', h1, h2, h3, h4, h5⟩ := h
  injection h1 with h1 _ _
  subst h1
  obtain ⟨b, o, ha, hF, hb, hc⟩ := h5 (by omega)
  exact ⟨b, o, ha, hF, hb, (hc j hj).1, (hc j hj).2⟩
/-- A row of extents of the call's own, of the element type t. -/
def EOwn (t : TypeId) (B : Nat) (w : World) (v : Value) (l : List En) : Prop := w.ownsRow B t 2 v l.length (celE l)
theorem EOwn.nil (t : TypeId) (B : Nat) (w : World) : EOwn t B w (.slice none 0 0) [] := World.ownsRow_nil _ _ _ _
theorem EOwn.form {t : TypeId} {B : Nat} {w : World} {v : Value} {l : List En} (h : EOwn t B w v l) : ∃ a c, v = .slice a l.length c := by
  rcases h.2 with ⟨rfl, h0⟩ | ⟨r, cap, cur, rfl, _⟩
  · exact ⟨none, 0, by rw [h0]⟩
  · exact ⟨_, _, rfl⟩
theorem EOwn.low {t : TypeId} {B C : Nat} {w : World} {v : Value} {l : List En} (h : EOwn t B w v l) (hC : C ≤ B) : EOwn t C w v l := by
  refine ⟨h.1, ?_⟩
  rcases h.2 with hn | ⟨g, cap, cur, hv, hb, rest⟩
  · exact .inl hn
  · exact .inr ⟨g, cap, cur, hv, by omega, rest⟩
theorem EOwn.kept {t : TypeId} {S : Nat → Prop} {B : Nat} {w w' : World} {v : Value} {l : List En} (h : EOwn t B w v l) (hk : Kept S w w') (hs : ∀ k, v.ownBlock = some k → ¬ S k) : EOwn t B w' v l := by
  refine ⟨h.1, ?_⟩
  rcases h.2 with hn | ⟨r, cap, cur, rfl, hb, hr, rest⟩
  · exact .inl hn
  · exact .inr ⟨r, cap, cur, rfl, hb, hk.heap (hs r rfl) hr, rest⟩
theorem EOwn.no {t : TypeId} {B : Nat} {w w' : World} {v : Value} {l : List En} (h : EOwn t B w v l) (hk : Kept NoB w w') : EOwn t B w' v l := h.kept hk (fun _ _ h => h)
theorem EOwn.drewN {t : TypeId} {B : Nat} {w : World} {v : Value} {l : List En} (h : EOwn t B w v l) (n : Nat) : EOwn t B (w.drewN n) v l := h
theorem EOwn.sl {t : TypeId} {B : Nat} {w : World} {v : Value} {l : List En} (h : EOwn t B w v l) : ESl w (fun k => B ≤ k) v l := by
  rcases h.2 with ⟨rfl, h0⟩ | ⟨r, cap, cur, rfl, hb, hr, hc, hm, hcs, ht⟩
  · obtain rfl : l = [] := List.eq_nil_of_length_eq_zero h0
    exact ESl.nil w _
  · refine ⟨_, cap, rfl, hc, hm, (fun h => by cases h), fun hl => ⟨r, 0, rfl, hb, heap_lt hr, fun j hj => ?_⟩⟩
    have hx := World.ownsRow.cellAt (h : w.ownsRow B t 2 (.slice (some ⟨r, 0, none⟩) l.length cap) l.length (celE l))
    rw [Nat.zero_add, hx (j * 2) (by omega), hx (j * 2 + 1) (by omega)]
    exact celE_at hj
/-- append of one extent that lies in a block of its own. -/
theorem run_append_e {T t : TypeId} {i0 : TypeInfo} {z : Value} (ht : Tryd.prog.underlying T = some (.slice t)) (hi : Tryd.prog.info? t = some i0) (hz : i0.zero = some z) (h1 : i0.size = 2) (h2 : i0.bytes = 24) (hzs : z.cells.size = 2)
    (w : World) (base : Nat) (ty : TypeId) (v : Value) (cs : List En) (hown : EOwn t base w v cs) (b : Nat) (e : En) (hb : w.heap[b]? = some (.cells #[.string ⟨e.1.toArray⟩, .int .i64 e.2] t (0, 0))) (hl : cs.length ≤ 100000) (hbase : base ≤ w.heap.size) :
    ∃ a' c' w', (Builtin.append_ #[T, T] ty #[v, .slice (some ⟨b, 0, none⟩) 1 1]).run Tryd.prog w = .ok (.slice a' (cs.length + 1) c') w' ∧ EOwn t base w' (.slice a' (cs.length + 1) c') (cs ++ [e]) ∧ w.grownBy w' v.ownBlock := by
  obtain ⟨v', w', hrun, r1, r2, _⟩ := run_append_own (P := Tryd.prog) w base T ty t i0 z 2 24 ht hi hz h1 h2 hzs (by decide) v cs.length (celE cs) hown ⟨b, 0, none⟩ 1 1 [.string ⟨e.1.toArray⟩, .int .i64 e.2] rfl (World.news_of_block (cs := #[_, _]) hb) (by simp [Value.oneCell']) (by unfold maxLen; omega) (by omega) hbase
  have h3 : EOwn t base w' v' (cs ++ [e]) := by unfold EOwn; rw [celE_app, List.length_append]; exact r1
  obtain ⟨a', c', he⟩ := h3.form
  rw [List.length_append] at he
  have he : v' = .slice a' (cs.length + 1) c' := he
  subst he
  exact ⟨a', c', w', hrun, h3, r2⟩
theorem wp_append_e {T t : TypeId} {i0 : TypeInfo} {z : Value} (ht : Tryd.prog.underlying T = some (.slice t)) (hi : Tryd.prog.info? t = some i0) (hz : i0.zero = some z) (h1 : i0.size = 2) (h2 : i0.bytes = 24) (hzs : z.cells.size = 2)
    (w : World) {o : Oper} {a : Act} {K : Act → World → Prop} {Q : Exit → Act → World → Prop} (s x : Operand)
    (ho : o.op = .call { callee := .builtin .append, args := #[s, x], argTypes := #[T, T] })
    (base : Nat) (v : Value) (cs : List En) (hs : a.eval s = v) (hown : EOwn t base w v cs) (b : Nat) (e : En) (hx : a.eval x = .slice (some ⟨b, 0, none⟩) 1 1) (hb : w.heap[b]? = some (.cells #[.string ⟨e.1.toArray⟩, .int .i64 e.2] t (0, 0))) (hl : cs.length ≤ 100000) (hbase : base ≤ w.heap.size)
    (h : ∀ a' c' w', EOwn t base w' (.slice a' (cs.length + 1) c') (cs ++ [e]) → w.grownBy w' v.ownBlock → K (a.put o.dst (.slice a' (cs.length + 1) c')) w') : o.wp Tryd.prog a w K Q := by
  obtain ⟨a', c', w', hrun, r2, r3⟩ := run_append_e ht hi hz h1 h2 hzs w base o.type v cs hown b e hb hl hbase
  unfold Oper.wp execOp
  simp only [ho, resolve, invoke, builtin, Sem.run_bind, Sem.run_pure, Result.andThen_ok, List.map_toArray, List.map_cons, List.map_nil, hs, hx, hrun]
  exact h a' c' w' r2 r3
theorem wpList_append_e {T t : TypeId} {i0 : TypeInfo} {z : Value} (ht : Tryd.prog.underlying T = some (.slice t)) (hi : Tryd.prog.info? t = some i0) (hz : i0.zero = some z) (h1 : i0.size = 2) (h2 : i0.bytes = 24) (hzs : z.cells.size = 2)
    (w : World) {ops : Array Oper} {rest : List Oper} {o : Oper} {a : Act} {Q : Exit → Act → World → Prop} (hgd : o.guard = none) (s x : Operand)
    (ho : o.op = .call { callee := .builtin .append, args := #[s, x], argTypes := #[T, T] })
    (base : Nat) (v : Value) (cs : List En) (hs : a.eval s = v) (hown : EOwn t base w v cs) (b : Nat) (e : En) (hx : a.eval x = .slice (some ⟨b, 0, none⟩) 1 1) (hb : w.heap[b]? = some (.cells #[.string ⟨e.1.toArray⟩, .int .i64 e.2] t (0, 0))) (hl : cs.length ≤ 100000) (hbase : base ≤ w.heap.size)
    (h : ∀ a' c' w', EOwn t base w' (.slice a' (cs.length + 1) c') (cs ++ [e]) → w.grownBy w' v.ownBlock → wpList Tryd.prog ops Q rest (a.put o.dst (.slice a' (cs.length + 1) c')) w') : wpList Tryd.prog ops Q (o :: rest) a w :=
  wpList_plain hgd fun K hK => wp_append_e ht hi hz h1 h2 hzs w s x ho base v cs hs hown b e hx hb hl hbase fun a' c' w' r2 r3 => hK _ _ (h a' c' w' r2 r3)
theorem step_append_e {T t : TypeId} {i0 : TypeInfo} {z : Value} (ht : Tryd.prog.underlying T = some (.slice t)) (hi : Tryd.prog.info? t = some i0) (hz : i0.zero = some z) (h1 : i0.size = 2) (h2 : i0.bytes = 24) (hzs : z.cells.size = 2)
    (w : World) {ops : Array Oper} {o : Oper} {a : Act} {K : Act → World → Prop} {Q : Exit → Act → World → Prop} {E : Prop} (hgd : o.guard = none) (s x : Operand)
    (ho : o.op = .call { callee := .builtin .append, args := #[s, x], argTypes := #[T, T] })
    (base : Nat) (v : Value) (cs : List En) (hs : a.eval s = v) (hown : EOwn t base w v cs) (b : Nat) (e : En) (hx : a.eval x = .slice (some ⟨b, 0, none⟩) 1 1) (hb : w.heap[b]? = some (.cells #[.string ⟨e.1.toArray⟩, .int .i64 e.2] t (0, 0))) (hl : cs.length ≤ 100000) (hbase : base ≤ w.heap.size)
    (h : ∀ a' c' w', EOwn t base w' (.slice a' (cs.length + 1) c') (cs ++ [e]) → w.grownBy w' v.ownBlock → K (a.put o.dst (.slice a' (cs.length + 1) c')) w') :
    if Region.wanted o (yielded ops a.tmps) = true then Oper.wp Tryd.prog o a w K Q else E := by
  have hw : Region.wanted o (yielded ops a.tmps) = true := by simp [Region.wanted, hgd]
  rw [if_pos hw]
  exact wp_append_e ht hi hz h1 h2 hzs w s x ho base v cs hs hown b e hx hb hl hbase h
theorem info_en : (Tryd.prog.info? 32).map (fun i => (i.zero, i.size, i.bytes)) = some (some (.agg #[.string ByteArray.empty, .int .i64 0]), 2, 24) := by kernel_rfl
theorem info_ren : (Tryd.prog.info? 24).map (fun i => (i.zero, i.size, i.bytes)) = some (some (.agg #[.string ByteArray.empty, .int .i64 0]), 2, 24) := by kernel_rfl
theorem ESl.form {F : Nat → Prop} {w : World} {v : Value} {l : List En} (h : ESl w F v l) : ∃ a c, v = .slice a l.length c ∧ l.length ≤ maxLen := by
  obtain ⟨a, c, rfl, h1, h2, _⟩ := h
  exact ⟨a, c, rfl, by omega⟩
end Go.Proofs.YtokafgleejcbgaaDoor
