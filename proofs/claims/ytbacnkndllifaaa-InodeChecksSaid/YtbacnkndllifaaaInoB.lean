/-
  Extents and inodes in memory; extents compared.
-/
import Derived.Test.YtbacnkndllifaaaInoA
import Derived.Test.YtbacnkndllifaaaBitM
import Derived.Deep.QuietTactic
import Derived.BigQuiet
namespace Go.Proofs.Ytbacnkndllifaaa
open Go.RowKit
set_option linter.unusedVariables false

def celX (l : List Xt) : List Value := l.flatMap fun e => [.int .i64 e.1, .int .i64 e.2]
theorem celX_len (l : List Xt) : (celX l).length = l.length * 2 := by
  induction l with
  | nil => rfl
  | cons e r ih => unfold celX at ih ⊢; rw [List.flatMap_cons, List.length_append, ih]; simp; omega
theorem celX_app (l m : List Xt) : celX (l ++ m) = celX l ++ celX m := by unfold celX; rw [List.flatMap_append]
theorem celX_at {l : List Xt} {i : Nat} (h : i < l.length) : (celX l)[i * 2]? = some (.int .i64 (xth l i).1) ∧ (celX l)[i * 2 + 1]? = some (.int .i64 (xth l i).2) := by
  induction l generalizing i with
  | nil => simp at h
  | cons e r ih =>
    have hc : celX (e :: r) = .int .i64 e.1 :: .int .i64 e.2 :: celX r := by unfold celX; rw [List.flatMap_cons]; rfl
    rw [hc]
    cases i with
    | zero => exact ⟨rfl, rfl⟩
    | succ i =>
      have := ih (i := i) (by simpa using h)
      rw [show (i + 1) * 2 = i * 2 + 1 + 1 by omega]
      exact this
/-- A slice that reads as these extents, in blocks of F. -/
def XSl (w : World) (F : Nat → Prop) (v : Value) (l : List Xt) : Prop :=
  ∃ a cap, v = .slice a l.length cap ∧ l.length ≤ cap ∧ cap ≤ maxLen ∧ (a = none → cap = 0) ∧
    (0 < l.length → ∃ b o, a = some ⟨b, o, none⟩ ∧ F b ∧ b < w.heap.size ∧ ∀ j, j < l.length → w.cell? ⟨b, o + j * 2, none⟩ = some (.int .i64 (xth l j).1) ∧ w.cell? ⟨b, o + j * 2 + 1, none⟩ = some (.int .i64 (xth l j).2))
theorem XSl.nil (w : World) (F : Nat → Prop) : XSl w F (.slice none 0 0) [] := ⟨none, 0, rfl, Nat.le_refl _, Nat.zero_le _, fun _ => rfl, fun h => absurd h (by simp)⟩
theorem XSl.kept {S F : Nat → Prop} {w w' : World} {v : Value} {l : List Xt} (h : XSl w F v l) (hk : Kept S w w') (hs : ∀ k, k < w.heap.size → F k → ¬ S k) : XSl w' F v l := by
  obtain ⟨a, cap, h1, h2, h3, h4, h5⟩ := h
  refine ⟨a, cap, h1, h2, h3, h4, fun hl => ?_⟩
  obtain ⟨b, o, ha, hF, hb, hc⟩ := h5 hl
  exact ⟨b, o, ha, hF, Nat.lt_of_lt_of_le hb hk.size, fun j hj => ⟨hk.cell (p := ⟨b, o + j * 2, none⟩) (hs b hb hF) (hc j hj).1, hk.cell (p := ⟨b, o + j * 2 + 1, none⟩) (hs b hb hF) (hc j hj).2⟩⟩
theorem XSl.no {F : Nat → Prop} {w w' : World} {v : Value} {l : List Xt} (h : XSl w F v l) (hk : Kept NoB w w') : XSl w' F v l := h.kept hk (fun _ _ _ h => h)
theorem XSl.mono {F G : Nat → Prop} {w : World} {v : Value} {l : List Xt} (h : XSl w F v l) (hG : ∀ k, k < w.heap.size → F k → G k) : XSl w G v l := by
  obtain ⟨a, cap, h1, h2, h3, h4, h5⟩ := h
  refine ⟨a, cap, h1, h2, h3, h4, fun hl => ?_⟩
  obtain ⟨b, o, ha, hF, hb, hc⟩ := h5 hl
  exact ⟨b, o, ha, hG b hb hF, hb, hc⟩
theorem XSl.any {F : Nat → Prop} {w : World} {v : Value} {l : List Xt} (h : XSl w F v l) : XSl w (fun _ => True) v l := h.mono (fun _ _ _ => trivial)
theorem XSl.at_ {F : Nat → Prop} {w : World} {a : Option Addr} {n cap : Nat} {l : List Xt} (h : XSl w F (.slice a n cap) l) {j : Nat} (hj : j < l.length) :
    ∃ b o, a = some ⟨b, o, none⟩ ∧ F b ∧ b < w.heap.size ∧ w.cell? ⟨b, o + j * 2, none⟩ = some (.int .i64 (xth l j).1) ∧ w.cell? ⟨b, o + j * 2 + 1, none⟩ = some (.int .i64 (xth l j).2) := by
  obtain ⟨a', cap', h1, h2, h3, h4, h5⟩ := h
  injection h1 with h1 _ _
  subst h1
  obtain ⟨b, o, ha, hF, hb, hc⟩ := h5 (by omega)
  exact ⟨b, o, ha, hF, hb, (hc j hj).1, (hc j hj).2⟩
/-- A row of extents of the call's own, of the element type t. -/
def XOwn (t : TypeId) (B : Nat) (w : World) (v : Value) (l : List Xt) : Prop := w.ownsRow B t 2 v l.length (celX l)
theorem XOwn.nil (t : TypeId) (B : Nat) (w : World) : XOwn t B w (.slice none 0 0) [] := World.ownsRow_nil _ _ _ _
theorem XOwn.form {t : TypeId} {B : Nat} {w : World} {v : Value} {l : List Xt} (h : XOwn t B w v l) : ∃ a c, v = .slice a l.length c := by
  rcases h.2 with ⟨rfl, h0⟩ | ⟨r, cap, cur, rfl, _⟩
  · exact ⟨none, 0, by rw [h0]⟩
  · exact ⟨_, _, rfl⟩
theorem XOwn.low {t : TypeId} {B C : Nat} {w : World} {v : Value} {l : List Xt} (h : XOwn t B w v l) (hC : C ≤ B) : XOwn t C w v l := by
  refine ⟨h.1, ?_⟩
  rcases h.2 with hn | ⟨g, cap, cur, hv, hb, rest⟩
  · exact .inl hn
  · exact .inr ⟨g, cap, cur, hv, by omega, rest⟩
theorem XOwn.kept {t : TypeId} {S : Nat → Prop} {B : Nat} {w w' : World} {v : Value} {l : List Xt} (h : XOwn t B w v l) (hk : Kept S w w') (hs : ∀ k, v.ownBlock = some k → ¬ S k) : XOwn t B w' v l := by
  refine ⟨h.1, ?_⟩
  rcases h.2 with hn | ⟨r, cap, cur, rfl, hb, hr, rest⟩
  · exact .inl hn
  · exact .inr ⟨r, cap, cur, rfl, hb, hk.heap (hs r rfl) hr, rest⟩
theorem XOwn.no {t : TypeId} {B : Nat} {w w' : World} {v : Value} {l : List Xt} (h : XOwn t B w v l) (hk : Kept NoB w w') : XOwn t B w' v l := h.kept hk (fun _ _ h => h)
theorem XOwn.drewN {t : TypeId} {B : Nat} {w : World} {v : Value} {l : List Xt} (h : XOwn t B w v l) (n : Nat) : XOwn t B (w.drewN n) v l := h
theorem XOwn.sl {t : TypeId} {B : Nat} {w : World} {v : Value} {l : List Xt} (h : XOwn t B w v l) : XSl w (fun k => B ≤ k) v l := by
  rcases h.2 with ⟨rfl, h0⟩ | ⟨r, cap, cur, rfl, hb, hr, hc, hm, hcs, ht⟩
  · obtain rfl : l = [] := List.eq_nil_of_length_eq_zero h0
    exact XSl.nil w _
  · refine ⟨_, cap, rfl, hc, hm, (fun h => by cases h), fun hl => ⟨r, 0, rfl, hb, heap_lt hr, fun j hj => ?_⟩⟩
    have hx := World.ownsRow.cellAt (h : w.ownsRow B t 2 (.slice (some ⟨r, 0, none⟩) l.length cap) l.length (celX l))
    rw [Nat.zero_add, hx (j * 2) (by omega), hx (j * 2 + 1) (by omega)]
    exact celX_at hj
/-- append of one extent that lies in a block of its own. -/
theorem run_append_x {T t : TypeId} {i0 : TypeInfo} {z : Value} (ht : Try.prog.underlying T = some (.slice t)) (hi : Try.prog.info? t = some i0) (hz : i0.zero = some z) (h1 : i0.size = 2) (h2 : i0.bytes = 16) (hzs : z.cells.size = 2)
    (w : World) (base : Nat) (ty : TypeId) (v : Value) (cs : List Xt) (hown : XOwn t base w v cs) (b : Nat) (e : Xt) (hb : w.heap[b]? = some (.cells #[.int .i64 e.1, .int .i64 e.2] t (0, 0))) (hl : cs.length ≤ 100000) (hbase : base ≤ w.heap.size) :
    ∃ a' c' w', (Builtin.append_ #[T, T] ty #[v, .slice (some ⟨b, 0, none⟩) 1 1]).run Try.prog w = .ok (.slice a' (cs.length + 1) c') w' ∧ XOwn t base w' (.slice a' (cs.length + 1) c') (cs ++ [e]) ∧ w.grownBy w' v.ownBlock := by
  obtain ⟨v', w', hrun, r1, r2, _⟩ := run_append_own (P := Try.prog) w base T ty t i0 z 2 16 ht hi hz h1 h2 hzs (by decide) v cs.length (celX cs) hown ⟨b, 0, none⟩ 1 1 [.int .i64 e.1, .int .i64 e.2] rfl (World.news_of_block (cs := #[_, _]) hb) (by simp [Value.oneCell']) (by unfold maxLen; omega) (by omega) hbase
  have h3 : XOwn t base w' v' (cs ++ [e]) := by unfold XOwn; rw [celX_app, List.length_append]; exact r1
  obtain ⟨a', c', he⟩ := h3.form
  rw [List.length_append] at he
  have he : v' = .slice a' (cs.length + 1) c' := he
  subst he
  exact ⟨a', c', w', hrun, h3, r2⟩
theorem wp_append_x {T t : TypeId} {i0 : TypeInfo} {z : Value} (ht : Try.prog.underlying T = some (.slice t)) (hi : Try.prog.info? t = some i0) (hz : i0.zero = some z) (h1 : i0.size = 2) (h2 : i0.bytes = 16) (hzs : z.cells.size = 2)
    (w : World) {o : Oper} {a : Act} {K : Act → World → Prop} {Q : Exit → Act → World → Prop} (s x : Operand)
    (ho : o.op = .call { callee := .builtin .append, args := #[s, x], argTypes := #[T, T] })
    (base : Nat) (v : Value) (cs : List Xt) (hs : a.eval s = v) (hown : XOwn t base w v cs) (b : Nat) (e : Xt) (hx : a.eval x = .slice (some ⟨b, 0, none⟩) 1 1) (hb : w.heap[b]? = some (.cells #[.int .i64 e.1, .int .i64 e.2] t (0, 0))) (hl : cs.length ≤ 100000) (hbase : base ≤ w.heap.size)
    (h : ∀ a' c' w', XOwn t base w' (.slice a' (cs.length + 1) c') (cs ++ [e]) → w.grownBy w' v.ownBlock → K (a.put o.dst (.slice a' (cs.length + 1) c')) w') : o.wp Try.prog a w K Q := by
  obtain ⟨a', c', w', hrun, r2, r3⟩ := run_append_x ht hi hz h1 h2 hzs w base o.type v cs hown b e hb hl hbase
  unfold Oper.wp execOp
  simp only [ho, resolve, invoke, builtin, Sem.run_bind, Sem.run_pure, Result.andThen_ok, List.map_toArray, List.map_cons, List.map_nil, hs, hx, hrun]
  exact h a' c' w' r2 r3
theorem wpList_append_x {T t : TypeId} {i0 : TypeInfo} {z : Value} (ht : Try.prog.underlying T = some (.slice t)) (hi : Try.prog.info? t = some i0) (hz : i0.zero = some z) (h1 : i0.size = 2) (h2 : i0.bytes = 16) (hzs : z.cells.size = 2)
    (w : World) {ops : Array Oper} {rest : List Oper} {o : Oper} {a : Act} {Q : Exit → Act → World → Prop} (hgd : o.guard = none) (s x : Operand)
    (ho : o.op = .call { callee := .builtin .append, args := #[s, x], argTypes := #[T, T] })
    (base : Nat) (v : Value) (cs : List Xt) (hs : a.eval s = v) (hown : XOwn t base w v cs) (b : Nat) (e : Xt) (hx : a.eval x = .slice (some ⟨b, 0, none⟩) 1 1) (hb : w.heap[b]? = some (.cells #[.int .i64 e.1, .int .i64 e.2] t (0, 0))) (hl : cs.length ≤ 100000) (hbase : base ≤ w.heap.size)
    (h : ∀ a' c' w', XOwn t base w' (.slice a' (cs.length + 1) c') (cs ++ [e]) → w.grownBy w' v.ownBlock → wpList Try.prog ops Q rest (a.put o.dst (.slice a' (cs.length + 1) c')) w') : wpList Try.prog ops Q (o :: rest) a w :=
  wpList_plain hgd fun K hK => wp_append_x ht hi hz h1 h2 hzs w s x ho base v cs hs hown b e hx hb hl hbase fun a' c' w' r2 r3 => hK _ _ (h a' c' w' r2 r3)
theorem step_append_x {T t : TypeId} {i0 : TypeInfo} {z : Value} (ht : Try.prog.underlying T = some (.slice t)) (hi : Try.prog.info? t = some i0) (hz : i0.zero = some z) (h1 : i0.size = 2) (h2 : i0.bytes = 16) (hzs : z.cells.size = 2)
    (w : World) {ops : Array Oper} {o : Oper} {a : Act} {K : Act → World → Prop} {Q : Exit → Act → World → Prop} {E : Prop} (hgd : o.guard = none) (s x : Operand)
    (ho : o.op = .call { callee := .builtin .append, args := #[s, x], argTypes := #[T, T] })
    (base : Nat) (v : Value) (cs : List Xt) (hs : a.eval s = v) (hown : XOwn t base w v cs) (b : Nat) (e : Xt) (hx : a.eval x = .slice (some ⟨b, 0, none⟩) 1 1) (hb : w.heap[b]? = some (.cells #[.int .i64 e.1, .int .i64 e.2] t (0, 0))) (hl : cs.length ≤ 100000) (hbase : base ≤ w.heap.size)
    (h : ∀ a' c' w', XOwn t base w' (.slice a' (cs.length + 1) c') (cs ++ [e]) → w.grownBy w' v.ownBlock → K (a.put o.dst (.slice a' (cs.length + 1) c')) w') :
    if Region.wanted o (yielded ops a.tmps) = true then Oper.wp Try.prog o a w K Q else E := by
  have hw : Region.wanted o (yielded ops a.tmps) = true := by simp [Region.wanted, hgd]
  rw [if_pos hw]
  exact wp_append_x ht hi hz h1 h2 hzs w s x ho base v cs hs hown b e hx hb hl hbase h
theorem info_xt : (Try.prog.info? 81).map (fun i => (i.zero, i.size, i.bytes)) = some (some (.agg #[.int .i64 0, .int .i64 0]), 2, 16) := by kernel_rfl
theorem info_rxt : (Try.prog.info? 80).map (fun i => (i.zero, i.size, i.bytes)) = some (some (.agg #[.int .i64 0, .int .i64 0]), 2, 16) := by kernel_rfl
/-- An inode as a value. -/
abbrev iv28 (m s : Int) (u : Value) : Value := .agg #[.int .i64 m, .int .i64 s, u]
theorem cells3 {w : World} {b : Nat} {x y z : Value} {t : TypeId} (h : w.heap[b]? = some (.cells #[x, y, z] t (0, 0))) : w.cell? ⟨b, 0, none⟩ = some x ∧ w.cell? ⟨b, 1, none⟩ = some y ∧ w.cell? ⟨b, 2, none⟩ = some z :=
  ⟨cell_of_row _ _ 0 _ _ _ h, cell_of_row _ _ 1 _ _ _ h, cell_of_row _ _ 2 _ _ _ h⟩
theorem xeq_of {l m : List Xt} (hl : l.length = m.length) (h : ∀ j, j < l.length → xth l j = xth m j) : l = m := by
  refine List.ext_getElem hl fun j h1 h2 => ?_
  have := h j h1
  rwa [xth_eq h1, xth_eq h2] at this
set_option maxRecDepth 100000 in
/-- slices.Equal of extents. -/
theorem EqX_any (v u : Value) (l m : List Xt) (F G : Nat → Prop) (w : World) (hv : XSl w F v l) (hu : XSl w G u m) :
    Calls Try.prog 63 #[v, u] w (BoolE (decide (l = m)) w) := by
  obtain ⟨a, ca, rfl, hca, hcm, _⟩ := id hv
  obtain ⟨b, cb, rfl, hcb, hbm, _⟩ := id hu
  have HV := Lib.hid hv
  have HU := Lib.hid hu
  unfold maxLen at hcm hbm
  clear hv hu
  by_cases hl : l.length = m.length
  · have HL := Lib.hid hl
    obtain ⟨n, hn⟩ : ∃ n, n = m.length := ⟨_, rfl⟩
    have hln : l.length = n := by omega
    have HN := Lib.hid hn
    have HLN := Lib.hid hln
    rw [← hn] at hcb ⊢
    rw [hln] at hca ⊢
    rw [← hn] at HU
    rw [hln] at HV
    clear hl hn hln
    go_enter Try.func63, Try.ntmps63
    go_wp2
    go_loopw [13] (fun i wr => ∃ k d : Nat, i = .int .i64 k ∧ k ≤ n ∧ (∀ j, j < k → xth l j = xth m j) ∧ wr = w.drewN d) (fun i _ => n - (intOf i).toNat)
    case atStart => exact ⟨0, 0, rfl, Nat.zero_le _, fun j h => absurd h (by omega), rfl⟩
    case round =>
      obtain ⟨k, d, rfl, hk, hno, rfl⟩ := hrel
      have HNO := Lib.hid hno
      clear hno
      by_cases hlt : k < n
      · obtain ⟨b1, o1, rfl, _, _, hc1, hc1'⟩ := HV.out.at_ (j := k) (by have := HLN.out; omega)
        obtain ⟨b2, o2, rfl, _, _, hc2, hc2'⟩ := HU.out.at_ (j := k) (by have := HN.out; omega)
        obtain ⟨x, hx⟩ : ∃ x, x = xth l k := ⟨_, rfl⟩
        obtain ⟨y, hy⟩ : ∃ y, y = xth m k := ⟨_, rfl⟩
        rw [← hx] at hc1 hc1'
        rw [← hy] at hc2 hc2'
        have HX := Lib.hid hx
        have HY := Lib.hid hy
        have hk0 : (0 : Int) ≤ (k : Int) := by omega
        have hk1 : (k : Int) < (n : Int) := by omega
        obtain ⟨x1, x2⟩ := x
        obtain ⟨y1, y2⟩ := y
        clear hx hy
        by_cases he : x1 = y1 ∧ x2 = y2
        · have HE := Lib.hid he
          have e1 : (x1 != y1) = false := by rw [he.1]; simp
          have e2 : (x2 != y2) = false := by rw [he.2]; simp
          have e3 : (x1 == y1) = true := by rw [he.1]; simp
          have e4 : (x2 == y2) = true := by rw [he.2]; simp
          clear he
          go_wp2
          go_quiet (fail)
          go_wp2
          refine ⟨⟨k + 1, _, by go_num, by omega, fun j hj => ?_, rfl⟩, by simp [intOf]; omega⟩
          by_cases hjk : j = k
          · subst hjk; rw [← HX.out, ← HY.out, HE.out.1, HE.out.2]
          · exact HNO.out j (by omega)
        · have HE : Hid (decide (l = m) = false) := Lib.hid (decide_eq_false (fun h => he (by
            have : xth l k = xth m k := by rw [h]
            rw [← HX.out, ← HY.out] at this
            injection this with h1 h2
            exact ⟨h1, h2⟩)))
          by_cases e : x1 = y1
          · have e5 : ¬ x2 = y2 := fun h => he ⟨e, h⟩
            have e1 : (x1 != y1) = false := by rw [e]; simp
            have e2 : (x2 != y2) = true := by simp [e5]
            have e3 : (x1 == y1) = true := by rw [e]; simp
            have e4 : (x2 == y2) = false := by simp [e5]
            clear he e e5
            go_wp2
            go_quiet (fail)
            go_wp2
            go_ret
            exact ⟨(by rw [HE.out] <;> rfl), ((Kept.refl _ _).drewN _).drewN _⟩
          · have e1 : (x1 != y1) = true := by simp [e]
            have e3 : (x1 == y1) = false := by simp [e]
            clear he e
            go_wp2
            go_quiet (fail)
            go_wp2
            go_ret
            exact ⟨(by rw [HE.out] <;> rfl), ((Kept.refl _ _).drewN _).drewN _⟩
      · obtain rfl : k = n := by omega
        have HE : Hid (decide (l = m) = true) := Lib.hid (decide_eq_true (xeq_of HL.out (fun j hj => HNO.out j (by have := HLN.out; omega))))
        go_wp2
        go_ret
        exact ⟨(by rw [HE.out] <;> rfl), (Kept.refl _ _).drewN _⟩
  · have HE : Hid (decide (l = m) = false) := Lib.hid (decide_eq_false (fun h => hl (by rw [h])))
    have hne : ((l.length : Int) != (m.length : Int)) = true := by simp; omega
    clear hl
    go_enter Try.func63, Try.ntmps63
    go_wp2
    go_ret
    exact ⟨(by rw [HE.out] <;> rfl), Kept.refl _ _⟩
end Go.Proofs.Ytbacnkndllifaaa
