/-
  Numbers in a row of the call's own; append from a slice, and to one that is clipped.
-/
import Derived.Test.YtbacnkndllifaaaCnfE
import Derived.Maps.AppendAt
import Derived.Laws.AppendOwnNone
namespace Go.Proofs.Ytbacnkndllifaaa
open Go.RowKit
set_option linter.unusedVariables false

theorem info_int : (Try.prog.info? 3).map (fun i => (i.zero, i.size, i.bytes)) = some (some (.int .i64 0), 1, 8) := by kernel_rfl
abbrev ivs (l : List Int) : List Value := l.map (Value.int .i64)
/-- A row of numbers of the call's own, from block B on. -/
def IOwn (B : Nat) (w : World) (v : Value) (l : List Int) : Prop := w.ownsRow B 3 1 v l.length (ivs l)
theorem IOwn.nil (B : Nat) (w : World) : IOwn B w (.slice none 0 0) [] := World.ownsRow_nil _ _ _ _
theorem IOwn.form {B : Nat} {w : World} {v : Value} {l : List Int} (h : IOwn B w v l) : ∃ a c, v = .slice a l.length c := by
  rcases h.2 with ⟨rfl, h0⟩ | ⟨r, cap, cur, rfl, _⟩
  · exact ⟨none, 0, by rw [h0]⟩
  · exact ⟨_, _, rfl⟩
theorem IOwn.low {B C : Nat} {w : World} {v : Value} {l : List Int} (h : IOwn B w v l) (hC : C ≤ B) : IOwn C w v l := by
  refine ⟨h.1, ?_⟩
  rcases h.2 with hn | ⟨g, cap, cur, hv, hb, rest⟩
  · exact .inl hn
  · exact .inr ⟨g, cap, cur, hv, by omega, rest⟩
theorem row_keptI {S : Nat → Prop} {B : Nat} {w w' : World} {v : Value} {l : List Int} (h : IOwn B w v l) (hk : Kept S w w') (hs : ∀ k, v.ownBlock = some k → ¬ S k) : IOwn B w' v l := by
  refine ⟨h.1, ?_⟩
  rcases h.2 with hn | ⟨r, cap, cur, rfl, hb, hr, rest⟩
  · exact .inl hn
  · exact .inr ⟨r, cap, cur, rfl, hb, hk.heap (hs r rfl) hr, rest⟩
theorem IOwn.nsl {B : Nat} {w : World} {v : Value} {l : List Int} {F : Nat → Prop} (h : IOwn B w v l) (hF : ∀ k, v.ownBlock = some k → F k) : NSl w F v l := by
  rcases h.2 with ⟨rfl, h0⟩ | ⟨r, cap, cur, rfl, hb, hr, hc, hm, _⟩
  · obtain rfl : l = [] := List.eq_nil_of_length_eq_zero h0
    exact NSl.nil w F
  · refine ⟨_, cap, rfl, hc, hm, (fun h => by cases h), fun hl => ⟨r, 0, rfl, hF r rfl, heap_lt hr, fun j hj => ?_⟩⟩
    have hx := h.cells (g := r) rfl j (.int .i64 (l.getD j 0)) (by simp [List.getElem?_eq_getElem hj])
    have hadd : (⟨r, 0, none⟩ : Addr).add j = ⟨r, 0 + j, none⟩ := by unfold Addr.add; split <;> simp_all
    rw [← hadd]
    exact hx
theorem IOwn.nslB {B : Nat} {w : World} {v : Value} {l : List Int} (h : IOwn B w v l) : NSl w (fun k => B ≤ k) v l := h.nsl (fun k hk => (World.ownsRow.lt h k hk).1)
theorem ivs_one {l : List Int} : ∀ u ∈ ivs l, u.oneCell' = true := by
  intro u hu
  obtain ⟨x, _, rfl⟩ := List.mem_map.1 hu
  rfl
theorem nsl_cells {w : World} {F : Nat → Prop} {ad : Addr} {n cap : Nat} {l : List Int} (h : NSl w F (.slice (some ad) n cap) l) : ∀ j u, (ivs l)[j]? = some u → w.cell? (ad.add j) = some u := by
  intro j u hu
  have hj : j < l.length := by
    rcases Nat.lt_or_ge j l.length with h | h
    · exact h
    · rw [List.getElem?_eq_none (by simpa using h)] at hu; cases hu
  obtain ⟨b, o, ha, _, _, hcell⟩ := h.at_ hj
  injection ha with ha
  subst ha
  have hadd : (⟨b, o, none⟩ : Addr).add j = ⟨b, o + j, none⟩ := by unfold Addr.add; split <;> simp_all
  rw [hadd, hcell]
  simp [List.getElem?_eq_getElem hj] at hu ⊢
  exact hu
/-- append of a slice to a row of the call's own. -/
theorem run_append_nsl (w : World) (base : Nat) (ty : TypeId) (v : Value) (cs : List Int) (hown : IOwn base w v cs) (F : Nat → Prop) (y : Value) (l : List Int) (hy : NSl w F y l) (hl : cs.length + l.length ≤ 100000) (hbase : base ≤ w.heap.size) :
    ∃ a' c' w', (Builtin.append_ #[32, 32] ty #[v, y]).run Try.prog w = .ok (.slice a' (cs.length + l.length) c') w' ∧ IOwn base w' (.slice a' (cs.length + l.length) c') (cs ++ l) ∧ w.grownBy w' v.ownBlock ∧ ((Value.slice a' (cs.length + l.length) c').ownBlock = v.ownBlock ∨ (Value.slice a' (cs.length + l.length) c').ownBlock = some w.heap.size) := by
  obtain ⟨i0, hi, hz0, hz1, hz2⟩ := info_parts info_int
  have key : ∃ v' w', (Builtin.append_ #[32, 32] ty #[v, y]).run Try.prog w = .ok v' w' ∧ w'.ownsRow base 3 1 v' (cs.length + l.length) (ivs cs ++ ivs l) ∧ w.grownBy w' v.ownBlock ∧ (v'.ownBlock = v.ownBlock ∨ v'.ownBlock = some w.heap.size) := by
    have hy' := hy
    obtain ⟨a, cap, rfl, hc, hm, hn, hr⟩ := hy
    rcases a with _ | ad
    · have h0 := hn rfl
      subst h0
      obtain rfl : l = [] := List.eq_nil_of_length_eq_zero (by omega)
      refine ⟨v, w, run_append_owned_none w base 32 ty 3 i0 1 Try.underlying32 hi v cs.length _ hown, ?_, ⟨rfl, rfl, rfl, Nat.le_refl _, fun _ _ _ => rfl⟩, .inl rfl⟩
      have h : w.ownsRow base 3 1 v cs.length (ivs cs) := hown
      simpa using h
    · obtain ⟨v', w', hrun, h2, h3, _, h5⟩ := run_append_own_at (P := Try.prog) w base 32 ty 3 i0 _ 1 8 Try.underlying32 hi hz0 hz1 hz2 rfl (by decide) v cs.length _ hown ad l.length cap (ivs l) (by simp) (nsl_cells hy') ivs_one (by unfold maxLen; omega) (by omega) hbase
      exact ⟨v', w', hrun, h2, h3, h5⟩
  obtain ⟨v', w', h1, h2, h3, h4⟩ := key
  have h2' : IOwn base w' v' (cs ++ l) := by unfold IOwn ivs; rw [List.map_append, List.length_append]; exact h2
  obtain ⟨a', c', e⟩ := h2'.form
  rw [List.length_append] at e
  subst e
  exact ⟨a', c', w', h1, h2', h3, h4⟩
theorem wp_append_nsl (w : World) {o : Oper} {a : Act} {K : Act → World → Prop} {Q : Exit → Act → World → Prop} (s x : Operand)
    (ho : o.op = .call { callee := .builtin .append, args := #[s, x], argTypes := #[32, 32] })
    (base : Nat) (v : Value) (cs : List Int) (hs : a.eval s = v) (hown : IOwn base w v cs) (F : Nat → Prop) (y : Value) (l : List Int) (hx : a.eval x = y) (hy : NSl w F y l) (hl : cs.length + l.length ≤ 100000) (hbase : base ≤ w.heap.size)
    (h : ∀ a' c' w', IOwn base w' (.slice a' (cs.length + l.length) c') (cs ++ l) → w.grownBy w' v.ownBlock → ((Value.slice a' (cs.length + l.length) c').ownBlock = v.ownBlock ∨ (Value.slice a' (cs.length + l.length) c').ownBlock = some w.heap.size) → K (a.put o.dst (.slice a' (cs.length + l.length) c')) w') : o.wp Try.prog a w K Q := by
  obtain ⟨a', c', w', hrun, h2, h3, h4⟩ := run_append_nsl w base o.type v cs hown F y l hy hl hbase
  unfold Oper.wp execOp
  simp only [ho, resolve, invoke, builtin, Sem.run_bind, Sem.run_pure, Result.andThen_ok, List.map_toArray, List.map_cons, List.map_nil, hs, hx, hrun]
  exact h a' c' w' h2 h3 h4
theorem wpList_append_nsl (w : World) {ops : Array Oper} {rest : List Oper} {o : Oper} {a : Act} {Q : Exit → Act → World → Prop} (hgd : o.guard = none) (s x : Operand)
    (ho : o.op = .call { callee := .builtin .append, args := #[s, x], argTypes := #[32, 32] })
    (base : Nat) (v : Value) (cs : List Int) (hs : a.eval s = v) (hown : IOwn base w v cs) (F : Nat → Prop) (y : Value) (l : List Int) (hx : a.eval x = y) (hy : NSl w F y l) (hl : cs.length + l.length ≤ 100000) (hbase : base ≤ w.heap.size)
    (h : ∀ a' c' w', IOwn base w' (.slice a' (cs.length + l.length) c') (cs ++ l) → w.grownBy w' v.ownBlock → ((Value.slice a' (cs.length + l.length) c').ownBlock = v.ownBlock ∨ (Value.slice a' (cs.length + l.length) c').ownBlock = some w.heap.size) → wpList Try.prog ops Q rest (a.put o.dst (.slice a' (cs.length + l.length) c')) w') : wpList Try.prog ops Q (o :: rest) a w :=
  wpList_plain hgd fun K hK => wp_append_nsl w s x ho base v cs hs hown F y l hx hy hl hbase fun a' c' w' h2 h3 h4 => hK _ _ (h a' c' w' h2 h3 h4)
theorem step_append_nsl (w : World) {ops : Array Oper} {o : Oper} {a : Act} {K : Act → World → Prop} {Q : Exit → Act → World → Prop} {E : Prop} (hgd : o.guard = none) (s x : Operand)
    (ho : o.op = .call { callee := .builtin .append, args := #[s, x], argTypes := #[32, 32] })
    (base : Nat) (v : Value) (cs : List Int) (hs : a.eval s = v) (hown : IOwn base w v cs) (F : Nat → Prop) (y : Value) (l : List Int) (hx : a.eval x = y) (hy : NSl w F y l) (hl : cs.length + l.length ≤ 100000) (hbase : base ≤ w.heap.size)
    (h : ∀ a' c' w', IOwn base w' (.slice a' (cs.length + l.length) c') (cs ++ l) → w.grownBy w' v.ownBlock → ((Value.slice a' (cs.length + l.length) c').ownBlock = v.ownBlock ∨ (Value.slice a' (cs.length + l.length) c').ownBlock = some w.heap.size) → K (a.put o.dst (.slice a' (cs.length + l.length) c')) w') :
    if Region.wanted o (yielded ops a.tmps) = true then Oper.wp Try.prog o a w K Q else E := by
  have hw : Region.wanted o (yielded ops a.tmps) = true := by simp [Region.wanted, hgd]
  rw [if_pos hw]
  exact wp_append_nsl w s x ho base v cs hs hown F y l hx hy hl hbase h
/-- One number in a block of its own reads as a slice. -/
theorem nsl_one {w : World} {b : Nat} {x : Int} (hb : w.heap[b]? = some (.cells #[.int .i64 x] 3 (0, 0))) : NSl w (fun _ => True) (.slice (some ⟨b, 0, none⟩) 1 1) [x] :=
  ⟨_, 1, rfl, Nat.le_refl _, by unfold maxLen; omega, (fun h => by cases h), fun _ => ⟨b, 0, rfl, trivial, heap_lt hb, fun j hj => by
    have : j = 0 := by simpa using hj
    subst this
    exact cell_of_row _ _ 0 _ _ _ hb⟩⟩
/-- append of one number to a slice with no room: a new row. -/
theorem wp_append_clip (w : World) {o : Oper} {a : Act} {K : Act → World → Prop} {Q : Exit → Act → World → Prop} (s x : Operand)
    (ho : o.op = .call { callee := .builtin .append, args := #[s, x], argTypes := #[32, 32] })
    (ao : Option Addr) (n : Nat) (l : List Int) (F : Nat → Prop) (hs : a.eval s = .slice ao n n) (hl : NSl w F (.slice ao n n) l) (b : Nat) (y : Int) (hx : a.eval x = .slice (some ⟨b, 0, none⟩) 1 1) (hb : w.heap[b]? = some (.cells #[.int .i64 y] 3 (0, 0))) (hm : l.length ≤ 100000)
    (h : ∀ a' c' w', IOwn w.heap.size w' (.slice a' (n + 1) c') (l ++ [y]) → w.grownBy w' none → K (a.put o.dst (.slice a' (n + 1) c')) w') : o.wp Try.prog a w K Q := by
  obtain ⟨i0, hi, hz0, hz1, hz2⟩ := info_parts info_int
  have hn := hl.len.1
  have key : ∃ v' w', (Builtin.append_ #[32, 32] o.type #[.slice ao n n, .slice (some ⟨b, 0, none⟩) 1 1]).run Try.prog w = .ok v' w' ∧ w'.ownsRow w.heap.size 3 1 v' (n + 1) (ivs l ++ [.int .i64 y]) ∧ w.grownBy w' none := by
    cases ao with
    | some ad =>
      exact run_append_arg_grows (P := Try.prog) w 32 o.type 3 i0 _ 1 8 Try.underlying32 hi hz0 hz1 hz2 rfl (by decide) ad n n (ivs l) (by simp [hn]) (nsl_cells hl) ⟨b, 0, none⟩ 1 1 [.int .i64 y] rfl (World.news_of_block (cs := #[.int .i64 y]) hb) (by omega) (by unfold maxLen; omega) (by omega)
    | none =>
      obtain ⟨a', cap', h1, h2, h3, h4, h5⟩ := hl
      injection h1 with h1 h6 h7
      have := h4 h1.symm
      subst this
      obtain rfl : n = 0 := by omega
      obtain rfl : l = [] := List.eq_nil_of_length_eq_zero (by omega)
      obtain ⟨v', w', hrun, r1, r2, _⟩ := run_append_own (P := Try.prog) w w.heap.size 32 o.type 3 i0 _ 1 8 Try.underlying32 hi hz0 hz1 hz2 rfl (by decide) (.slice none 0 0) 0 [] (World.ownsRow_nil w _ _ _) ⟨b, 0, none⟩ 1 1 [.int .i64 y] rfl (World.news_of_block (cs := #[.int .i64 y]) hb) (by simp [Value.oneCell']) (by unfold maxLen; omega) (by omega) (Nat.le_refl _)
      exact ⟨v', w', hrun, by simpa using r1, r2⟩
  obtain ⟨v', w', hrun, h2, h3⟩ := key
  have h2' : IOwn w.heap.size w' v' (l ++ [y]) := by unfold IOwn ivs; rw [List.map_append, List.length_append, ← hn]; exact h2
  obtain ⟨a', c', e⟩ := h2'.form
  rw [List.length_append, ← hn] at e
  have e : v' = .slice a' (n + 1) c' := e
  subst e
  unfold Oper.wp execOp
  simp only [ho, resolve, invoke, builtin, Sem.run_bind, Sem.run_pure, Result.andThen_ok, List.map_toArray, List.map_cons, List.map_nil, hs, hx, hrun]
  exact h a' c' w' h2' h3
theorem step_append_clip (w : World) {ops : Array Oper} {o : Oper} {a : Act} {K : Act → World → Prop} {Q : Exit → Act → World → Prop} {E : Prop} (hgd : o.guard = none) (s x : Operand)
    (ho : o.op = .call { callee := .builtin .append, args := #[s, x], argTypes := #[32, 32] })
    (ao : Option Addr) (n : Nat) (l : List Int) (F : Nat → Prop) (hs : a.eval s = .slice ao n n) (hl : NSl w F (.slice ao n n) l) (b : Nat) (y : Int) (hx : a.eval x = .slice (some ⟨b, 0, none⟩) 1 1) (hb : w.heap[b]? = some (.cells #[.int .i64 y] 3 (0, 0))) (hm : l.length ≤ 100000)
    (h : ∀ a' c' w', IOwn w.heap.size w' (.slice a' (n + 1) c') (l ++ [y]) → w.grownBy w' none → K (a.put o.dst (.slice a' (n + 1) c')) w') :
    if Region.wanted o (yielded ops a.tmps) = true then Oper.wp Try.prog o a w K Q else E := by
  have hw : Region.wanted o (yielded ops a.tmps) = true := by simp [Region.wanted, hgd]
  rw [if_pos hw]
  exact wp_append_clip w s x ho ao n l F hs hl b y hx hb hm h
end Go.Proofs.Ytbacnkndllifaaa
