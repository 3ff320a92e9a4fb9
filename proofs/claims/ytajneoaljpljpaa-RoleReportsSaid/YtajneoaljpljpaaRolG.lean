/-
  Rows of commands of the call's own.
-/
import Derived.Test.YtajneoaljpljpaaRolA
namespace Go.Proofs.Ytajneoaljpljpaa
open Go.RowKit
set_option linter.unusedVariables false

/-- A command: kind, chain, epoch, node. -/
structure Rc where
  k : Int
  ch : Int
  ep : Int
  nd : Int
def rc0 : Rc := ⟨0, 0, 0, 0⟩
instance : DecidableEq Rc := fun a b => decidable_of_decidable_of_iff (p := a.k = b.k ∧ a.ch = b.ch ∧ a.ep = b.ep ∧ a.nd = b.nd) (by cases a; cases b; simp)
def rcc (x : Rc) : List Value := [.int .i64 x.k, .int .i64 x.ch, .int .u64 x.ep, .int .i64 x.nd]
def rcs19 (l : List Rc) : List Value := l.flatMap rcc
theorem rcs19_app (a b : List Rc) : rcs19 (a ++ b) = rcs19 a ++ rcs19 b := by simp [rcs19]
theorem rcs19_len (a : List Rc) : (rcs19 a).length = a.length * 4 := by
  induction a with
  | nil => rfl
  | cons p a ih =>
    have : rcs19 (p :: a) = rcc p ++ rcs19 a := rfl
    rw [this, List.length_append, ih, List.length_cons, show (rcc p).length = 4 from rfl]
    omega
theorem rcs19_at (a : List Rc) (j i : Nat) (hj : j < a.length) (hi : i < 4) : (rcs19 a)[j * 4 + i]? = (rcc a[j])[i]? := by
  induction a generalizing j with
  | nil => exact absurd hj (by simp)
  | cons p a ih =>
    have e : rcs19 (p :: a) = rcc p ++ rcs19 a := rfl
    have hl : (rcc p).length = 4 := rfl
    rw [e]
    cases j with
    | zero =>
      rw [Nat.zero_mul, Nat.zero_add, List.getElem?_append_left (by rw [hl]; exact hi)]
      rfl
    | succ j =>
      rw [List.getElem?_append_right (by rw [hl]; omega)]
      simp only [hl, List.getElem_cons_succ]
      rw [show (j + 1) * 4 + i - 4 = j * 4 + i by omega]
      exact ih j (by simpa using hj)
theorem info_cmd19 : (Try.prog.info? 38).map (fun i => (i.zero, i.size, i.bytes)) = some (some (.agg #[.int .i64 0, .int .i64 0, .int .u64 0, .int .i64 0]), 4, 32) := by kernel_rfl
/-- A row of commands of the call's own, from block B on. -/
def RcOwn (B : Nat) (w : World) (v : Value) (L : List Rc) : Prop := w.ownsRow B 38 4 v L.length (rcs19 L)
theorem RcOwn.nil (B : Nat) (w : World) : RcOwn B w (.slice none 0 0) [] := World.ownsRow_nil _ _ _ _
theorem RcOwn.form {B : Nat} {w : World} {v : Value} {L : List Rc} (h : RcOwn B w v L) : ∃ a c, v = .slice a L.length c := by
  rcases h.2 with ⟨rfl, h0⟩ | ⟨r, cap, cur, rfl, _⟩
  · exact ⟨none, 0, by rw [h0]⟩
  · exact ⟨_, _, rfl⟩
theorem RcOwn.kept {S : Nat → Prop} {B : Nat} {w w' : World} {v : Value} {L : List Rc} (h : RcOwn B w v L) (hk : Kept S w w') (hs : ∀ k, v.ownBlock = some k → ¬ S k) : RcOwn B w' v L := by
  refine ⟨h.1, ?_⟩
  rcases h.2 with hn | ⟨r, cap, cur, rfl, hb, hr, rest⟩
  · exact .inl hn
  · exact .inr ⟨r, cap, cur, rfl, hb, hk.heap (hs r rfl) hr, rest⟩
theorem RcOwn.no {B : Nat} {w w' : World} {v : Value} {L : List Rc} (h : RcOwn B w v L) (hk : Kept NoB w w') : RcOwn B w' v L := h.kept hk (fun _ _ h => h)
theorem RcOwn.base {B : Nat} {w : World} {v : Value} {L : List Rc} (h : RcOwn B w v L) (k : Nat) (hk : v.ownBlock = some k) : B ≤ k ∧ k < w.heap.size := by
  rcases h.2 with ⟨rfl, _⟩ | ⟨r, cap, cur, rfl, hb, hr, _⟩
  · cases hk
  · injection hk with hk
    subst hk
    exact ⟨hb, heap_lt hr⟩
theorem RcOwn.mono {B C : Nat} {w : World} {v : Value} {L : List Rc} (h : RcOwn B w v L) (hB : C ≤ B) : RcOwn C w v L := by
  refine ⟨h.1, ?_⟩
  rcases h.2 with hn | ⟨r, cap, cur, rfl, hb, rest⟩
  · exact .inl hn
  · exact .inr ⟨r, cap, cur, rfl, Nat.le_trans hB hb, rest⟩
/-- A row's cells. -/
theorem RcOwn.cells {B : Nat} {w : World} {v : Value} {L : List Rc} (h : RcOwn B w v L) (j : Nat) (hj : j < L.length) :
    ∃ r c, v = .slice (some ⟨r, 0, none⟩) L.length c ∧ L.length ≤ c ∧ r < w.heap.size ∧ w.cell? ⟨r, j * 4, none⟩ = some (.int .i64 L[j].k) ∧ w.cell? ⟨r, j * 4 + 1, none⟩ = some (.int .i64 L[j].ch) ∧ w.cell? ⟨r, j * 4 + 2, none⟩ = some (.int .u64 L[j].ep) ∧
      w.cell? ⟨r, j * 4 + 3, none⟩ = some (.int .i64 L[j].nd) := by
  have h' := h
  rcases h.2 with ⟨rfl, h0⟩ | ⟨r, cap, cur, rfl, hb, hr, hc, hm, _⟩
  · omega
  have hx : ∀ i, i < 4 → ∀ u, (rcc L[j])[i]? = some u → w.cell? ⟨r, j * 4 + i, none⟩ = some u := fun i hi u hu => by
    have := World.ownsRow.cells h' (g := r) rfl (j * 4 + i) u (by rw [rcs19_at L j i hj hi]; exact hu)
    have hadd : (⟨r, 0, none⟩ : Addr).add (j * 4 + i) = ⟨r, j * 4 + i, none⟩ := by unfold Addr.add; split <;> simp_all
    rw [← hadd]
    exact this
  exact ⟨r, cap, rfl, hc, heap_lt hr, hx 0 (by omega) _ rfl, hx 1 (by omega) _ rfl, hx 2 (by omega) _ rfl, hx 3 (by omega) _ rfl⟩
/-- append of one command that lies in a block to a row of the call's own. -/
theorem run_append_rc (w : World) (base : Nat) (ty : TypeId) (v : Value) (L : List Rc) (hown : RcOwn base w v L) (b : Nat) (x : Rc) (hb : w.heap[b]? = some (.cells #[.int .i64 x.k, .int .i64 x.ch, .int .u64 x.ep, .int .i64 x.nd] 38 (0, 0))) (hl : L.length ≤ 100000) (hbase : base ≤ w.heap.size) :
    ∃ a' c' w', (Builtin.append_ #[35, 35] ty #[v, .slice (some ⟨b, 0, none⟩) 1 1]).run Try.prog w = .ok (.slice a' (L.length + 1) c') w' ∧ RcOwn base w' (.slice a' (L.length + 1) c') (L ++ [x]) ∧ w.grownBy w' v.ownBlock ∧ ((Value.slice a' (L.length + 1) c').ownBlock = v.ownBlock ∨ (Value.slice a' (L.length + 1) c').ownBlock = some w.heap.size) := by
  obtain ⟨i0, hi, hz0, hz1, hz2⟩ := info_parts info_cmd19
  obtain ⟨v', w', hrun, h2, h3, _, h5⟩ := run_append_own_at (P := Try.prog) w base 35 ty 38 i0 _ 4 32 Try.underlying35 hi hz0 hz1 hz2 rfl (by decide) v L.length _ hown ⟨b, 0, none⟩ 1 1 (rcs19 [x]) (by simp [rcs19, rcc]) (World.news_of_block hb) (by
    intro y hy
    simp only [rcs19, rcc, List.flatMap_cons, List.flatMap_nil, List.append_nil, List.mem_cons, List.not_mem_nil, or_false] at hy
    rcases hy with rfl | rfl | rfl | rfl <;> rfl) (by unfold maxLen; omega) (by omega) hbase
  have h2' : RcOwn base w' v' (L ++ [x]) := by
    unfold RcOwn
    rw [rcs19_app, List.length_append]
    exact h2
  obtain ⟨a', c', e⟩ := h2'.form
  rw [List.length_append] at e
  have e : v' = .slice a' (L.length + 1) c' := e
  subst e
  exact ⟨a', c', w', hrun, h2', h3, h5⟩
theorem wpList_append_rc (w : World) {ops : Array Oper} {rest : List Oper} {o : Oper} {a : Act} {Q : Exit → Act → World → Prop} (hgd : o.guard = none) (s x : Operand)
    (ho : o.op = .call { callee := .builtin .append, args := #[s, x], argTypes := #[35, 35] })
    (base : Nat) (v : Value) (L : List Rc) (hs : a.eval s = v) (hown : RcOwn base w v L) (b : Nat) (y : Rc) (hx : a.eval x = .slice (some ⟨b, 0, none⟩) 1 1) (hb : w.heap[b]? = some (.cells #[.int .i64 y.k, .int .i64 y.ch, .int .u64 y.ep, .int .i64 y.nd] 38 (0, 0))) (hl : L.length ≤ 100000) (hbase : base ≤ w.heap.size) (N : Nat) (hN : L.length + 1 = N)
    (h : ∀ a' c' w', RcOwn base w' (.slice a' N c') (L ++ [y]) → w.grownBy w' v.ownBlock → ((Value.slice a' N c').ownBlock = v.ownBlock ∨ (Value.slice a' N c').ownBlock = some w.heap.size) → wpList Try.prog ops Q rest (a.put o.dst (.slice a' N c')) w') : wpList Try.prog ops Q (o :: rest) a w :=
  wpList_plain hgd fun K hK => by
    subst hN
    obtain ⟨a', c', w', hrun, h2, h3, h4⟩ := run_append_rc w base o.type v L hown b y hb hl hbase
    unfold Oper.wp execOp
    simp only [ho, resolve, invoke, builtin, Sem.run_bind, Sem.run_pure, Result.andThen_ok, List.map_toArray, List.map_cons, List.map_nil, hs, hx, hrun]
    exact hK _ _ (h a' c' w' h2 h3 h4)
end Go.Proofs.Ytajneoaljpljpaa
