/-
  Rows of reads of the call's own.
-/
import Derived.Test.YtnnmkmipeoajjaaGreatDoorVer1
import Derived.Maps.AppendAt
namespace Go.Proofs.YtnnmkmipeoajjaaGreatDoor
open Go.RowKit
set_option linter.unusedVariables false

/-- A read: token, client, number, key. -/
structure Rq where
  t : Int
  c : Int
  n : Int
  k : Int
def rq0 : Rq := ⟨0, 0, 0, 0⟩
instance : DecidableEq Rq := fun a b => decidable_of_decidable_of_iff (p := a.t = b.t ∧ a.c = b.c ∧ a.n = b.n ∧ a.k = b.k) (by cases a; cases b; simp)
def rqc (x : Rq) : List Value := [.int .u64 x.t, .int .i64 x.c, .int .u64 x.n, .int .u32 x.k]
def rqv (x : Rq) : Value := .agg #[.int .u64 x.t, .int .i64 x.c, .int .u64 x.n, .int .u32 x.k]
def rql (l : List Rq) : List Value := l.flatMap rqc
theorem rql_app (a b : List Rq) : rql (a ++ b) = rql a ++ rql b := by simp [rql]
theorem rql_len (a : List Rq) : (rql a).length = a.length * 4 := by
  induction a with
  | nil => rfl
  | cons p a ih =>
    have : rql (p :: a) = rqc p ++ rql a := rfl
    rw [this, List.length_append, ih, List.length_cons, show (rqc p).length = 4 from rfl]
    omega
theorem rql_at (a : List Rq) (j i : Nat) (hj : j < a.length) (hi : i < 4) : (rql a)[j * 4 + i]? = (rqc a[j])[i]? := by
  induction a generalizing j with
  | nil => exact absurd hj (by simp)
  | cons p a ih =>
    have e : rql (p :: a) = rqc p ++ rql a := rfl
    have hl : (rqc p).length = 4 := rfl
    rw [e]
    cases j with
    | zero =>
      rw [Nat.zero_mul, Nat.zero_add, List.getElem?_append_left (by rw [hl]; exact hi)]
      rfl
    | succ j =>
      rw [List.getElem?_append_right (by rw [hl]; omega)]
      simp only [hl, List.getElem_cons_succ]
      rw [show (j + 1) * 4 + i - 4 = j * 4 + i by omega]
      exact ih j (by simpa using hj)
theorem info_rq22 : (Tryz.prog.info? 33).map (fun i => (i.zero, i.size, i.bytes)) = some (some (.agg #[.int .u64 0, .int .i64 0, .int .u64 0, .int .u32 0]), 4, 32) := by kernel_rfl
theorem info_rr22 : (Tryz.prog.info? 37).map (fun i => (i.zero, i.size, i.bytes)) = some (some (.agg #[.int .u64 0, .int .i64 0, .int .u64 0, .int .u32 0]), 4, 32) := by kernel_rfl
/-- A row of reads of the call's own, from block B on. -/
def RqOw (e : TypeId) (B : Nat) (w : World) (v : Value) (L : List Rq) : Prop := w.ownsRow B e 4 v L.length (rql L)
theorem RqOw.nil (e : TypeId) (B : Nat) (w : World) : RqOw e B w (.slice none 0 0) [] := World.ownsRow_nil _ _ _ _
theorem RqOw.form {e : TypeId} {B : Nat} {w : World} {v : Value} {L : List Rq} (h : RqOw e B w v L) : ∃ a c, v = .slice a L.length c := by
  rcases h.2 with ⟨rfl, h0⟩ | ⟨r, cap, cur, rfl, _⟩
  · exact ⟨none, 0, by rw [h0]⟩
  · exact ⟨_, _, rfl⟩
theorem RqOw.kept {S : Nat → Prop} {e : TypeId} {B : Nat} {w w' : World} {v : Value} {L : List Rq} (h : RqOw e B w v L) (hk : Kept S w w') (hs : ∀ k, v.ownBlock = some k → ¬ S k) : RqOw e B w' v L := by
  refine ⟨h.1, ?_⟩
  rcases h.2 with hn | ⟨r, cap, cur, rfl, hb, hr, rest⟩
  · exact .inl hn
  · exact .inr ⟨r, cap, cur, rfl, hb, hk.heap (hs r rfl) hr, rest⟩
theorem RqOw.no {e : TypeId} {B : Nat} {w w' : World} {v : Value} {L : List Rq} (h : RqOw e B w v L) (hk : Kept NoB w w') : RqOw e B w' v L := h.kept hk (fun _ _ h => h)
theorem RqOw.base {e : TypeId} {B : Nat} {w : World} {v : Value} {L : List Rq} (h : RqOw e B w v L) (k : Nat) (hk : v.ownBlock = some k) : B ≤ k ∧ k < w.heap.size := by
  rcases h.2 with ⟨rfl, _⟩ | ⟨r, cap, cur, rfl, hb, hr, _⟩
  · cases hk
  · injection hk with hk
    subst hk
    exact ⟨hb, heap_lt hr⟩
theorem RqOw.mono {e : TypeId} {B C : Nat} {w : World} {v : Value} {L : List Rq} (h : RqOw e B w v L) (hB : C ≤ B) : RqOw e C w v L := by
  refine ⟨h.1, ?_⟩
  rcases h.2 with hn | ⟨r, cap, cur, rfl, hb, rest⟩
  · exact .inl hn
  · exact .inr ⟨r, cap, cur, rfl, Nat.le_trans hB hb, rest⟩
/-- A row's cells. -/
theorem RqOw.cells {e : TypeId} {B : Nat} {w : World} {v : Value} {L : List Rq} (h : RqOw e B w v L) (j : Nat) (hj : j < L.length) :
    ∃ r c, v = .slice (some ⟨r, 0, none⟩) L.length c ∧ L.length ≤ c ∧ r < w.heap.size ∧ w.cell? ⟨r, j * 4, none⟩ = some (.int .u64 L[j].t) ∧ w.cell? ⟨r, j * 4 + 1, none⟩ = some (.int .i64 L[j].c) ∧ w.cell? ⟨r, j * 4 + 2, none⟩ = some (.int .u64 L[j].n) ∧
      w.cell? ⟨r, j * 4 + 3, none⟩ = some (.int .u32 L[j].k) := by
  have h' := h
  rcases h.2 with ⟨rfl, h0⟩ | ⟨r, cap, cur, rfl, hb, hr, hc, hm, _⟩
  · omega
  have hx : ∀ i, i < 4 → ∀ u, (rqc L[j])[i]? = some u → w.cell? ⟨r, j * 4 + i, none⟩ = some u := fun i hi u hu => by
    have := World.ownsRow.cells h' (g := r) rfl (j * 4 + i) u (by rw [rql_at L j i hj hi]; exact hu)
    have hadd : (⟨r, 0, none⟩ : Addr).add (j * 4 + i) = ⟨r, j * 4 + i, none⟩ := by unfold Addr.add; split <;> simp_all
    rw [← hadd]
    exact this
  exact ⟨r, cap, rfl, hc, heap_lt hr, hx 0 (by omega) _ rfl, hx 1 (by omega) _ rfl, hx 2 (by omega) _ rfl, hx 3 (by omega) _ rfl⟩
/-- append of one read that lies in a block to a row of the call's own. -/
theorem run_append_rq {e tl : TypeId} (hU : Tryz.prog.underlying tl = some (.slice e)) (hI : (Tryz.prog.info? e).map (fun i => (i.zero, i.size, i.bytes)) = some (some (.agg #[.int .u64 0, .int .i64 0, .int .u64 0, .int .u32 0]), 4, 32)) (w : World) (base : Nat) (ty : TypeId) (v : Value) (L : List Rq) (hown : RqOw e base w v L) (b : Nat) (x : Rq) (hb : w.heap[b]? = some (.cells #[.int .u64 x.t, .int .i64 x.c, .int .u64 x.n, .int .u32 x.k] e (0, 0))) (hl : L.length ≤ 100000) (hbase : base ≤ w.heap.size) :
    ∃ a' c' w', (Builtin.append_ #[tl, tl] ty #[v, .slice (some ⟨b, 0, none⟩) 1 1]).run Tryz.prog w = .ok (.slice a' (L.length + 1) c') w' ∧ RqOw e base w' (.slice a' (L.length + 1) c') (L ++ [x]) ∧ w.grownBy w' v.ownBlock ∧ ((Value.slice a' (L.length + 1) c').ownBlock = v.ownBlock ∨ (Value.slice a' (L.length + 1) c').ownBlock = some w.heap.size) := by
  obtain ⟨i0, hi, hz0, hz1, hz2⟩ := info_parts hI
  obtain ⟨v', w', hrun, h2, h3, _, h5⟩ := run_append_own_at (P := Tryz.prog) w base tl ty e i0 _ 4 32 hU hi hz0 hz1 hz2 rfl (by decide) v L.length _ hown ⟨b, 0, none⟩ 1 1 (rql [x]) (by simp [rql, rqc]) (World.news_of_block hb) (by
    intro y hy
    simp only [rql, rqc, List.flatMap_cons, List.flatMap_nil, List.append_nil, List.mem_cons, List.not_mem_nil, or_false] at hy
    rcases hy with rfl | rfl | rfl | rfl <;> rfl) (by unfold maxLen; omega) (by omega) hbase
  have h2' : RqOw e base w' v' (L ++ [x]) := by
    unfold RqOw
    rw [rql_app, List.length_append]
    exact h2
  obtain ⟨a', c', he⟩ := h2'.form
  rw [List.length_append] at he
  have he : v' = .slice a' (L.length + 1) c' := he
  subst he
  exact ⟨a', c', w', hrun, h2', h3, h5⟩
theorem wpList_append_rq {e tl : TypeId} (hU : Tryz.prog.underlying tl = some (.slice e)) (hI : (Tryz.prog.info? e).map (fun i => (i.zero, i.size, i.bytes)) = some (some (.agg #[.int .u64 0, .int .i64 0, .int .u64 0, .int .u32 0]), 4, 32)) (w : World) {ops : Array Oper} {rest : List Oper} {o : Oper} {a : Act} {Q : Exit → Act → World → Prop} (hgd : o.guard = none) (s x : Operand)
    (ho : o.op = .call { callee := .builtin .append, args := #[s, x], argTypes := #[tl, tl] })
    (base : Nat) (v : Value) (L : List Rq) (hs : a.eval s = v) (hown : RqOw e base w v L) (b : Nat) (y : Rq) (hx : a.eval x = .slice (some ⟨b, 0, none⟩) 1 1) (hb : w.heap[b]? = some (.cells #[.int .u64 y.t, .int .i64 y.c, .int .u64 y.n, .int .u32 y.k] e (0, 0))) (hl : L.length ≤ 100000) (hbase : base ≤ w.heap.size) (N : Nat) (hN : L.length + 1 = N)
    (h : ∀ a' c' w', RqOw e base w' (.slice a' N c') (L ++ [y]) → w.grownBy w' v.ownBlock → ((Value.slice a' N c').ownBlock = v.ownBlock ∨ (Value.slice a' N c').ownBlock = some w.heap.size) → wpList Tryz.prog ops Q rest (a.put o.dst (.slice a' N c')) w') : wpList Tryz.prog ops Q (o :: rest) a w :=
  wpList_plain hgd fun K hK => by
    subst hN
    obtain ⟨a', c', w', hrun, h2, h3, h4⟩ := run_append_rq hU hI w base o.type v L hown b y hb hl hbase
    unfold Oper.wp execOp
    simp only [ho, resolve, invoke, builtin, Sem.run_bind, Sem.run_pure, Result.andThen_ok, List.map_toArray, List.map_cons, List.map_nil, hs, hx, hrun]
    exact hK _ _ (h a' c' w' h2 h3 h4)
theorem rql_take (a : List Rq) (k : Nat) : rql (a.take k) = (rql a).take (k * 4) := by
  induction k generalizing a with
  | zero => simp [rql]
  | succ k ih =>
    cases a with
    | nil => simp [rql]
    | cons x a =>
      have e : rql (x :: a) = rqc x ++ rql a := rfl
      have e2 : rql ((x :: a).take (k + 1)) = rqc x ++ rql (a.take k) := rfl
      rw [e2, e, List.take_append, ih, show (rqc x).length = 4 from rfl, show (k + 1) * 4 - 4 = k * 4 by omega, List.take_of_length_le (l := rqc x) (by show 4 ≤ _; omega)]
theorem rql_drop (a : List Rq) (k : Nat) : rql (a.drop k) = (rql a).drop (k * 4) := by
  induction k generalizing a with
  | zero => simp [rql]
  | succ k ih =>
    cases a with
    | nil => simp [rql]
    | cons x a =>
      have e : rql (x :: a) = rqc x ++ rql a := rfl
      have e2 : rql ((x :: a).drop (k + 1)) = rql (a.drop k) := rfl
      rw [e2, e, List.drop_append, ih, show (rqc x).length = 4 from rfl, show (k + 1) * 4 - 4 = k * 4 by omega, List.drop_of_length_le (show (rqc x).length ≤ (k + 1) * 4 by show 4 ≤ _; omega), List.nil_append]
theorem rql_one (a : List Rq) : ∀ u ∈ rql a, u.oneCell' = true := by
  intro u hu
  unfold rql at hu
  obtain ⟨x, _, hx⟩ := List.mem_flatMap.1 hu
  simp only [rqc, List.mem_cons, List.not_mem_nil, or_false] at hx
  rcases hx with rfl | rfl | rfl | rfl <;> rfl
end Go.Proofs.YtnnmkmipeoajjaaGreatDoor
