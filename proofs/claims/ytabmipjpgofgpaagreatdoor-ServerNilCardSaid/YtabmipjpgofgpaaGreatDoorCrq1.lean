/-
  Rows of reads of the call's own. once and same of layer 22. The chapter's reads: plainly, and Ask, Told. The chapter's Told. Reads by a function literal: IndexFunc, DeleteFunc. slices.DeleteFunc, Delete and Clone over rows of reads. slices.Delete of one read, and Clone. Package craq: those that wait, in memory; Clone, New, Len, List, Clear; calls at none.
-/
import Derived.Test.YtabmipjpgofgpaaGreatDoorVer1
import Derived.Maps.AppendAt
import Derived.Deep.CutRange
import Derived.LoopTactic
import Derived.Deep.RegionHeld3
import Derived.Shelf.Abstract
import Derived.ArgAppend
import Derived.Deep.RegionLaw
import Derived.Laws.AppendOwn
namespace Go.Proofs.YtabmipjpgofgpaaGreatDoor
open Go.RowKit
set_option linter.unusedVariables false

/-- A read: token, client, number, key. -/
structure Rq where
  t : Int
  c : Int
  n : Int
  k : Int
def rq0 : Rq := ⟨0, 0, 0, 0⟩
instance : DecidableEq Rq := fun a b => decidable_of_decidable_of_iff (p := a.t = b.t ∧ a.c = b.c ∧ a.n = b.n ∧ a.k = b.k) (by cases a; cases b; simp)
def rqc (x : Rq) : List Value := [.int .u64 x.t, .int .i64 x.c, .int .u64 x.n, .int .u32 x.k]
def rqv (x : Rq) : Value := .agg #[.int .u64 x.t, .int .i64 x.c, .int .u64 x.n, .int .u32 x.k]
def rql (l : List Rq) : List Value := l.flatMap rqc
theorem rql_app (a b : List Rq) : rql (a ++ b) = rql a ++ rql b := by simp [rql]
theorem rql_len (a : List Rq) : (rql a).length = a.length * 4 := by
  induction a with
  | nil => rfl
  | cons p a ih =>
    have : rql (p :: a) = rqc p ++ rql a := rfl
    rw [this, List.length_append, ih, List.length_cons, show (rqc p).length = 4 from rfl]
    omega
theorem rql_at (a : List Rq) (j i : Nat) (hj : j < a.length) (hi : i < 4) : (rql a)[j * 4 + i]? = (rqc a[j])[i]? := by
  induction a generalizing j with
  | nil => exact absurd hj (by simp)
  | cons p a ih =>
    have e : rql (p :: a) = rqc p ++ rql a := rfl
    have hl : (rqc p).length = 4 := rfl
    rw [e]
    cases j with
    | zero =>
      rw [Nat.zero_mul, Nat.zero_add, List.getElem?_append_left (by rw [hl]; exact hi)]
      rfl
    | succ j =>
      rw [List.getElem?_append_right (by rw [hl]; omega)]
      simp only [hl, List.getElem_cons_succ]
      rw [show (j + 1) * 4 + i - 4 = j * 4 + i by omega]
      exact ih j (by simpa using hj)
theorem info_rq22 : (Tryz.prog.info? 167).map (fun i => (i.zero, i.size, i.bytes)) = some (some (.agg #[.int .u64 0, .int .i64 0, .int .u64 0, .int .u32 0]), 4, 32) := by kernel_rfl
/-- A row of reads of the call's own, from block B on. -/
def RqOw (e : TypeId) (B : Nat) (w : World) (v : Value) (L : List Rq) : Prop := w.ownsRow B e 4 v L.length (rql L)
theorem RqOw.nil (e : TypeId) (B : Nat) (w : World) : RqOw e B w (.slice none 0 0) [] := World.ownsRow_nil _ _ _ _
theorem RqOw.form {e : TypeId} {B : Nat} {w : World} {v : Value} {L : List Rq} (h : RqOw e B w v L) : ∃ a c, v = .slice a L.length c := by
  rcases h.2 with ⟨rfl, h0⟩ | ⟨r, cap, cur, rfl, _⟩
  · exact ⟨none, 0, by rw [h0]⟩
  · exact ⟨_, _, rfl⟩
theorem RqOw.kept {S : Nat → Prop} {e : TypeId} {B : Nat} {w w' : World} {v : Value} {L : List Rq} (h : RqOw e B w v L) (hk : Kept S w w') (hs : ∀ k, v.ownBlock = some k → ¬ S k) : RqOw e B w' v L := by
  refine ⟨h.1, ?_⟩
  rcases h.2 with hn | ⟨r, cap, cur, rfl, hb, hr, rest⟩
  · exact .inl hn
  · exact .inr ⟨r, cap, cur, rfl, hb, hk.heap (hs r rfl) hr, rest⟩
theorem RqOw.no {e : TypeId} {B : Nat} {w w' : World} {v : Value} {L : List Rq} (h : RqOw e B w v L) (hk : Kept NoB w w') : RqOw e B w' v L := h.kept hk (fun _ _ h => h)
theorem RqOw.base {e : TypeId} {B : Nat} {w : World} {v : Value} {L : List Rq} (h : RqOw e B w v L) (k : Nat) (hk : v.ownBlock = some k) : B ≤ k ∧ k < w.heap.size := by
  rcases h.2 with ⟨rfl, _⟩ | ⟨r, cap, cur, rfl, hb, hr, _⟩
  · cases hk
  · injection hk with hk
    subst hk
    exact ⟨hb, heap_lt hr⟩
theorem RqOw.mono {e : TypeId} {B C : Nat} {w : World} {v : Value} {L : List Rq} (h : RqOw e B w v L) (hB : C ≤ B) : RqOw e C w v L := by
  refine ⟨h.1, ?_⟩
  rcases h.2 with hn | ⟨r, cap, cur, rfl, hb, rest⟩
  · exact .inl hn
  · exact .inr ⟨r, cap, cur, rfl, Nat.le_trans hB hb, rest⟩
/-- A row's cells. -/
theorem RqOw.cells {e : TypeId} {B : Nat} {w : World} {v : Value} {L : List Rq} (h : RqOw e B w v L) (j : Nat) (hj : j < L.length) :
    ∃ r c, v = .slice (some ⟨r, 0, none⟩) L.length c ∧ L.length ≤ c ∧ r < w.heap.size ∧ w.cell? ⟨r, j * 4, none⟩ = some (.int .u64 L[j].t) ∧ w.cell? ⟨r, j * 4 + 1, none⟩ = some (.int .i64 L[j].c) ∧ w.cell? ⟨r, j * 4 + 2, none⟩ = some (.int .u64 L[j].n) ∧
      w.cell? ⟨r, j * 4 + 3, none⟩ = some (.int .u32 L[j].k) := by
  have h' := h
  rcases h.2 with ⟨rfl, h0⟩ | ⟨r, cap, cur, rfl, hb, hr, hc, hm, _⟩
  · omega
  have hx : ∀ i, i < 4 → ∀ u, (rqc L[j])[i]? = some u → w.cell? ⟨r, j * 4 + i, none⟩ = some u := fun i hi u hu => by
    have := World.ownsRow.cells h' (g := r) rfl (j * 4 + i) u (by rw [rql_at L j i hj hi]; exact hu)
    have hadd : (⟨r, 0, none⟩ : Addr).add (j * 4 + i) = ⟨r, j * 4 + i, none⟩ := by unfold Addr.add; split <;> simp_all
    rw [← hadd]
    exact this
  exact ⟨r, cap, rfl, hc, heap_lt hr, hx 0 (by omega) _ rfl, hx 1 (by omega) _ rfl, hx 2 (by omega) _ rfl, hx 3 (by omega) _ rfl⟩
/-- append of one read that lies in a block to a row of the call's own. -/
theorem run_append_rq {e tl : TypeId} (hU : Tryz.prog.underlying tl = some (.slice e)) (hI : (Tryz.prog.info? e).map (fun i => (i.zero, i.size, i.bytes)) = some (some (.agg #[.int .u64 0, .int .i64 0, .int .u64 0, .int .u32 0]), 4, 32)) (w : World) (base : Nat) (ty : TypeId) (v : Value) (L : List Rq) (hown : RqOw e base w v L) (b : Nat) (x : Rq) (hb : w.heap[b]? = some (.cells #[.int .u64 x.t, .int .i64 x.c, .int .u64 x.n, .int .u32 x.k] e (0, 0))) (hl : L.length ≤ 100000) (hbase : base ≤ w.heap.size) :
    ∃ a' c' w', (Builtin.append_ #[tl, tl] ty #[v, .slice (some ⟨b, 0, none⟩) 1 1]).run Tryz.prog w = .ok (.slice a' (L.length + 1) c') w' ∧ RqOw e base w' (.slice a' (L.length + 1) c') (L ++ [x]) ∧ w.grownBy w' v.ownBlock ∧ ((Value.slice a' (L.length + 1) c').ownBlock = v.ownBlock ∨ (Value.slice a' (L.length + 1) c').ownBlock = some w.heap.size) := by
  obtain ⟨i0, hi, hz0, hz1, hz2⟩ := info_parts hI
  obtain ⟨v', w', hrun, h2, h3, _, h5⟩ := run_append_own_at (P := Tryz.prog) w base tl ty e i0 _ 4 32 hU hi hz0 hz1 hz2 rfl (by decide) v L.length _ hown ⟨b, 0, none⟩ 1 1 (rql [x]) (by simp [rql, rqc]) (World.news_of_block hb) (by
    intro y hy
    simp only [rql, rqc, List.flatMap_cons, List.flatMap_nil, List.append_nil, List.mem_cons, List.not_mem_nil, or_false] at hy
    rcases hy with rfl | rfl | rfl | rfl <;> rfl) (by unfold maxLen; omega) (by omega) hbase
  have h2' : RqOw e base w' v' (L ++ [x]) := by
    unfold RqOw
    rw [rql_app, List.length_append]
    exact h2
  obtain ⟨a', c', he⟩ := h2'.form
  rw [List.length_append] at he
  have he : v' = .slice a' (L.length + 1) c' := he
  subst he
  exact ⟨a', c', w', hrun, h2', h3, h5⟩
theorem wpList_append_rq {e tl : TypeId} (hU : Tryz.prog.underlying tl = some (.slice e)) (hI : (Tryz.prog.info? e).map (fun i => (i.zero, i.size, i.bytes)) = some (some (.agg #[.int .u64 0, .int .i64 0, .int .u64 0, .int .u32 0]), 4, 32)) (w : World) {ops : Array Oper} {rest : List Oper} {o : Oper} {a : Act} {Q : Exit → Act → World → Prop} (hgd : o.guard = none) (s x : Operand)
    (ho : o.op = .call { callee := .builtin .append, args := #[s, x], argTypes := #[tl, tl] })
    (base : Nat) (v : Value) (L : List Rq) (hs : a.eval s = v) (hown : RqOw e base w v L) (b : Nat) (y : Rq) (hx : a.eval x = .slice (some ⟨b, 0, none⟩) 1 1) (hb : w.heap[b]? = some (.cells #[.int .u64 y.t, .int .i64 y.c, .int .u64 y.n, .int .u32 y.k] e (0, 0))) (hl : L.length ≤ 100000) (hbase : base ≤ w.heap.size) (N : Nat) (hN : L.length + 1 = N)
    (h : ∀ a' c' w', RqOw e base w' (.slice a' N c') (L ++ [y]) → w.grownBy w' v.ownBlock → ((Value.slice a' N c').ownBlock = v.ownBlock ∨ (Value.slice a' N c').ownBlock = some w.heap.size) → wpList Tryz.prog ops Q rest (a.put o.dst (.slice a' N c')) w') : wpList Tryz.prog ops Q (o :: rest) a w :=
  wpList_plain hgd fun K hK => by
    subst hN
    obtain ⟨a', c', w', hrun, h2, h3, h4⟩ := run_append_rq hU hI w base o.type v L hown b y hb hl hbase
    unfold Oper.wp execOp
    simp only [ho, resolve, invoke, builtin, Sem.run_bind, Sem.run_pure, Result.andThen_ok, List.map_toArray, List.map_cons, List.map_nil, hs, hx, hrun]
    exact hK _ _ (h a' c' w' h2 h3 h4)
theorem rql_take (a : List Rq) (k : Nat) : rql (a.take k) = (rql a).take (k * 4) := by
  induction k generalizing a with
  | zero => simp [rql]
  | succ k ih =>
    cases a with
    | nil => simp [rql]
    | cons x a =>
      have e : rql (x :: a) = rqc x ++ rql a := rfl
      have e2 : rql ((x :: a).take (k + 1)) = rqc x ++ rql (a.take k) := rfl
      rw [e2, e, List.take_append, ih, show (rqc x).length = 4 from rfl, show (k + 1) * 4 - 4 = k * 4 by omega, List.take_of_length_le (l := rqc x) (by show 4 ≤ _; omega)]
theorem rql_drop (a : List Rq) (k : Nat) : rql (a.drop k) = (rql a).drop (k * 4) := by
  induction k generalizing a with
  | zero => simp [rql]
  | succ k ih =>
    cases a with
    | nil => simp [rql]
    | cons x a =>
      have e : rql (x :: a) = rqc x ++ rql a := rfl
      have e2 : rql ((x :: a).drop (k + 1)) = rql (a.drop k) := rfl
      rw [e2, e, List.drop_append, ih, show (rqc x).length = 4 from rfl, show (k + 1) * 4 - 4 = k * 4 by omega, List.drop_of_length_le (show (rqc x).length ≤ (k + 1) * 4 by show 4 ≤ _; omega), List.nil_append]
theorem rql_one (a : List Rq) : ∀ u ∈ rql a, u.oneCell' = true := by
  intro u hu
  unfold rql at hu
  obtain ⟨x, _, hx⟩ := List.mem_flatMap.1 hu
  simp only [rqc, List.mem_cons, List.not_mem_nil, or_false] at hx
  rcases hx with rfl | rfl | rfl | rfl <;> rfl
end Go.Proofs.YtabmipjpgofgpaaGreatDoor
namespace Go.Proofs.YtabmipjpgofgpaaGreatDoor
open Go.RowKit
set_option linter.unusedVariables false
set_option linter.unusedSimpArgs false

/-- Each client once, under rising tokens. -/
def Dis (L : List Rq) : Prop := L.Pairwise (fun x y => x.c ≠ y.c ∧ x.t < y.t)
theorem Dis.at_ {L : List Rq} (h : Dis L) {i j : Nat} (hij : i < j) (hj : j < L.length) : L[i].c ≠ L[j].c ∧ L[i].t < L[j].t := List.pairwise_iff_getElem.1 h i j (by omega) hj hij

end Go.Proofs.YtabmipjpgofgpaaGreatDoor
namespace Go.Proofs.YtabmipjpgofgpaaGreatDoor
open Go.RowKit
set_option linter.unusedVariables false
set_option linter.unusedSimpArgs false

/-- All but the reads of client c. -/
def notC (c : Int) (L : List Rq) : List Rq := L.filter (fun x => x.c != c)
def notT (t : Int) (L : List Rq) : List Rq := L.filter (fun x => x.t != t)
def sameA (c n k : Int) (x : Rq) : Bool := x.c == c && (x.n == n && x.k == k)
def badA (c n : Int) : Prop := c < 1 ∨ 6 < c ∨ n = 0
instance (c n : Int) : Decidable (badA c n) := by unfold badA; infer_instance
/-- What Ask does: last token, those that wait; the read, the error. -/
def askF (t : Int) (L : List Rq) (c n k : Int) : Int × List Rq × Rq × Int :=
  if badA c n then (t, L, rq0, 1)
  else match L.find? (sameA c n k) with
    | some x => (t, L, x, 0)
    | none => if 16 ≤ (notC c L).length then (t, L, rq0, 9) else (t + 1, notC c L ++ [⟨t + 1, c, n, k⟩], ⟨t + 1, c, n, k⟩, 0)
def toldF (L : List Rq) (t : Int) : List Rq × Rq × Bool := (notT t L, (L.find? (fun x => x.t == t)).getD rq0, L.any (fun x => x.t == t))

theorem notC_take (c : Int) (L : List Rq) (k : Nat) (h : k < L.length) : notC c (L.take (k + 1)) = notC c (L.take k) ++ (if L[k].c = c then [] else [L[k]]) := by
  unfold notC
  rw [List.take_add_one, List.getElem?_eq_getElem h, List.filter_append]
  by_cases e : L[k].c = c <;> simp [e]
theorem notT_take (c : Int) (L : List Rq) (k : Nat) (h : k < L.length) : notT c (L.take (k + 1)) = notT c (L.take k) ++ (if L[k].t = c then [] else [L[k]]) := by
  unfold notT
  rw [List.take_add_one, List.getElem?_eq_getElem h, List.filter_append]
  by_cases e : L[k].t = c <;> simp [e]
theorem notC_len (c : Int) (L : List Rq) : (notC c L).length ≤ L.length := List.length_filter_le _ _
theorem notT_len (c : Int) (L : List Rq) : (notT c L).length ≤ L.length := List.length_filter_le _ _
def rrv (t : Int) (lv : Value) : Value := .agg #[.int .u64 t, lv]
theorem find_take {L : List Rq} {p : Rq → Bool} {k : Nat} (h : k < L.length) (hno : (L.take k).find? p = none) (hy : p L[k] = true) : L.find? p = some L[k] := by
  have e : L = L.take k ++ L[k] :: L.drop (k + 1) := by rw [List.getElem_cons_drop, List.take_append_drop]
  conv => lhs; rw [e]
  rw [List.find?_append, hno, Option.none_or]
  simp only [List.find?_cons, hy]
theorem find_succ {L : List Rq} {p : Rq → Bool} {k : Nat} (h : k < L.length) (hno : (L.take k).find? p = none) (hy : p L[k] = false) : (L.take (k + 1)).find? p = none := by
  rw [List.take_add_one, List.getElem?_eq_getElem h, List.find?_append, hno]
  simp [hy]

theorem sameA_false {c n k : Int} {z : Rq} (h : ¬ (z.n = n ∧ z.k = k)) : sameA c n k z = false := by
  unfold sameA
  by_cases h1 : z.n = n
  · have h2 : z.k ≠ k := fun e => h ⟨h1, e⟩
    simp [h2]
  · simp [h1]
theorem sameA_else {c n k : Int} {z : Rq} (h : ¬ z.c = c) : sameA c n k z = false := by simp [sameA, h]
theorem sameA_yes {c n k : Int} {z : Rq} (h1 : z.c = c) (h2 : z.n = n) (h3 : z.k = k) : sameA c n k z = true := by simp [sameA, h1, h2, h3]
/-- Six cells of two blocks, stored one by one. -/
def six22 (W : World) (X Y : Nat) (a b c d e f : Value) : World :=
  (((((W.setCell ⟨X, 0, none⟩ a).setCell ⟨X, 1, none⟩ b).setCell ⟨Y, 0, none⟩ c).setCell ⟨Y, 1, none⟩ d).setCell ⟨Y, 2, none⟩ e).setCell ⟨Y, 3, none⟩ f
theorem six22_at {W : World} {X Y : Nat} {a0 b0 c0 d0 e0 f0 : Value} {t1 t2 : TypeId} (hX : W.heap[X]? = some (.cells #[a0, b0] t1 (0, 0))) (hY : W.heap[Y]? = some (.cells #[c0, d0, e0, f0] t2 (0, 0))) (hne : X ≠ Y) (a b c d e f : Value) :
    (six22 W X Y a b c d e f).heap[X]? = some (.cells #[a, b] t1 (0, 0)) ∧ (six22 W X Y a b c d e f).heap[Y]? = some (.cells #[c, d, e, f] t2 (0, 0)) := by
  have h1 := blkV_set (blkV_set hX 0 a) 1 b
  have h2 := blkV_set_other (blkV_set_other hY 0 a hne) 1 b hne
  have g1 := blkV_set_other (blkV_set_other (blkV_set_other (blkV_set_other h1 0 c (Ne.symm hne)) 1 d (Ne.symm hne)) 2 e (Ne.symm hne)) 3 f (Ne.symm hne)
  have g2 := blkV_set (blkV_set (blkV_set (blkV_set h2 0 c) 1 d) 2 e) 3 f
  exact ⟨by simpa [six22] using g1, by simpa [six22] using g2⟩
theorem six22_kept (W : World) (X Y : Nat) (a b c d e f : Value) : Kept (fun k => k = X ∨ k = Y) W (six22 W X Y a b c d e f) := by
  have s := Kept.refl (fun k => k = X ∨ k = Y) W
  exact (((((s.setCell (p := ⟨X, 0, none⟩) (.inl (.inl rfl)) _).setCell (p := ⟨X, 1, none⟩) (.inl (.inl rfl)) _).setCell (p := ⟨Y, 0, none⟩) (.inl (.inr rfl)) _).setCell (p := ⟨Y, 1, none⟩) (.inl (.inr rfl)) _).setCell (p := ⟨Y, 2, none⟩) (.inl (.inr rfl)) _).setCell (p := ⟨Y, 3, none⟩) (.inl (.inr rfl)) _
theorem cells2q {w : World} {b : Nat} {x y : Value} {t : TypeId} (h : w.heap[b]? = some (.cells #[x, y] t (0, 0))) : w.cell? ⟨b, 0, none⟩ = some x ∧ w.cell? ⟨b, 1, none⟩ = some y ∧ w.frozen? ⟨b, 0, none⟩ = false ∧ w.frozen? ⟨b, 1, none⟩ = false :=
  ⟨cell_of_row _ _ 0 _ _ _ h, cell_of_row _ _ 1 _ _ _ h, blkV_frozen h 0, blkV_frozen h 1⟩
theorem cells4q {w : World} {b : Nat} {x y z u : Value} {t : TypeId} (h : w.heap[b]? = some (.cells #[x, y, z, u] t (0, 0))) : w.cell? ⟨b, 0, none⟩ = some x ∧ w.cell? ⟨b, 1, none⟩ = some y ∧ w.cell? ⟨b, 2, none⟩ = some z ∧ w.cell? ⟨b, 3, none⟩ = some u ∧ w.frozen? ⟨b, 0, none⟩ = false ∧ w.frozen? ⟨b, 1, none⟩ = false ∧ w.frozen? ⟨b, 2, none⟩ = false ∧ w.frozen? ⟨b, 3, none⟩ = false :=
  ⟨cell_of_row _ _ 0 _ _ _ h, cell_of_row _ _ 1 _ _ _ h, cell_of_row _ _ 2 _ _ _ h, cell_of_row _ _ 3 _ _ _ h, blkV_frozen h 0, blkV_frozen h 1, blkV_frozen h 2, blkV_frozen h 3⟩
theorem cells2qd {w : World} {b : Nat} {x y : Value} {t : TypeId} (h : w.heap[b]? = some (.cells #[x, y] t (0, 0))) : w.drew.cell? ⟨b, 0, none⟩ = some x ∧ w.drew.cell? ⟨b, 1, none⟩ = some y ∧ w.drew.frozen? ⟨b, 0, none⟩ = false ∧ w.drew.frozen? ⟨b, 1, none⟩ = false := cells2q (w := w.drew) h
theorem cells4qd {w : World} {b : Nat} {x y z u : Value} {t : TypeId} (h : w.heap[b]? = some (.cells #[x, y, z, u] t (0, 0))) : w.drew.cell? ⟨b, 0, none⟩ = some x ∧ w.drew.cell? ⟨b, 1, none⟩ = some y ∧ w.drew.cell? ⟨b, 2, none⟩ = some z ∧ w.drew.cell? ⟨b, 3, none⟩ = some u ∧ w.drew.frozen? ⟨b, 0, none⟩ = false ∧ w.drew.frozen? ⟨b, 1, none⟩ = false ∧ w.drew.frozen? ⟨b, 2, none⟩ = false ∧ w.drew.frozen? ⟨b, 3, none⟩ = false := cells4q (w := w.drew) h
theorem three22 (w : World) (A B C : Obj) : (((w.alloc A).alloc B).alloc C).heap[w.heap.size]? = some A ∧ (((w.alloc A).alloc B).alloc C).heap[w.heap.size + 1]? = some B ∧ (((w.alloc A).alloc B).alloc C).heap[w.heap.size + 1 + 1]? = some C := by
  have h0 := heap_alloc_new w A
  have h1 := heap_alloc_new (w.alloc A) B
  have h2 := heap_alloc_new ((w.alloc A).alloc B) C
  simp only [World.size_alloc] at h1 h2
  exact ⟨blkV_alloc (blkV_alloc h0 B) C, blkV_alloc h1 C, h2⟩
end Go.Proofs.YtabmipjpgofgpaaGreatDoor
namespace Go.Proofs.YtabmipjpgofgpaaGreatDoor
open Go.RowKit
set_option linter.unusedVariables false
set_option linter.unusedSimpArgs false

def tokB (k : Int) (x : Rq) : Bool := x.t == k
theorem tok_step {L : List Rq} (hd : Dis L) {i : Nat} (h : i < L.length) {k : Int} (hy : L[i].t = k) : (L.take i).find? (tokB k) = none := by
  rw [List.find?_eq_none]
  intro x hx
  obtain ⟨j, hj, rfl⟩ := List.mem_iff_getElem.1 hx
  rw [List.length_take] at hj
  have := (hd.at_ (i := j) (j := i) (by omega) h).2
  simp only [List.getElem_take, tokB]
  intro e
  have : L[j].t = k := by simpa using e
  omega
theorem any_succ {L : List Rq} {p : Rq → Bool} {k : Nat} (h : k < L.length) : (L.take (k + 1)).any p = ((L.take k).any p || p L[k]) := by
  rw [List.take_add_one, List.getElem?_eq_getElem h, List.any_append]; simp
theorem find_keep {L : List Rq} {p : Rq → Bool} {k : Nat} (h : k < L.length) (hy : p L[k] = false) : (L.take (k + 1)).find? p = (L.take k).find? p := by
  rw [List.take_add_one, List.getElem?_eq_getElem h, List.find?_append]; simp [hy]
theorem find_last {L : List Rq} {p : Rq → Bool} {k : Nat} (h : k < L.length) (hno : (L.take k).find? p = none) (hy : p L[k] = true) : (L.take (k + 1)).find? p = some L[k] := by
  rw [List.take_add_one, List.getElem?_eq_getElem h, List.find?_append, hno]; simp [hy]
theorem toldF_eq (L : List Rq) (k : Int) : toldF L k = (notT k L, (L.find? (tokB k)).getD rq0, L.any (tokB k)) := rfl
theorem four22_at {W : World} {Y : Nat} {c0 d0 e0 f0 : Value} {t2 : TypeId} (hY : W.heap[Y]? = some (.cells #[c0, d0, e0, f0] t2 (0, 0))) (c d e f : Value) :
    ((((W.setCell ⟨Y, 0, none⟩ c).setCell ⟨Y, 1, none⟩ d).setCell ⟨Y, 2, none⟩ e).setCell ⟨Y, 3, none⟩ f).heap[Y]? = some (.cells #[c, d, e, f] t2 (0, 0)) := by
  have g2 := blkV_set (blkV_set (blkV_set (blkV_set hY 0 c) 1 d) 2 e) 3 f
  simpa using g2
theorem four22_kept (W : World) (Y : Nat) (c d e f : Value) : Kept (fun k => k = Y) W ((((W.setCell ⟨Y, 0, none⟩ c).setCell ⟨Y, 1, none⟩ d).setCell ⟨Y, 2, none⟩ e).setCell ⟨Y, 3, none⟩ f) :=
  ((((Kept.refl (fun k => k = Y) W).setCell (p := ⟨Y, 0, none⟩) (.inl rfl) _).setCell (p := ⟨Y, 1, none⟩) (.inl rfl) _).setCell (p := ⟨Y, 2, none⟩) (.inl rfl) _).setCell (p := ⟨Y, 3, none⟩) (.inl rfl) _
end Go.Proofs.YtabmipjpgofgpaaGreatDoor
namespace Go.Proofs.YtabmipjpgofgpaaGreatDoor
open Go.RowKit Go.Shelf
set_option linter.unusedVariables false
set_option linter.unusedSimpArgs false

/-- A function literal, with one variable at block b that holds o, that tells p of a read. -/
def TellsR (f : FuncId) (b : Nat) (o : Obj) (p : Rq → Bool) : Prop :=
  (∀ (args : Array Value) (w : World), Sem.run Tryz.prog (callFunc f args) w = .ok (.enter f args) w) ∧
    ∀ (x : Rq) (w : World), w.heap[b]? = some o → Calls Tryz.prog f #[rqv x, .pointer (some ⟨b, 0, none⟩)] w fun e w' => e = .returned (.bool (p x)) ∧ Kept NoB w w'
theorem ask1_any (b : Nat) (c : Int) : TellsR 203 b (.cells #[.int .i64 c] 3 (0, 0)) (fun x => x.c == c) := by
  refine ⟨enters_of Tryz.func203 (by kernel_rfl) rfl, fun x w h => ?_⟩
  obtain ⟨xt, xc, xn, xk⟩ := x
  have hc : w.cell? ⟨b, 0, none⟩ = some (.int .i64 c) := cell_of_row _ _ 0 _ _ _ h
  have hb := heap_alloc_new w (.cells #[.int .u64 xt, .int .i64 xc, .int .u64 xn, .int .u32 xk] 167)
  have hk := (Kept.refl NoB w).alloc (.cells #[.int .u64 xt, .int .i64 xc, .int .u64 xn, .int .u32 xk] 167)
  obtain ⟨V, hV⟩ : ∃ V, V = w.alloc (.cells #[.int .u64 xt, .int .i64 xc, .int .u64 xn, .int .u32 xk] 167) := ⟨_, rfl⟩
  have HV := Lib.hid hV
  rw [← hV] at hb hk
  have c1 : V.cell? ⟨w.heap.size, 1, none⟩ = some (.int .i64 xc) := cell_of_row _ _ 1 _ _ _ hb
  have c2 : V.cell? ⟨b, 0, none⟩ = some (.int .i64 c) := hk.cell (p := ⟨b, 0, none⟩) (fun h => h) hc
  have HK := Lib.hid hk
  clear hV hb hk h hc
  unfold rqv
  go_enter Tryz.func203, Tryz.ntmps203
  go_upto_region 1 with fail
  rw [← HV.out]
  go_wp2
  go_ret
  exact ⟨rfl, HK.out⟩
theorem told1_any (b : Nat) (c : Int) : TellsR 206 b (.cells #[.int .u64 c] 23 (0, 0)) (tokB c) := by
  refine ⟨enters_of Tryz.func206 (by kernel_rfl) rfl, fun x w h => ?_⟩
  obtain ⟨xt, xc, xn, xk⟩ := x
  have hc : w.cell? ⟨b, 0, none⟩ = some (.int .u64 c) := cell_of_row _ _ 0 _ _ _ h
  have hb := heap_alloc_new w (.cells #[.int .u64 xt, .int .i64 xc, .int .u64 xn, .int .u32 xk] 167)
  have hk := (Kept.refl NoB w).alloc (.cells #[.int .u64 xt, .int .i64 xc, .int .u64 xn, .int .u32 xk] 167)
  obtain ⟨V, hV⟩ : ∃ V, V = w.alloc (.cells #[.int .u64 xt, .int .i64 xc, .int .u64 xn, .int .u32 xk] 167) := ⟨_, rfl⟩
  have HV := Lib.hid hV
  rw [← hV] at hb hk
  have c1 : V.cell? ⟨w.heap.size, 0, none⟩ = some (.int .u64 xt) := cell_of_row _ _ 0 _ _ _ hb
  have c2 : V.cell? ⟨b, 0, none⟩ = some (.int .u64 c) := hk.cell (p := ⟨b, 0, none⟩) (fun h => h) hc
  have HK := Lib.hid hk
  clear hV hb hk h hc
  unfold rqv
  go_enter Tryz.func206, Tryz.ntmps206
  go_upto_region 1 with fail
  rw [← HV.out]
  go_wp2
  go_ret
  exact ⟨rfl, HK.out⟩
def IdxP (w : World) (p : Rq → Bool) (L : List Rq) (e : Ending) (w' : World) : Prop :=
  ∃ r : Int, e = .returned (.int .i64 r) ∧ Kept NoB w w' ∧ ((r = -1 ∧ L.any p = false) ∨ ∃ k : Nat, ∃ h : k < L.length, r = k ∧ (L.take k).any p = false ∧ p L[k] = true)
set_option maxRecDepth 100000 in
theorem IndexR_any (v : Value) (L : List Rq) (f : FuncId) (b : Nat) (ob : Obj) (p : Rq → Bool) (B : Nat) (w : World) (h : RqOw 167 B w v L) (hb : w.heap[b]? = some ob) (hp : TellsR f b ob p) (hl : L.length ≤ 1000) :
    Calls Tryz.prog 204 #[v, .func (.func f) #[] #[.pointer (some ⟨b, 0, none⟩)]] w (IdxP w p L) := by
  obtain ⟨a, c, rfl⟩ := h.form
  obtain ⟨m, hm⟩ : ∃ m, m = L.length := ⟨_, rfl⟩
  rw [← hm] at h ⊢
  have HM := Lib.hid hm
  have H := Lib.hid h
  have HB := Lib.hid hb
  have HP := Lib.hid hp.2
  have hent : ∀ (args : Array Value) (w : World), Sem.run Tryz.prog (callFunc f args) w = .ok (.enter f args) w := hp.1
  have hml : m ≤ 1000 := by rw [hm]; exact hl
  clear h hp hb hm
  go_enter Tryz.func204, Tryz.ntmps204
  go_wp2
  go_loopw [8] (fun i wr => ∃ k : Nat, i = .int .i64 k ∧ k ≤ m ∧ (L.take k).any p = false ∧ Kept NoB w wr) (fun i _ => m - (intOf i).toNat)
  case atStart => exact ⟨0, rfl, Nat.zero_le _, by simp, Kept.refl _ _⟩
  case round =>
    obtain ⟨k, rfl, hk, hno, hkk⟩ := hrel
    have HN := Lib.hid hno
    have HK := Lib.hid hkk
    clear hno hkk
    by_cases hlt : k < m
    · have hkL : k < L.length := by rw [← HM.out]; exact hlt
      obtain ⟨r, d, he, hd, hr, e0, e1, e2, e3⟩ := (H.out.no HK.out).cells k hkL
      injection he with he1 he2 he3
      clear he2
      subst he1 he3
      obtain ⟨y, hy⟩ : ∃ y, y = L[k] := ⟨_, rfl⟩
      have HY := Lib.hid hy
      rw [← hy] at e0 e1 e2 e3
      have HC := Lib.hid (HP.out y wr (HK.out.heap (fun h => h) HB.out))
      obtain ⟨q, hq⟩ : ∃ q, q = p y := ⟨_, rfl⟩
      rw [← hq] at HC
      have HQ := Lib.hid hq
      obtain ⟨yt, yc, yn, yk⟩ := y
      simp only [rqv] at e0 e1 e2 e3 HC
      have hk1 : (k : Int) < (m : Int) := by omega
      clear hy hq
      cases q with
      | true =>
        go_wp2_with fail
        refine HC.out.mono ?_
        rintro e w2 ⟨rfl, hk2⟩
        have HK2 := Lib.hid (HK.out.trans hk2 (fun _ _ h => h))
        clear hk2
        go_wp2
        go_ret
        exact ⟨_, rfl, HK2.out, .inr ⟨k, hkL, rfl, HN.out, by rw [← HY.out]; exact HQ.out.symm⟩⟩
      | false =>
        have HPY : Hid ((L.take (k + 1)).any p = false) := Lib.hid (by rw [any_succ hkL, HN.out, ← HY.out, ← HQ.out]; rfl)
        go_wp2_with fail
        refine HC.out.mono ?_
        rintro e w2 ⟨rfl, hk2⟩
        have HK2 := Lib.hid (HK.out.trans hk2 (fun _ _ h => h))
        clear hk2
        go_wp2
        exact ⟨⟨k + 1, by go_num, by omega, HPY.out, HK2.out⟩, by simp [intOf]; omega⟩
    · obtain rfl : k = m := by omega
      go_wp2
      go_ret
      exact ⟨_, rfl, HK.out, .inl ⟨rfl, by have := HN.out; rwa [HM.out, List.take_length] at this⟩⟩
end Go.Proofs.YtabmipjpgofgpaaGreatDoor
namespace Go.Proofs.YtabmipjpgofgpaaGreatDoor
open Go.RowKit
set_option linter.unusedVariables false
set_option linter.unusedSimpArgs false

def keepR (p : Rq → Bool) (L : List Rq) : List Rq := L.filter (fun x => !p x)
theorem keepR_take (p : Rq → Bool) (L : List Rq) (k : Nat) (h : k < L.length) : keepR p (L.take (k + 1)) = keepR p (L.take k) ++ (if p L[k] = true then [] else [L[k]]) := by
  unfold keepR
  rw [List.take_add_one, List.getElem?_eq_getElem h, List.filter_append]
  by_cases e : p L[k] = true
  · simp [e]
  · have e : p L[k] = false := by simpa using e
    simp [e]
theorem keepR_none {p : Rq → Bool} {L : List Rq} (h : L.any p = false) : keepR p L = L := by
  unfold keepR
  rw [List.filter_eq_self]
  intro x hx
  have := List.any_eq_false.1 h x hx
  simpa using this
theorem keepR_len (p : Rq → Bool) (L : List Rq) : (keepR p L).length ≤ L.length := List.length_filter_le _ _
theorem zero_rq (w : World) : (zeroValue 167).run Tryz.prog w = .ok (.agg #[.int .u64 0, .int .i64 0, .int .u64 0, .int .u32 0]) w := by kernel_rfl
/-- What clear writes. -/
def zer4 (n : Nat) : List Value := (Builtin.zeroCells #[.int .u64 0, .int .i64 0, .int .u64 0, .int .u32 0] n).toList
theorem zer4_len (n : Nat) : (zer4 n).length = n * 4 := by unfold zer4; rw [Array.length_toList, size_zeroCells]; rfl
theorem zer4_one (n : Nat) : ∀ v ∈ zer4 n, v.oneCell' = true := by
  intro v hv
  unfold zer4 Builtin.zeroCells at hv
  rw [Array.mem_toList_iff, Array.mem_map] at hv
  obtain ⟨i, _, rfl⟩ := hv
  have h3 : i % 4 < 4 := Nat.mod_lt _ (by decide)
  show ((#[Value.int .u64 0, .int .i64 0, .int .u64 0, .int .u32 0] : Array Value)[i % 4]!).oneCell' = true
  match i % 4, h3 with
  | 0, _ | 1, _ | 2, _ | 3, _ => rfl
theorem run_clear22 (w : World) (ty : TypeId) (b o n c : Nat) (hn : 0 < n) (hc : ∀ j, j < n * 4 → (w.cell? ⟨b, o + j, none⟩).isSome = true) (hf : ∀ j, j < n * 4 → w.frozen? ⟨b, o + j, none⟩ = false) :
    (Builtin.clear_ #[91] ty #[.slice (some ⟨b, o, none⟩) n c]).run Tryz.prog w = .ok (.tuple #[]) (w.setCells b o (zer4 n)) := by
  have hst := run_storeCells_cells (P := Tryz.prog) b o (zer4 n) 0 w (by rw [zer4_len]; simpa using hc) (by rw [zer4_len]; simpa using hf) (zer4_one n)
  simp only [Nat.add_zero] at hst
  unfold zer4 at hst ⊢
  obtain ⟨m, rfl⟩ : ∃ m, n = m + 1 := ⟨n - 1, by omega⟩
  have hz : ∀ w, (zeroValue 167).run Tryz.prog w = .ok (.agg #[.int .u64 0, .int .i64 0, .int .u64 0, .int .u32 0]) w := zero_rq
  simp [Builtin.clear_, run_underlying Tryz.underlying91, hz, Value.cells, hst]
/-- Where the loop stands: jj reads have been looked at. -/
def DfR (r c : Nat) (p : Rq → Bool) (L : List Rq) (w wr : World) (jj : Nat) : Prop :=
  ∃ cur : Array Value, wr.heap[r]? = some (.cells cur 167 (0, 0)) ∧ cur.size = c * 4 ∧ cur.toList.take ((keepR p (L.take jj)).length * 4) = rql (keepR p (L.take jj)) ∧ (∀ m (h : m < L.length), jj ≤ m → ∀ i, i < 4 → cur[m * 4 + i]? = (rqc L[m])[i]?) ∧ Kept (fun k => k = r) w wr
theorem DfR.keep {r c : Nat} {p : Rq → Bool} {L : List Rq} {w wr w2 : World} {jj : Nat} (h : DfR r c p L w wr jj) (hk : Kept NoB wr w2) : DfR r c p L w w2 jj := by
  obtain ⟨cur, h1, h2, h3, h4, h5⟩ := h
  exact ⟨cur, hk.heap (fun h => h) h1, h2, h3, h4, h5.trans hk (fun _ _ h => h.elim)⟩
theorem DfR.skip {r c : Nat} {p : Rq → Bool} {L : List Rq} {w wr : World} {jj : Nat} (h : DfR r c p L w wr jj) (hj : jj < L.length) (hm : p L[jj] = true) : DfR r c p L w wr (jj + 1) ∧ (keepR p (L.take (jj + 1))).length = (keepR p (L.take jj)).length := by
  obtain ⟨cur, h1, h2, h3, h4, h5⟩ := h
  have e : keepR p (L.take (jj + 1)) = keepR p (L.take jj) := by rw [keepR_take p L jj hj, if_pos hm, List.append_nil]
  exact ⟨⟨cur, h1, h2, by rw [e]; exact h3, fun m hm1 hm2 => h4 m hm1 (by omega), h5⟩, by rw [e]⟩
theorem take_mid {α : Type} {A B C : List α} {n k : Nat} (hA : A.length = n) (hB : B.length = k) : (A ++ (B ++ C)).take (n + k) = A ++ B := by
  subst hA hB
  rw [← List.append_assoc, List.take_append_of_le_length (by simp), List.take_of_length_le (by simp)]
theorem DfR.put {r c i : Nat} {p : Rq → Bool} {L : List Rq} {w wr : World} {jj : Nat} (h : DfR r c p L w wr jj) (hj : jj < L.length) (hm : p L[jj] = false) (hi : i = (keepR p (L.take jj)).length) (hij : i < jj) (hlc : L.length ≤ c) :
    DfR r c p L w (wr.setCells r (i * 4) (rqc L[jj])) (jj + 1) ∧ (keepR p (L.take (jj + 1))).length = i + 1 := by
  obtain ⟨cur, h1, h2, h3, h4, h5⟩ := h
  have e : keepR p (L.take (jj + 1)) = keepR p (L.take jj) ++ [L[jj]] := by rw [keepR_take p L jj hj, if_neg (by simp [hm])]
  have e2 : (keepR p (L.take (jj + 1))).length = i + 1 := by rw [e, List.length_append, ← hi]; rfl
  have hl4 : (rqc L[jj]).length = 4 := rfl
  obtain ⟨cur', g1, g2, g3⟩ := heap_puts15 (rqc L[jj]) (i * 4) wr cur h1 (by rw [hl4, h2]; omega)
  have hcl : cur.toList.length = c * 4 := by rw [Array.length_toList, h2]
  refine ⟨⟨cur', g1, by rw [g2, h2], ?_, fun m hm1 hm2 q hq => ?_, kept_puts15 (S := fun k => k = r) (.inl (Eq.refl r)) _ _ _ h5⟩, e2⟩
  · rw [e2, e, rql_app, ← h3, ← hi, g3, List.append_assoc, show (i + 1) * 4 = i * 4 + 4 by omega, take_mid (by rw [List.length_take, hcl]; omega) hl4]
    simp [rql]
  · rw [← Array.getElem?_toList, g3, List.append_assoc, List.getElem?_append_right (by rw [List.length_take]; omega), List.getElem?_append_right (by rw [List.length_take, hl4]; omega), List.getElem?_drop, List.length_take, hcl, Nat.min_eq_left (by omega), hl4, show i * 4 + 4 + (m * 4 + q - i * 4 - 4) = m * 4 + q by omega, Array.getElem?_toList]
    exact h4 m hm1 (by omega) q hq
def DfPR (B : Nat) (a : Option Addr) (c : Nat) (p : Rq → Bool) (L : List Rq) (w : World) (e : Ending) (w' : World) : Prop :=
  e = .returned (.slice a (keepR p L).length c) ∧ RqOw 167 B w' (.slice a (keepR p L).length c) (keepR p L) ∧ Kept (fun k => some k = (Value.slice a L.length c).ownBlock) w w'
set_option maxRecDepth 100000 in
set_option maxHeartbeats 2000000 in
theorem DeleteR_any (a : Option Addr) (c : Nat) (L : List Rq) (f : FuncId) (b : Nat) (bs : Array Value) (bt : TypeId) (p : Rq → Bool) (B : Nat) (w : World) (h : RqOw 167 B w (.slice a L.length c) L) (hb : w.heap[b]? = some (.cells bs bt (0, 0))) (hbt : bt ≠ 167) (hp : TellsR f b (.cells bs bt (0, 0)) p) (hl : L.length ≤ 1000) :
    Calls Tryz.prog 205 #[.slice a L.length c, .func (.func f) #[] #[.pointer (some ⟨b, 0, none⟩)]] w (DfPR B a c p L w) := by
  have HX := Lib.hid (IndexR_any _ L f b _ p B w h hb hp hl)
  have HO := Lib.hid h
  have HB := Lib.hid hb
  have HP := Lib.hid hp.2
  have hent : ∀ (args : Array Value) (w : World), Sem.run Tryz.prog (callFunc f args) w = .ok (.enter f args) w := hp.1
  obtain ⟨m, hm⟩ : ∃ m, m = L.length := ⟨_, rfl⟩
  have HM := Lib.hid hm
  have hml : m ≤ 1000 := by rw [hm]; exact hl
  rw [← hm] at HX HO ⊢
  clear h hb hp hm
  go_enter Tryz.func205, Tryz.ntmps205
  go_wp2_with fail
  refine HX.out.mono ?_
  rintro e w1 ⟨r0, rfl, hk1, (⟨rfl, hnone⟩ | ⟨k, hk, rfl, hno, hyes⟩)⟩
  · have HK1 := Lib.hid hk1
    have HS := Lib.hid (keepR_none hnone)
    clear hk1 hnone
    go_wp2
    go_ret
    unfold DfPR
    rw [HS.out, ← HM.out]
    exact ⟨rfl, HO.out.no HK1.out, HK1.out.mono (fun _ _ h => h.elim)⟩
  · obtain ⟨r, cap, cur, hv, hBr, hcur, hlc, hcm, hcs, hct⟩ : ∃ r cap cur, Value.slice a m c = .slice (some ⟨r, 0, none⟩) m cap ∧ B ≤ r ∧ w.heap[r]? = some (.cells cur 167 (0, 0)) ∧ m ≤ cap ∧ cap ≤ maxLen ∧ cur.size = cap * 4 ∧ cur.toList.take (m * 4) = rql L := by
      rcases HO.out.2 with ⟨hv, h0⟩ | ⟨r, cap, cur, hv, hB, hr, h1, h2, h3, h4⟩
      · have := HM.out; omega
      · rw [← HM.out] at hv h1 h4; exact ⟨r, cap, cur, hv, hB, hr, h1, h2, h3, h4⟩
    injection hv with hv1 hv2 hv3
    clear hv2
    subst hv1 hv3
    unfold maxLen at hcm
    have hbr : b ≠ r := by rintro rfl; have := HB.out; rw [hcur] at this; injection this with this; injection this with _ this; exact hbt this.symm
    have hkm : k < m := by rw [HM.out]; exact hk
    have hst : keepR p (L.take (k + 1)) = L.take k := by rw [keepR_take p L k hk, if_pos hyes, List.append_nil]; exact keepR_none hno
    have hcell : ∀ j, j < m * 4 → cur[j]? = (rql L)[j]? := by intro j hj; rw [← hct, List.getElem?_take, if_pos hj, Array.getElem?_toList]
    have hd0 : DfR r c p L w w1 (k + 1) := by
      refine ⟨cur, hk1.heap (fun h => h) hcur, hcs, ?_, fun q hq1 hq2 i hi => ?_, hk1.mono (fun _ _ h => h.elim)⟩
      · rw [hst, rql_take, List.length_take, Nat.min_eq_left (by omega), ← hct, List.take_take, Nat.min_eq_left (by omega)]
      · rw [hcell _ (by have := HM.out; omega), rql_at L q i hq1 hi]
    have hlen0 : (keepR p (L.take (k + 1))).length = k := by rw [hst, List.length_take]; omega
    have HD0 := Lib.hid hd0
    have HL0 := Lib.hid hlen0
    have HB1 := Lib.hid (hk1.heap (fun h => h) HB.out)
    have hkm2 : ((k : Int) == -1) = false := by simp <;> omega
    clear hcell hcur hcs hct hst hd0 hlen0 hno hyes hk1
    go_wp2
    go_loopw [5, 6] (fun i j wr => ∃ ii jj : Nat, i = .int .i64 ii ∧ j = .int .i64 jj ∧ ii = (keepR p (L.take jj)).length ∧ ii < jj ∧ jj ≤ m ∧ DfR r c p L w wr jj ∧ wr.heap[b]? = some (.cells bs bt (0, 0))) (fun _ j _ => m - (intOf j).toNat)
    case atStart => exact ⟨k, k + 1, rfl, by go_num, HL0.out.symm, by omega, by omega, HD0.out, HB1.out⟩
    case round =>
      obtain ⟨ii, jj, rfl, rfl, hii, hlt, hjl, hdi, hgb⟩ := hrel
      have HII := Lib.hid hii
      have HDI := Lib.hid hdi
      have HGB := Lib.hid hgb
      obtain ⟨cur, hcur, hcs, _, hce, _⟩ := hdi
      clear hii hgb
      by_cases hj : jj < m
      · have hjL : jj < L.length := by rw [← HM.out]; exact hj
        have c0 := hce jj hjL (Nat.le_refl _) 0 (by omega)
        have c1 := hce jj hjL (Nat.le_refl _) 1 (by omega)
        have c2 := hce jj hjL (Nat.le_refl _) 2 (by omega)
        have c3 := hce jj hjL (Nat.le_refl _) 3 (by omega)
        obtain ⟨y, hy⟩ : ∃ y, y = L[jj] := ⟨_, rfl⟩
        have HY := Lib.hid hy
        rw [← hy] at c0 c1 c2 c3
        have HPY := Lib.hid (fun W (h : W.heap[b]? = some (.cells bs bt (0, 0))) => HP.out y W h)
        obtain ⟨q, hq⟩ : ∃ q, q = p y := ⟨_, rfl⟩
        rw [← hq] at HPY
        have HQ := Lib.hid hq
        obtain ⟨yt, yc, yn, yk⟩ := y
        simp only [rqv] at HPY
        have e0 : wr.cell? ⟨r, jj * 4, none⟩ = some (.int .u64 yt) := (cell_of_row wr r (jj * 4) _ _ _ hcur).trans c0
        have e1 : wr.cell? ⟨r, jj * 4 + 1, none⟩ = some (.int .i64 yc) := (cell_of_row wr r (jj * 4 + 1) _ _ _ hcur).trans c1
        have e2 : wr.cell? ⟨r, jj * 4 + 2, none⟩ = some (.int .u64 yn) := (cell_of_row wr r (jj * 4 + 2) _ _ _ hcur).trans c2
        have e3 : wr.cell? ⟨r, jj * 4 + 3, none⟩ = some (.int .u32 yk) := (cell_of_row wr r (jj * 4 + 3) _ _ _ hcur).trans c3
        have hj1 : (jj : Int) < (m : Int) := by omega
        have hb0 := heap_alloc_new wr (.cells #[.int .u64 yt, .int .i64 yc, .int .u64 yn, .int .u32 yk] 167)
        have hkU := (Kept.refl NoB wr).alloc (.cells #[.int .u64 yt, .int .i64 yc, .int .u64 yn, .int .u32 yk] 167)
        have HC := Lib.hid (HPY.out _ (hkU.heap (fun h => h) HGB.out))
        have HB0 := Lib.hid hb0
        have hrlt : r < wr.heap.size := heap_lt hcur
        clear hcur hcs hce c0 c1 c2 c3 hy hb0 hq
        go_upto_region 8 with fail
        obtain ⟨U, hU⟩ : ∃ U, U = wr.alloc (.cells #[.int .u64 yt, .int .i64 yc, .int .u64 yn, .int .u32 yk] 167) := ⟨_, rfl⟩
        rw [← hU] at HC HB0 hkU ⊢
        have HKU := Lib.hid hkU
        obtain ⟨v0, v1, v2, v3, _⟩ := cells4q HB0.out
        clear hU hkU e0 e1 e2 e3
        have hnot : ∀ (x : Bool) (w : World), (Op.unary .not (.bool x)).run Tryz.prog w = .ok (.bool (!x)) w := fun _ _ => rfl
        obtain ⟨bx, hbx⟩ : ∃ bx, bx = wr.heap.size := ⟨_, rfl⟩
        rw [← hbx] at v0 v1 v2 v3 HB0 ⊢
        have hrb : ¬ r = bx := by omega
        have hbr2 : ¬ bx = r := by omega
        clear hbx
        cases q with
        | true =>
          have HMM := Lib.hid ((HDI.out.keep HKU.out).skip hjL (by rw [← HY.out]; exact HQ.out.symm))
          go_wp2_with fail
          refine HC.out.mono ?_
          rintro e w2 ⟨rfl, hk2⟩
          have HD2 := Lib.hid (HMM.out.1.keep hk2)
          have HG2 := Lib.hid (hk2.heap (fun h => h) (HKU.out.heap (fun h => h) HGB.out))
          clear hk2
          go_wp2
          exact ⟨⟨ii, jj + 1, rfl, by go_num, by rw [HMM.out.2]; exact HII.out, by omega, by omega, HD2.out, HG2.out⟩, by simp [intOf]; omega⟩
        | false =>
          go_wp2_with fail
          refine HC.out.mono ?_
          rintro e w2 ⟨rfl, hk2⟩
          have HD2 := Lib.hid ((HDI.out.keep HKU.out).keep hk2)
          have hp := HD2.out.put hjL (by rw [← HY.out]; exact HQ.out.symm) HII.out hlt (by rw [← HM.out]; exact hlc)
          rw [← HY.out] at hp
          have HP2 := Lib.hid hp
          obtain ⟨cur2, hcur2, hcs2, _⟩ := HD2.out
          have HG2 := Lib.hid ((kept_puts15 (S := fun k => k = r) (g := r) (.inl (Eq.refl r)) (rqc ⟨yt, yc, yn, yk⟩) (ii * 4) w2 (Kept.refl _ _)).heap hbr (hk2.heap (fun h => h) (HKU.out.heap (fun h => h) HGB.out)))
          obtain ⟨v0, v1, v2, v3, _⟩ := cells4q (hk2.heap (fun h => h) HB0.out)
          have i0 : (ii : Int) < (m : Int) := by omega
          have hi4 : ii * 4 + 3 < cur2.size := by rw [hcs2]; omega
          obtain ⟨u0, hu0⟩ : ∃ u, w2.cell? ⟨r, ii * 4, none⟩ = some u := ⟨_, (cell_of_row w2 r (ii * 4) _ _ _ hcur2).trans (Array.getElem?_eq_getElem (by omega))⟩
          obtain ⟨u1, hu1⟩ : ∃ u, w2.cell? ⟨r, ii * 4 + 1, none⟩ = some u := ⟨_, (cell_of_row w2 r (ii * 4 + 1) _ _ _ hcur2).trans (Array.getElem?_eq_getElem (by omega))⟩
          obtain ⟨u2, hu2⟩ : ∃ u, w2.cell? ⟨r, ii * 4 + 2, none⟩ = some u := ⟨_, (cell_of_row w2 r (ii * 4 + 2) _ _ _ hcur2).trans (Array.getElem?_eq_getElem (by omega))⟩
          obtain ⟨u3, hu3⟩ : ∃ u, w2.cell? ⟨r, ii * 4 + 3, none⟩ = some u := ⟨_, (cell_of_row w2 r (ii * 4 + 3) _ _ _ hcur2).trans (Array.getElem?_eq_getElem (by omega))⟩
          have z0 : w2.frozen? ⟨r, ii * 4, none⟩ = false := blkV_frozen hcur2 _
          have z1 : w2.frozen? ⟨r, ii * 4 + 1, none⟩ = false := blkV_frozen hcur2 _
          have z2 : w2.frozen? ⟨r, ii * 4 + 2, none⟩ = false := blkV_frozen hcur2 _
          have z3 : w2.frozen? ⟨r, ii * 4 + 3, none⟩ = false := blkV_frozen hcur2 _
          clear hk2 hp hcur2 hcs2 hi4
          go_wp2
          exact ⟨⟨ii + 1, jj + 1, by go_num, by go_num, HP2.out.2.symm, by omega, by omega, HP2.out.1, HG2.out⟩, by simp [intOf]; omega⟩
      · obtain rfl : jj = m := by omega
        have hLt : L.take jj = L := by rw [HM.out, List.take_length]
        have hlen : (keepR p L).length = ii := by have := HII.out; rw [hLt] at this; exact this.symm
        have hclr := run_clear22 wr
        have hclr2 : ∀ ty, (Builtin.clear_ #[91] ty #[.slice (some ⟨r, ii * 4, none⟩) (jj - ii) (c - ii)]).run Tryz.prog wr = .ok (.tuple #[]) (wr.setCells r (ii * 4) (zer4 (jj - ii))) := fun ty => run_clear22 wr ty r (ii * 4) (jj - ii) (c - ii) (by omega) (fun j hj => by rw [cell_of_row wr r (ii * 4 + j) _ _ _ hcur, Array.getElem?_eq_getElem (by omega)]; rfl) (fun j _ => blkV_frozen hcur _)
        have HLEN := Lib.hid hlen
        have HLT := Lib.hid hLt
        have HCUR := Lib.hid hcur
        have HCS := Lib.hid hcs
        have i0 : (ii : Int) ≤ (jj : Int) := by omega
        have i1 : (ii : Int) ≤ (c : Int) := by omega
        have i2 : ¬ (c = ii) := by omega
        clear hce hlen hcur hcs hclr hLt
        go_wp2
        go_ret
        obtain ⟨cur', h1, h2, h3, _, h5⟩ := HDI.out
        have hlen := HLEN.out
        rw [HLT.out, hlen] at h3
        obtain ⟨cur3, k1, k2, k3⟩ := heap_puts15 (zer4 (jj - ii)) (ii * 4) wr cur' h1 (by rw [zer4_len]; omega)
        unfold DfPR
        rw [hlen]
        refine ⟨rfl, ⟨by rw [rql_len], .inr ⟨r, c, cur3, by rw [hlen], hBr, k1, by rw [hlen]; omega, by unfold maxLen; omega, by omega, ?_⟩⟩, ?_⟩
        · have hcl : cur'.toList.length = c * 4 := by simpa using h2
          rw [hlen, k3, List.append_assoc, List.take_append_of_le_length (by rw [List.length_take]; omega), List.take_of_length_le (by rw [List.length_take]; omega)]
          exact h3
        · exact (kept_puts15 (S := fun k => k = r) (.inl (Eq.refl r)) _ _ _ h5).mono (fun i _ h => by have h : i = r := h; rw [h]; rfl)
end Go.Proofs.YtabmipjpgofgpaaGreatDoor
namespace Go.Proofs.YtabmipjpgofgpaaGreatDoor
open Go.RowKit
set_option linter.unusedVariables false
set_option linter.unusedSimpArgs false

theorem RqOw.row {e : TypeId} {B : Nat} {w : World} {a : Option Addr} {m c : Nat} {L : List Rq} (h : RqOw e B w (.slice a m c) L) (hm : m = L.length) (hp : 0 < m) :
    ∃ r cur, a = some ⟨r, 0, none⟩ ∧ B ≤ r ∧ w.heap[r]? = some (.cells cur e (0, 0)) ∧ m ≤ c ∧ c ≤ maxLen ∧ cur.size = c * 4 ∧ cur.toList.take (m * 4) = rql L := by
  subst hm
  rcases h.2 with ⟨hv, h0⟩ | ⟨r, cap, cur, hv, hB, hr, h1, h2, h3, h4⟩
  · omega
  · injection hv with hv1 hv2 hv3
    subst hv1 hv3
    exact ⟨r, cur, rfl, hB, hr, h1, h2, h3, h4⟩
set_option maxRecDepth 100000 in
set_option maxHeartbeats 1000000 in
theorem DelR_any (w : World) (r c k m : Nat) (L : List Rq) (B : Nat) (hown : RqOw 167 B w (.slice (some ⟨r, 0, none⟩) m c) L) (hm : m = L.length) (hk : k < m) (hl : m ≤ 1000) :
    Calls Tryz.prog 207 #[.slice (some ⟨r, 0, none⟩) m c, .int .i64 k, .int .i64 ((k : Int) + 1)] w fun e w' =>
      e = .returned (.slice (some ⟨r, 0, none⟩) (m - 1) c) ∧ RqOw 167 B w' (.slice (some ⟨r, 0, none⟩) (m - 1) c) (L.take k ++ L.drop (k + 1)) ∧ Kept (fun i => i = r) w w' := by
  obtain ⟨i0, hi0, hz0, hz1, hz2⟩ := info_parts info_rq22
  obtain ⟨r', cur, hre, hBr, hr, hnc, hcm, hcs, htk⟩ := hown.row hm (by omega)
  injection hre with hre
  injection hre with hre _ _
  subst hre
  obtain ⟨news, hnews⟩ : ∃ news, news = rql (L.drop (k + 1)) := ⟨_, rfl⟩
  have hlen : news.length = (m - (k + 1)) * 4 := by rw [hnews, rql_len, List.length_drop, hm]
  have hcell : ∀ j, j < m * 4 → w.cell? ⟨r, j, none⟩ = (rql L)[j]? := by
    intro j hj
    rw [cell_of_row _ _ _ _ _ _ hr, ← htk, List.getElem?_take, if_pos hj, Array.getElem?_toList]
  obtain ⟨A, hA, hsrc⟩ : ∃ A : Addr, (if c = k + 1 then some (⟨r, 0, none⟩ : Addr) else some ⟨r, (k + 1) * 4, none⟩) = some A ∧ Hid (∀ t u, news[t]? = some u → w.drew.cell? (A.add t) = some u) := by
    by_cases h : c = k + 1
    · refine ⟨⟨r, 0, none⟩, by simp [h], Lib.hid (fun t u hu => ?_)⟩
      have h0 : news.length = 0 := by rw [hlen]; omega
      rw [List.length_eq_zero_iff.1 h0] at hu
      simp at hu
    · refine ⟨⟨r, (k + 1) * 4, none⟩, by simp [h], Lib.hid (fun t u hu => ?_)⟩
      have ht : t < (m - (k + 1)) * 4 := by
        have := (List.getElem?_eq_some_iff.1 hu).1
        rwa [hlen] at this
      rw [addr_add15]
      show w.cell? _ = _
      rw [hcell _ (by omega)]
      rw [hnews, rql_drop, List.getElem?_drop] at hu
      exact hu
  have s1 : Hid (news.length = (m - (k + 1)) * 4) := Lib.hid hlen
  have s2 : Hid (∀ u ∈ news, u.oneCell' = true) := Lib.hid (by rw [hnews]; exact rql_one _)
  have s3 : Hid (∀ t, t < news.length → (w.drew.cell? ⟨r, 0 + k * 4 + t, none⟩).isSome = true ∧ w.drew.frozen? ⟨r, 0 + k * 4 + t, none⟩ = false) := Lib.hid (by
    intro t ht
    rw [hlen] at ht
    refine ⟨?_, blkV_frozen (w := w) hr _⟩
    show (w.cell? _).isSome = true
    rw [cell_of_row _ _ _ _ _ _ hr, Array.getElem?_eq_getElem (by omega)]
    rfl)
  obtain ⟨W1, hW1⟩ : ∃ W1, W1 = w.drew.setCells r (0 + k * 4) news := ⟨_, rfl⟩
  obtain ⟨cur1, h1, h2, h3⟩ := heap_puts15 (g := r) news (0 + k * 4) w.drew cur hr (by rw [hlen]; omega)
  have hW1h : W1.heap[r]? = some (.cells cur1 167 (0, 0)) := by rw [hW1]; exact h1
  have hcl : ∀ ty, (Builtin.clear_ #[91] ty #[.slice (some ⟨r, (m - 1) * 4, none⟩) (m - (m - 1)) (c - (m - 1))]).run Tryz.prog W1 = .ok (.tuple #[]) (W1.setCells r ((m - 1) * 4) (zer4 (m - (m - 1)))) :=
    fun ty => run_clear22 W1 ty r _ _ _ (by omega) (fun j hj => by rw [cell_of_row _ _ _ _ _ _ hW1h, Array.getElem?_eq_getElem (by omega)]; rfl) (fun j hj => blkV_frozen hW1h _)
  obtain ⟨cur2, g1, g2, g3⟩ := heap_puts15 (g := r) (zer4 (m - (m - 1))) ((m - 1) * 4) W1 cur1 hW1h (by rw [zer4_len]; omega)
  have HFIN : Hid (RqOw 167 B (W1.setCells r ((m - 1) * 4) (zer4 (m - (m - 1)))) (.slice (some ⟨r, 0, none⟩) (m - 1) c) (L.take k ++ L.drop (k + 1))) := Lib.hid (by
    have hdl : (L.take k ++ L.drop (k + 1)).length = m - 1 := by rw [List.length_append, List.length_take, List.length_drop]; omega
    refine ⟨by rw [rql_len], .inr ⟨r, c, cur2, by rw [hdl], hBr, g1, by rw [hdl]; omega, hcm, by omega, ?_⟩⟩
    have hc0 : cur.toList.length = c * 4 := by rw [Array.length_toList, hcs]
    have hc1 : cur1.toList.length = c * 4 := by rw [Array.length_toList, h2, hcs]
    rw [hdl, g3, List.append_assoc, List.take_append_of_le_length (by rw [List.length_take, hc1]; omega), List.take_of_length_le (by rw [List.length_take]; omega), h3, Nat.zero_add]
    rw [List.append_assoc, show (m - 1) * 4 = k * 4 + (m - (k + 1)) * 4 by omega, take_mid (by rw [List.length_take, hc0]; omega) hlen, hnews, rql_app, rql_take, ← htk, List.take_take, Nat.min_eq_left (by omega)])
  have HKF : Hid (Kept (fun i => i = r) w (W1.setCells r ((m - 1) * 4) (zer4 (m - (m - 1))))) := Lib.hid (by
    refine kept_puts15 (S := fun i => i = r) (.inl (by show r = r; rfl)) _ _ _ ?_
    rw [hW1]
    exact kept_puts15 (S := fun i => i = r) (.inl (by show r = r; rfl)) _ _ _ (Kept.refl _ w).drew)
  have hW : Hid (W1 = w.drew.setCells r (0 + k * 4) news) := Lib.hid hW1
  have hm2 : c ≤ 9223372036854775807 := by unfold maxLen at hcm; exact hcm
  have kz : ((k : Int) == (k : Int) + 1) = false := by rw [beq_eq_false_iff_ne]; omega
  have hk1 : (k : Int) + 1 ≤ (m : Int) := by omega
  have hk2 : (m : Int) ≤ (c : Int) := by omega
  have hkp : (0 : Int) ≤ (k : Int) + 1 := by omega
  have hk3 : k + 1 ≤ m := by omega
  have hk4 : k ≤ c := by omega
  have hk5 : (k : Int) ≤ (m : Int) := by omega
  have hk6 : k + 1 ≤ c := by omega
  have hk7 : k + (m - (k + 1)) = m - 1 := by omega
  have hk8 : ¬ c = m - 1 := by omega
  have hk9 : m - 1 ≤ m := by omega
  have hk0 : 1 ≤ m := by omega
  clear hown hr htk hcs hcell hlen hnews h1 h2 h3 hW1h g1 g2 g3 hW1 hm
  go_enter Tryz.func207, Tryz.ntmps207
  go_wp2_with fail
  go_region_law (refine step_append_room rfl (.tmp 22) (.tmp 25) 91 rfl 167 i0 4 Tryz.underlying91 hi0 hz1 r 0 k c (by simp [Act.eval, Act.put]) A (m - (k + 1)) (c - (k + 1)) news (by simp [Act.eval, Act.put]) s1.out hsrc.out s2.out (by omega) s3.out ?_; rw [← hW.out])
  go_wp2
  go_ret
  exact ⟨rfl, HFIN.out, HKF.out⟩
end Go.Proofs.YtabmipjpgofgpaaGreatDoor
namespace Go.Proofs.YtabmipjpgofgpaaGreatDoor
open Go.RowKit
set_option linter.unusedVariables false
set_option linter.unusedSimpArgs false

theorem CloneR_nil (w : World) : Calls Tryz.prog 153 #[.slice none 0 0] w fun e w' => e = .returned (.slice none 0 0) ∧ w = w' := by
  have hn := fun (w : World) => Lib.run_eql_slice_nil (P := Tryz.prog) w 91 167 none 0 0 0 0 Tryz.underlying91
  go_enter Tryz.func153, Tryz.ntmps153
  go_wp2
  go_ret
  exact ⟨rfl, rfl⟩
set_option maxRecDepth 100000 in
theorem CloneR_any (v : Value) (L : List Rq) (w : World) (h : RqOw 167 0 w v L) (hl : L.length ≤ 1000) :
    Calls Tryz.prog 153 #[v] w fun e w' => ∃ a' c', e = .returned (.slice a' L.length c') ∧ RqOw 167 0 w' (.slice a' L.length c') L ∧ Kept NoB w w' := by
  rcases h.2 with ⟨rfl, h0⟩ | ⟨r, c, cur, rfl, hB, hr, h1, h2, h3, h4⟩
  · have hL : L = [] := List.eq_nil_of_length_eq_zero h0
    subst hL
    refine (CloneR_nil w).mono ?_
    rintro e w' ⟨rfl, rfl⟩
    exact ⟨none, 0, rfl, RqOw.nil _ _ _, Kept.refl _ _⟩
  · obtain ⟨i0, hi0, hz0, hz1, hz2⟩ := info_parts info_rq22
    obtain ⟨m, hm⟩ : ∃ m, m = L.length := ⟨_, rfl⟩
    have hn := fun (w : World) => Lib.run_eql_slice_nil (P := Tryz.prog) w 91 167 (some ⟨r, 0, none⟩) m c 0 0 Tryz.underlying91
    have hcl := rql_len L
    have hnews : ∀ j u, (rql L)[j]? = some u → (w.alloc (.cells #[] 167)).cell? ((⟨r, 0, none⟩ : Addr).add j) = some u := by
      intro j u hu
      have hadd : (⟨r, 0, none⟩ : Addr).add j = ⟨r, j, none⟩ := by unfold Addr.add; split <;> simp_all
      rw [hadd]
      have := World.ownsRow.cells h (g := r) rfl j u hu
      rw [hadd] at this
      exact cell_alloc this _
    have hmade := World.ownsRow_made (base := w.heap.size) (size := 4) w #[] (e := 167) 0 (Nat.le_refl _) (by decide) rfl
    have HM := Lib.hid hmade
    have HN := Lib.hid hnews
    have HL := Lib.hid hcl
    have HME := Lib.hid hm
    have hml : m ≤ 1000 := by rw [hm]; exact hl
    rw [← hm] at HL ⊢
    clear hmade hnews hcl h hm hr h1 h2 h3 h4
    go_enter Tryz.func153, Tryz.ntmps153
    go_wp2_with (at_builtin; refine wpList_append_own _ (by rfl) (.tmp 5) (.tmp 6) 91 (by rfl) w.heap.size 167 i0 _ 4 32 Tryz.underlying91 hi0 hz0 hz1 hz2 rfl (by decide) (.slice (some ⟨w.heap.size, 0, none⟩) 0 0) 0 [] (by rfl) HM.out ⟨r, 0, none⟩ m c (rql L) (by rfl) HL.out HN.out (rql_one L) (by unfold maxLen; omega) (by omega) (by simp) ?_; intro v' w1 hown1 hgrow _; have HO1 := Lib.hid hown1; have HG1 := Lib.hid hgrow; clear hown1 hgrow)
    go_ret
    have h1 := HO1.out
    rw [Nat.zero_add, List.nil_append] at h1
    have hform : ∃ a' c', v' = .slice a' m c' := by
      rcases h1.2 with ⟨rfl, h0⟩ | ⟨g, cap, cur, rfl, _⟩
      · exact ⟨none, 0, by rw [h0]⟩
      · exact ⟨_, _, rfl⟩
    obtain ⟨a', c', rfl⟩ := hform
    refine ⟨a', c', rfl, ?_, (Kept.refl _ _).alloc _ |>.grown HG1.out (fun k hk => .inr (by have : w.heap.size = k := (by simpa [Value.ownBlock] using hk); omega))⟩
    have h2 : RqOw 167 w.heap.size w1 (.slice a' m c') L := by unfold RqOw; rw [← HME.out]; exact h1
    exact h2.mono (Nat.zero_le _)
/-- Those that wait, at block g. -/
def RdsAt (w : World) (g : Nat) (a : Option Addr) (c : Nat) (t : Int) (L : List Rq) : Prop :=
  w.heap[g]? = some (.cells #[.slice a L.length c, .int .u64 t] 209 (0, 0)) ∧ RqOw 167 0 w (.slice a L.length c) L
theorem RdsAt.no {w w' : World} {g : Nat} {a : Option Addr} {c : Nat} {t : Int} {L : List Rq} (h : RdsAt w g a c t L) (hk : Kept NoB w w') : RdsAt w' g a c t L := ⟨hk.heap (fun h => h) h.1, h.2.no hk⟩
/-- Their blocks. -/
def FtR (g : Nat) (a : Option Addr) (n c : Nat) (k : Nat) : Prop := k = g ∨ some k = (Value.slice a n c).ownBlock
theorem QNew_any (w : World) : Calls Tryz.prog 82 #[] w fun e w' => e = .returned (.pointer (some ⟨w.heap.size, 0, none⟩)) ∧ RdsAt w' w.heap.size none 0 0 [] ∧ w' = w.alloc (.cells #[.slice none 0 0, .int .u64 0] 209) := by
  go_enter Tryz.func82, Tryz.ntmps82
  go_wp2
  go_ret
  exact ⟨rfl, ⟨heap_alloc_new w _, RqOw.nil _ _ _⟩, rfl⟩
theorem QLenN_any (w : World) : Calls Tryz.prog 202 #[.pointer none] w fun e w' => e = .returned (.int .i64 0) ∧ w = w' := by
  go_enter Tryz.func202, Tryz.ntmps202
  go_wp2
  go_ret
  exact ⟨rfl, rfl⟩
theorem QListN_any (w : World) : Calls Tryz.prog 94 #[.pointer none] w fun e w' => e = .returned (.slice none 0 0) ∧ w = w' := by
  go_enter Tryz.func94, Tryz.ntmps94
  go_wp2
  go_ret
  exact ⟨rfl, rfl⟩
theorem QClearN_any (w : World) : Calls Tryz.prog 148 #[.pointer none] w fun e w' => e = .returned (.int .i64 0) ∧ w = w' := by
  go_enter Tryz.func148, Tryz.ntmps148
  go_wp2_with (go_at_call 202; refine (QLenN_any _).mono ?_; rintro e w2 ⟨rfl, rfl⟩)
  go_ret
  exact ⟨rfl, rfl⟩
theorem QAskN_any (c n k : Int) (w : World) : Calls Tryz.prog 150 #[.pointer none, .int .i64 c, .int .u64 n, .int .u32 k] w fun e w' => e = .returned (.tuple #[rqv rq0, .int .i64 2]) ∧ Kept NoB w w' := by
  obtain ⟨V, hV⟩ : ∃ V, V = (w.alloc (.cells #[.int .i64 c] 3)).alloc (.cells #[.int .u64 0, .int .i64 0, .int .u64 0, .int .u32 0] 167) := ⟨_, rfl⟩
  have hk : Kept NoB w V := by rw [hV]; exact ((Kept.refl _ _).alloc _).alloc _
  have hb : V.heap[w.heap.size + 1]? = some (.cells #[.int .u64 0, .int .i64 0, .int .u64 0, .int .u32 0] 167 (0, 0)) := by
    rw [hV]; have := heap_alloc_new (w.alloc (.cells #[.int .i64 c] 3)) (.cells #[.int .u64 0, .int .i64 0, .int .u64 0, .int .u32 0] 167); rwa [World.size_alloc] at this
  have HV := Lib.hid hV
  have HK := Lib.hid hk
  have HB := Lib.hid hb
  obtain ⟨d0, d1, d2, d3, f0, f1, f2, f3⟩ := cells4q hb
  clear hV hk hb
  go_enter Tryz.func150, Tryz.ntmps150
  go_upto_region 1 with fail
  rw [← HV.out]
  go_wp2
  obtain ⟨s0, s1, s2, s3, _⟩ := cells4q (four22_at HB.out (.int .u64 0) (.int .i64 0) (.int .u64 0) (.int .u32 0))
  have hk4 := four22_kept V (w.heap.size + 1) (.int .u64 0) (.int .i64 0) (.int .u64 0) (.int .u32 0)
  have HK4 := Lib.hid hk4
  clear hk4
  refine bodyPost_ret (v := .tuple #[.agg #[.int .u64 0, .int .i64 0, .int .u64 0, .int .u32 0], .int .i64 2]) (by simp [results, Tryz.results150, go_sem, s0, s1, s2, s3]) rfl ?_
  exact ⟨rfl, HK.out.trans HK4.out (fun i hi h => by have h : i = w.heap.size + 1 := h; omega)⟩
theorem QToldN_any (t : Int) (w : World) : Calls Tryz.prog 152 #[.pointer none, .int .u64 t] w fun e w' => e = .returned (.tuple #[rqv rq0, .bool false]) ∧ Kept NoB w w' := by
  obtain ⟨V, hV⟩ : ∃ V, V = (w.alloc (.cells #[.int .u64 t] 23)).alloc (.cells #[.int .u64 0, .int .i64 0, .int .u64 0, .int .u32 0] 167) := ⟨_, rfl⟩
  have hk : Kept NoB w V := by rw [hV]; exact ((Kept.refl _ _).alloc _).alloc _
  have hb : V.heap[w.heap.size + 1]? = some (.cells #[.int .u64 0, .int .i64 0, .int .u64 0, .int .u32 0] 167 (0, 0)) := by
    rw [hV]; have := heap_alloc_new (w.alloc (.cells #[.int .u64 t] 23)) (.cells #[.int .u64 0, .int .i64 0, .int .u64 0, .int .u32 0] 167); rwa [World.size_alloc] at this
  have HV := Lib.hid hV
  have HK := Lib.hid hk
  have HB := Lib.hid hb
  obtain ⟨d0, d1, d2, d3, f0, f1, f2, f3⟩ := cells4q hb
  clear hV hk hb
  go_enter Tryz.func152, Tryz.ntmps152
  go_upto_region 1 with fail
  rw [← HV.out]
  go_wp2
  obtain ⟨s0, s1, s2, s3, _⟩ := cells4q (four22_at HB.out (.int .u64 0) (.int .i64 0) (.int .u64 0) (.int .u32 0))
  have hk4 := four22_kept V (w.heap.size + 1) (.int .u64 0) (.int .i64 0) (.int .u64 0) (.int .u32 0)
  have HK4 := Lib.hid hk4
  clear hk4
  refine bodyPost_ret (v := .tuple #[.agg #[.int .u64 0, .int .i64 0, .int .u64 0, .int .u32 0], .bool false]) (by simp [results, Tryz.results152, go_sem, s0, s1, s2, s3]) rfl ?_
  exact ⟨rfl, HK.out.trans HK4.out (fun i hi h => by have h : i = w.heap.size + 1 := h; omega)⟩
theorem QLen_any (g : Nat) (a : Option Addr) (c : Nat) (t : Int) (L : List Rq) (w : World) (h : RdsAt w g a c t L) : Calls Tryz.prog 202 #[.pointer (some ⟨g, 0, none⟩)] w fun e w' => e = .returned (.int .i64 L.length) ∧ w = w' := by
  obtain ⟨q0, _⟩ := cells2q h.1
  clear h
  go_enter Tryz.func202, Tryz.ntmps202
  go_wp2
  go_ret
  exact ⟨rfl, rfl⟩
theorem QList_any (g : Nat) (a : Option Addr) (c : Nat) (t : Int) (L : List Rq) (w : World) (h : RdsAt w g a c t L) (hl : L.length ≤ 1000) : Calls Tryz.prog 94 #[.pointer (some ⟨g, 0, none⟩)] w fun e w' => ∃ a' c', e = .returned (.slice a' L.length c') ∧ RqOw 167 0 w' (.slice a' L.length c') L ∧ Kept NoB w w' := by
  obtain ⟨q0, _⟩ := cells2q h.1
  have HC := Lib.hid (CloneR_any _ L w h.2 hl)
  clear h
  go_enter Tryz.func94, Tryz.ntmps94
  go_wp2_with (go_at_call 153; refine HC.out.mono ?_; rintro e w2 ⟨a', c', rfl, hr, hk⟩; have HR := Lib.hid hr; have HK := Lib.hid hk; clear hr hk)
  go_ret
  exact ⟨_, _, rfl, HR.out, HK.out⟩
theorem QClear_any (g : Nat) (a : Option Addr) (c : Nat) (t : Int) (L : List Rq) (w : World) (h : RdsAt w g a c t L) : Calls Tryz.prog 148 #[.pointer (some ⟨g, 0, none⟩)] w fun e w' => e = .returned (.int .i64 L.length) ∧ (∃ a' c', RdsAt w' g a' c' t [] ∧ ∀ k, some k = (Value.slice a' 0 c').ownBlock → some k = (Value.slice a L.length c).ownBlock) ∧ Kept (FtR g a L.length c) w w' := by
  obtain ⟨q0, q1, z0, z1⟩ := cells2q h.1
  have HL := Lib.hid (QLen_any g a c t L w h)
  obtain ⟨m, hm⟩ : ∃ m, m = L.length := ⟨_, rfl⟩
  have H := Lib.hid h
  rw [← hm] at q0 HL ⊢
  have HM := Lib.hid hm
  clear h hm
  by_cases h0 : 0 < m
  · have h1 : (0 : Int) < m := by omega
    go_enter Tryz.func148, Tryz.ntmps148
    go_wp2_with (go_at_call 202; refine HL.out.mono ?_; rintro e w2 ⟨rfl, rfl⟩)
    go_ret
    refine ⟨rfl, ⟨none, 0, ⟨?_, RqOw.nil _ _ _⟩, fun k hk => by simp [Value.ownBlock] at hk⟩, (Kept.refl (FtR g a m c) w).setCell (p := ⟨g, 0, none⟩) (.inl (.inl rfl)) _⟩
    have := blkV_set H.out.1 0 (.slice none 0 0)
    simpa using this
  · have hd : ¬ (0 : Int) < m := by omega
    go_enter Tryz.func148, Tryz.ntmps148
    go_wp2_with (go_at_call 202; refine HL.out.mono ?_; rintro e w2 ⟨rfl, rfl⟩)
    go_ret
    have hL : L = [] := List.eq_nil_of_length_eq_zero (by rw [← HM.out]; omega)
    have hH := H.out
    subst hL
    exact ⟨rfl, ⟨a, c, hH, fun k hk => by rw [HM.out]; exact hk⟩, Kept.refl _ _⟩
end Go.Proofs.YtabmipjpgofgpaaGreatDoor
