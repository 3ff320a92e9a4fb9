/-
  Rows of clients in memory (by wip/mkses.py).
-/
import Derived.Test.YtnmclhgljpcjcaaProg
import Derived.Test.YtnmclhgljpcjcaaSesA
import Derived.WalkSpells
import Derived.WalkLawsBesides
import Derived.BigRegion
import Derived.Deep.QuietTactic
import Derived.BigQuiet
import Derived.Deep.RegionHeld3
import Derived.Deep.RegionLaw
import Derived.Deep.DeepMust
import Derived.Outline
import Derived.KernelRfl
import Derived.Deep.Cut
import Derived.StillTailTactics
namespace Go.Proofs.Ytnmclhgljpcjcaa
open Go.RowKit
set_option linter.unusedVariables false

theorem blkR_frozen {w : World} {g : Nat} {cs : Array Value} {t : TypeId} (h : w.heap[g]? = some (.cells cs t (0, 0))) (o : Nat) : w.frozen? ⟨g, o, none⟩ = false := by simp [World.frozen?, h]
theorem blkR_set {w : World} {g : Nat} {cs : Array Value} {t : TypeId} {fr : Nat × Nat} (h : w.heap[g]? = some (.cells cs t fr)) (i : Nat) (u : Value) :
    (w.setCell ⟨g, i, none⟩ u).heap[g]? = some (.cells (cs.setIfInBounds i u) t fr) := by simp [World.setCell, Array.getElem?_modify, h]
theorem blkR_set_other {w : World} {g k : Nat} {o : Obj} (h : w.heap[g]? = some o) (i : Nat) (u : Value) (hk : k ≠ g) :
    (w.setCell ⟨k, i, none⟩ u).heap[g]? = some o := by simp [World.setCell, Array.getElem?_modify, h, hk]
theorem blkR_alloc {w : World} {g : Nat} {o : Obj} (h : w.heap[g]? = some o) (x : Obj) : (w.alloc x).heap[g]? = some o := (heap_alloc_old w x (heap_lt h)).trans h
theorem cells5r {w : World} {b : Nat} {v : Rw} {t : TypeId} (h : w.heap[b]? = some (.cells #[.int .i64 v.s, .int .u64 v.b, .int .u64 v.k, .int .i64 v.ch, .int .u64 v.ep] t (0, 0))) :
    w.cell? ⟨b, 0, none⟩ = some (.int .i64 v.s) ∧ w.cell? ⟨b, 1, none⟩ = some (.int .u64 v.b) ∧ w.cell? ⟨b, 2, none⟩ = some (.int .u64 v.k) ∧ w.cell? ⟨b, 3, none⟩ = some (.int .i64 v.ch) ∧ w.cell? ⟨b, 4, none⟩ = some (.int .u64 v.ep) :=
  ⟨cell_of_row _ _ 0 _ _ _ h, cell_of_row _ _ 1 _ _ _ h, cell_of_row _ _ 2 _ _ _ h, cell_of_row _ _ 3 _ _ _ h, cell_of_row _ _ 4 _ _ _ h⟩
theorem addr_add16 (b o j : Nat) : (⟨b, o, none⟩ : Addr).add j = ⟨b, o + j, none⟩ := by unfold Addr.add; split <;> simp_all
/-- Six cells that are a vote. -/
def RwAt (w : World) (b o : Nat) (v : Rw) : Prop :=
  w.cell? ⟨b, o, none⟩ = some (.int .i64 v.s) ∧ w.cell? ⟨b, o + 1, none⟩ = some (.int .u64 v.b) ∧ w.cell? ⟨b, o + 2, none⟩ = some (.int .u64 v.k) ∧ w.cell? ⟨b, o + 3, none⟩ = some (.int .i64 v.ch) ∧ w.cell? ⟨b, o + 4, none⟩ = some (.int .u64 v.ep)
theorem RwAt.kept {S : Nat → Prop} {w w' : World} {b o : Nat} {v : Rw} (h : RwAt w b o v) (hk : Kept S w w') (hs : ¬ S b) : RwAt w' b o v :=
  ⟨hk.cell (p := ⟨b, o, none⟩) hs h.1, hk.cell (p := ⟨b, o + 1, none⟩) hs h.2.1, hk.cell (p := ⟨b, o + 2, none⟩) hs h.2.2.1, hk.cell (p := ⟨b, o + 3, none⟩) hs h.2.2.2.1, hk.cell (p := ⟨b, o + 4, none⟩) hs h.2.2.2.2⟩
/-- The value is a slice that reads as these votes, in a block of F. -/
def RwRd (w : World) (F : Nat → Prop) (v : Value) (L : List Rw) : Prop :=
  ∃ a c, v = .slice a L.length c ∧ L.length ≤ c ∧ c ≤ maxLen ∧ (a = none → c = 0) ∧ (0 < L.length → ∃ b o, a = some ⟨b, o, none⟩ ∧ F b ∧ b < w.heap.size ∧ ∀ j (hj : j < L.length), RwAt w b (o + j * 5) L[j])
theorem RwRd.nil (w : World) (F : Nat → Prop) : RwRd w F (.slice none 0 0) [] := ⟨none, 0, rfl, Nat.le_refl _, Nat.zero_le _, fun _ => rfl, fun h => absurd h (by simp)⟩
theorem RwRd.form {w : World} {F : Nat → Prop} {v : Value} {L : List Rw} (h : RwRd w F v L) : ∃ a c, v = .slice a L.length c := by
  obtain ⟨a, c, h, _⟩ := h
  exact ⟨a, c, h⟩
theorem RwRd.kept {S F : Nat → Prop} {w w' : World} {v : Value} {L : List Rw} (h : RwRd w F v L) (hk : Kept S w w') (hs : ∀ k, F k → ¬ S k) : RwRd w' F v L := by
  obtain ⟨a, c, h1, h2, h3, h4, h5⟩ := h
  exact ⟨a, c, h1, h2, h3, h4, fun hp => by
    obtain ⟨b, o, e, hF, hb, hc⟩ := h5 hp
    exact ⟨b, o, e, hF, Nat.lt_of_lt_of_le hb hk.size, fun j hj => (hc j hj).kept hk (hs b hF)⟩⟩
theorem RwRd.no {F : Nat → Prop} {w w' : World} {v : Value} {L : List Rw} (h : RwRd w F v L) (hk : Kept NoB w w') : RwRd w' F v L := h.kept hk (fun _ _ h => h)
theorem RwRd.mono {F G : Nat → Prop} {w : World} {v : Value} {L : List Rw} (h : RwRd w F v L) (hG : ∀ k, k < w.heap.size → F k → G k) : RwRd w G v L := by
  obtain ⟨a, c, h1, h2, h3, h4, h5⟩ := h
  exact ⟨a, c, h1, h2, h3, h4, fun hp => by
    obtain ⟨b, o, e, hF, hb, hc⟩ := h5 hp
    exact ⟨b, o, e, hG b hb hF, hb, hc⟩⟩
theorem RwRd.len {F : Nat → Prop} {w : World} {v : Value} {L : List Rw} (h : RwRd w F v L) : L.length ≤ 9223372036854775807 := by
  obtain ⟨a, c, h1, h2, h3, _⟩ := h
  unfold maxLen at h3
  omega
theorem RwRd.at_ {w : World} {F : Nat → Prop} {a : Option Addr} {c : Nat} {L : List Rw} (h : RwRd w F (.slice a L.length c) L) (j : Nat) (hj : j < L.length) : ∃ b o, a = some ⟨b, o, none⟩ ∧ F b ∧ b < w.heap.size ∧ RwAt w b (o + j * 5) L[j] := by
  obtain ⟨a', c', e, h2, h3, h4, h5⟩ := h
  injection e with e1 e2 e3
  subst e1 e3
  obtain ⟨b, o, e, hF, hb, hc⟩ := h5 (by omega)
  exact ⟨b, o, e, hF, hb, hc j hj⟩
/-- A slice from its i-th vote on. -/
theorem RwRd.drop {F : Nat → Prop} {w : World} {a : Option Addr} {c : Nat} {L : List Rw} (h : RwRd w F (.slice a L.length c) L) (i : Nat) (hi : i ≤ L.length) :
    RwRd w F (.slice (if c = i then a else a.map (·.add (i * 5))) (L.length - i) (c - i)) (L.drop i) := by
  obtain ⟨a', c', e, h2, h3, h4, h5⟩ := h
  injection e with e1 e2 e3
  subst e1 e3
  have hl : (L.drop i).length = L.length - i := List.length_drop
  refine ⟨_, c - i, by rw [hl], by rw [hl]; omega, by omega, fun hn => ?_, fun hp => ?_⟩
  · split at hn
    · have := h4 hn; omega
    · cases a with
      | none => have := h4 rfl; omega
      | some ad => cases hn
  · rw [hl] at hp
    obtain ⟨b, o, rfl, hF, hb, hc⟩ := h5 (by omega)
    rw [if_neg (by omega)]
    refine ⟨b, o + i * 5, by simp [addr_add16], hF, hb, fun j hj => ?_⟩
    rw [hl] at hj
    have := hc (i + j) (by omega)
    rw [List.getElem_drop, show o + i * 5 + j * 5 = o + (i + j) * 5 by omega]
    exact this
theorem Try.info74 : (Try.prog.info? 74).map (fun i => (i.zero, i.size, i.bytes)) = some (some (rvv rw0), 5, 40) := by kernel_rfl
/-- A row of votes of the call's own, from block B on. -/
def QOwn (B : Nat) (w : World) (v : Value) (L : List Rw) : Prop := w.ownsRow B 74 5 v L.length (rcel L)
theorem QOwn.nil (B : Nat) (w : World) : QOwn B w (.slice none 0 0) [] := World.ownsRow_nil _ _ _ _
theorem QOwn.form {B : Nat} {w : World} {v : Value} {L : List Rw} (h : QOwn B w v L) : ∃ a c, v = .slice a L.length c := by
  rcases h.2 with ⟨rfl, h0⟩ | ⟨r, cap, cur, rfl, _⟩
  · exact ⟨none, 0, by rw [h0]⟩
  · exact ⟨_, _, rfl⟩
theorem QOwn.kept {S : Nat → Prop} {B : Nat} {w w' : World} {v : Value} {L : List Rw} (h : QOwn B w v L) (hk : Kept S w w') (hs : ∀ k, v.ownBlock = some k → ¬ S k) : QOwn B w' v L := by
  refine ⟨h.1, ?_⟩
  rcases h.2 with hn | ⟨r, cap, cur, rfl, hb, hr, rest⟩
  · exact .inl hn
  · exact .inr ⟨r, cap, cur, rfl, hb, hk.heap (hs r rfl) hr, rest⟩
theorem QOwn.no {B : Nat} {w w' : World} {v : Value} {L : List Rw} (h : QOwn B w v L) (hk : Kept NoB w w') : QOwn B w' v L := h.kept hk (fun _ _ h => h)
theorem QOwn.base {B : Nat} {w : World} {v : Value} {L : List Rw} (h : QOwn B w v L) (k : Nat) (hk : v.ownBlock = some k) : B ≤ k ∧ k < w.heap.size := by
  rcases h.2 with ⟨rfl, _⟩ | ⟨r, cap, cur, rfl, hb, hr, _⟩
  · cases hk
  · injection hk with hk
    subst hk
    exact ⟨hb, heap_lt hr⟩
theorem QOwn.mono {B C : Nat} {w : World} {v : Value} {L : List Rw} (h : QOwn B w v L) (hB : C ≤ B) : QOwn C w v L := by
  refine ⟨h.1, ?_⟩
  rcases h.2 with hn | ⟨r, cap, cur, rfl, hb, rest⟩
  · exact .inl hn
  · exact .inr ⟨r, cap, cur, rfl, Nat.le_trans hB hb, rest⟩
/-- A row's block is of votes. -/
theorem QOwn.typ {B : Nat} {w : World} {v : Value} {L : List Rw} (h : QOwn B w v L) (k : Nat) (hk : v.ownBlock = some k) {cs : Array Value} {t : TypeId} {fr : Nat × Nat} (hc : w.heap[k]? = some (.cells cs t fr)) : t = 74 := by
  rcases h.2 with ⟨rfl, _⟩ | ⟨r, cap, cur, rfl, hb, hr, _⟩
  · cases hk
  · injection hk with hk
    subst hk
    rw [hr] at hc
    injection hc with hc
    injection hc with _ hc
    exact hc.symm
theorem QOwn.one {B : Nat} {w : World} {v : Value} {L : List Rw} (h : QOwn B w v L) {k : Nat} {cs : Array Value} {t : TypeId} {fr : Nat × Nat} (hc : w.heap[k]? = some (.cells cs t fr)) (ht : t ≠ 74) : ∀ j, v.ownBlock = some j → j ≠ k := by
  intro j hj e
  subst e
  exact ht (h.typ j hj hc)
/-- append of one vote that lies in a block to a row of the call's own. -/
theorem run_append_qr (w : World) (base : Nat) (ty : TypeId) (v : Value) (L : List Rw) (hown : QOwn base w v L) (b : Nat) (x : Rw) (hb : w.heap[b]? = some (.cells #[.int .i64 x.s, .int .u64 x.b, .int .u64 x.k, .int .i64 x.ch, .int .u64 x.ep] 74 (0, 0))) (hl : L.length ≤ 100000) (hbase : base ≤ w.heap.size) :
    ∃ a' c' w', (Builtin.append_ #[68, 68] ty #[v, .slice (some ⟨b, 0, none⟩) 1 1]).run Try.prog w = .ok (.slice a' (L.length + 1) c') w' ∧ QOwn base w' (.slice a' (L.length + 1) c') (L ++ [x]) ∧ w.grownBy w' v.ownBlock ∧ ((Value.slice a' (L.length + 1) c').ownBlock = v.ownBlock ∨ (Value.slice a' (L.length + 1) c').ownBlock = some w.heap.size) := by
  obtain ⟨i0, hi, hz0, hz1, hz2⟩ := info_parts Try.info74
  obtain ⟨v', w', hrun, h2, h3, _, h5⟩ := run_append_own_at (P := Try.prog) w base 68 ty 74 i0 _ 5 40 Try.underlying68 hi hz0 hz1 hz2 rfl (by decide) v L.length _ hown ⟨b, 0, none⟩ 1 1 (rcel [x]) (by simp [rcel, rcs]) (World.news_of_block hb) (by
    intro y hy
    simp only [rcel, rcs, List.flatMap_cons, List.flatMap_nil, List.append_nil, List.mem_cons, List.not_mem_nil, or_false] at hy
    rcases hy with rfl | rfl | rfl | rfl | rfl <;> rfl) (by unfold maxLen; omega) (by omega) hbase
  have h2' : QOwn base w' v' (L ++ [x]) := by
    unfold QOwn
    rw [rcel_app, List.length_append]
    exact h2
  obtain ⟨a', c', e⟩ := h2'.form
  rw [List.length_append] at e
  have e : v' = .slice a' (L.length + 1) c' := e
  subst e
  exact ⟨a', c', w', hrun, h2', h3, h5⟩
theorem wpList_append_qr (w : World) {ops : Array Oper} {rest : List Oper} {o : Oper} {a : Act} {Q : Exit → Act → World → Prop} (hgd : o.guard = none) (s x : Operand)
    (ho : o.op = .call { callee := .builtin .append, args := #[s, x], argTypes := #[68, 68] })
    (base : Nat) (v : Value) (L : List Rw) (hs : a.eval s = v) (hown : QOwn base w v L) (b : Nat) (y : Rw) (hx : a.eval x = .slice (some ⟨b, 0, none⟩) 1 1) (hb : w.heap[b]? = some (.cells #[.int .i64 y.s, .int .u64 y.b, .int .u64 y.k, .int .i64 y.ch, .int .u64 y.ep] 74 (0, 0))) (hl : L.length ≤ 100000) (hbase : base ≤ w.heap.size)
    (h : ∀ a' c' w', QOwn base w' (.slice a' (L.length + 1) c') (L ++ [y]) → w.grownBy w' v.ownBlock → ((Value.slice a' (L.length + 1) c').ownBlock = v.ownBlock ∨ (Value.slice a' (L.length + 1) c').ownBlock = some w.heap.size) → wpList Try.prog ops Q rest (a.put o.dst (.slice a' (L.length + 1) c')) w') : wpList Try.prog ops Q (o :: rest) a w :=
  wpList_plain hgd fun K hK => by
    obtain ⟨a', c', w', hrun, h2, h3, h4⟩ := run_append_qr w base o.type v L hown b y hb hl hbase
    unfold Oper.wp execOp
    simp only [ho, resolve, invoke, builtin, Sem.run_bind, Sem.run_pure, Result.andThen_ok, List.map_toArray, List.map_cons, List.map_nil, hs, hx, hrun]
    exact hK _ _ (h a' c' w' h2 h3 h4)

/-- A row's cells. -/
theorem QOwn.cells {B : Nat} {w : World} {v : Value} {L : List Rw} (h : QOwn B w v L) (j : Nat) (hj : j < L.length) :
    ∃ r c, v = .slice (some ⟨r, 0, none⟩) L.length c ∧ r < w.heap.size ∧ w.cell? ⟨r, j * 5, none⟩ = some (.int .i64 L[j].s) ∧ w.cell? ⟨r, j * 5 + 1, none⟩ = some (.int .u64 L[j].b) ∧ w.cell? ⟨r, j * 5 + 2, none⟩ = some (.int .u64 L[j].k) ∧
      w.cell? ⟨r, j * 5 + 3, none⟩ = some (.int .i64 L[j].ch) ∧ w.cell? ⟨r, j * 5 + 4, none⟩ = some (.int .u64 L[j].ep) := by
  obtain ⟨r, cap, rfl, hB, hlt⟩ := World.ownsRow.form h (by omega)
  have hx : ∀ i, i < 5 → ∀ u, (rcs L[j])[i]? = some u → w.cell? ⟨r, j * 5 + i, none⟩ = some u := fun i hi u hu => by
    have := World.ownsRow.cells h (g := r) rfl (j * 5 + i) u (by rw [rcel_at L j i hj hi]; exact hu)
    have hadd : (⟨r, 0, none⟩ : Addr).add (j * 5 + i) = ⟨r, j * 5 + i, none⟩ := by unfold Addr.add; split <;> simp_all
    rw [← hadd]
    exact this
  exact ⟨r, cap, rfl, hlt, hx 0 (by omega) _ rfl, hx 1 (by omega) _ rfl, hx 2 (by omega) _ rfl, hx 3 (by omega) _ rfl, hx 4 (by omega) _ rfl⟩
/-- A row of the call's own reads so. -/
theorem QOwn.rd {B : Nat} {w : World} {v : Value} {L : List Rw} {F : Nat → Prop} (h : QOwn B w v L) (hF : ∀ k, v.ownBlock = some k → F k) : RwRd w F v L := by
  rcases h.2 with ⟨rfl, h0⟩ | ⟨r, cap, cur, rfl, hb, hr, hc, hm, _⟩
  · obtain rfl : L = [] := List.eq_nil_of_length_eq_zero h0
    exact RwRd.nil w F
  · refine ⟨_, cap, rfl, hc, hm, (fun h => by cases h), fun _ => ⟨r, 0, rfl, hF r rfl, heap_lt hr, fun j hj => ?_⟩⟩
    obtain ⟨r', c', e, _, e0, e1, e2, e3, e4⟩ := h.cells j hj
    injection e with e
    injection e with e
    injection e with e
    subst e
    simp only [Nat.zero_add]
    exact ⟨e0, e1, e2, e3, e4⟩
/-- append of votes that a slice has to a row of the call's own. -/
theorem run_append_qrs (w : World) (base : Nat) (ty : TypeId) (v : Value) (L : List Rw) (hown : QOwn base w v L) (x : Value) (M : List Rw) (F : Nat → Prop) (hx : RwRd w F x M) (hl : L.length + M.length ≤ 100000) (hbase : base ≤ w.heap.size) :
    ∃ a' c' w', (Builtin.append_ #[68, 68] ty #[v, x]).run Try.prog w = .ok (.slice a' (L.length + M.length) c') w' ∧ QOwn base w' (.slice a' (L.length + M.length) c') (L ++ M) ∧ w.grownBy w' v.ownBlock ∧
      ((Value.slice a' (L.length + M.length) c').ownBlock = v.ownBlock ∨ (Value.slice a' (L.length + M.length) c').ownBlock = some w.heap.size) := by
  obtain ⟨i0, hi, hz0, hz1, hz2⟩ := info_parts Try.info74
  obtain ⟨xa, xc, rfl, h2, h3, h4, h5⟩ := hx
  rcases Nat.eq_zero_or_pos M.length with h0 | h0
  · obtain rfl : M = [] := List.eq_nil_of_length_eq_zero h0
    obtain ⟨a, c, rfl⟩ := hown.form
    cases xa with
    | none =>
      obtain rfl := h4 rfl
      exact ⟨a, c, w, run_append_owned_none w base _ ty _ i0 5 Try.underlying68 hi _ _ _ hown, by simpa using hown, ⟨rfl, rfl, rfl, Nat.le_refl _, fun _ _ _ => rfl⟩, .inl rfl⟩
    | some ad =>
      obtain ⟨v', w', hrun, g2, g3, _, g5⟩ := run_append_own_at (P := Try.prog) w base 68 ty 74 i0 _ 5 40 Try.underlying68 hi hz0 hz1 hz2 rfl (by decide) _ L.length _ hown ad 0 xc [] (by simp) (fun j u hu => by simp at hu) (fun y hy => by cases hy) (by unfold maxLen; omega) (by omega) hbase
      have g2' : QOwn base w' v' L := by
        have := g2
        simp only [List.append_nil, Nat.add_zero] at this
        exact this
      obtain ⟨a', c', e⟩ := g2'.form
      subst e
      exact ⟨a', c', w', hrun, by simpa using g2', g3, g5⟩
  · obtain ⟨b, o, rfl, hF, hb, hc⟩ := h5 h0
    have hcell : ∀ j u, (rcel M)[j]? = some u → w.cell? ((⟨b, o, none⟩ : Addr).add j) = some u := by
      intro j u hu
      have hj : j < (rcel M).length := by
        rcases Nat.lt_or_ge j (rcel M).length with h | h
        · exact h
        · rw [List.getElem?_eq_none h] at hu; cases hu
      rw [rcel_len] at hj
      have hjm : j / 5 < M.length := by omega
      have hd : j = j / 5 * 5 + j % 5 := by omega
      rw [hd, rcel_at M (j / 5) (j % 5) hjm (Nat.mod_lt _ (show 0 < 5 by decide))] at hu
      obtain ⟨e0, e1, e2, e3, e4⟩ := hc (j / 5) hjm
      rw [addr_add16, show o + j = o + j / 5 * 5 + j % 5 by omega]
      have hm : j % 5 < 5 := Nat.mod_lt _ (show 0 < 5 by decide)
      generalize j % 5 = i at hu hm ⊢
      match i, hm with
      | 0, _ => simp [rcs] at hu; subst hu; exact e0
      | 1, _ => simp [rcs] at hu; subst hu; exact e1
      | 2, _ => simp [rcs] at hu; subst hu; exact e2
      | 3, _ => simp [rcs] at hu; subst hu; exact e3
      | 4, _ => simp [rcs] at hu; subst hu; exact e4
    obtain ⟨v', w', hrun, g2, g3, _, g5⟩ := run_append_own_at (P := Try.prog) w base 68 ty 74 i0 _ 5 40 Try.underlying68 hi hz0 hz1 hz2 rfl (by decide) v L.length _ hown ⟨b, o, none⟩ M.length xc (rcel M) (rcel_len M) hcell (by
      intro y hy
      unfold rcel at hy
      obtain ⟨z, _, hz⟩ := List.mem_flatMap.1 hy
      simp only [rcs, List.mem_cons, List.not_mem_nil, or_false] at hz
      rcases hz with rfl | rfl | rfl | rfl | rfl <;> rfl) (by unfold maxLen; omega) (by omega) hbase
    have g2' : QOwn base w' v' (L ++ M) := by
      unfold QOwn
      rw [rcel_app, List.length_append]
      exact g2
    obtain ⟨a', c', e⟩ := g2'.form
    rw [List.length_append] at e
    subst e
    exact ⟨a', c', w', hrun, g2', g3, g5⟩
theorem wpList_append_qrs (w : World) {ops : Array Oper} {rest : List Oper} {o : Oper} {a : Act} {Q : Exit → Act → World → Prop} (hgd : o.guard = none) (s x : Operand)
    (ho : o.op = .call { callee := .builtin .append, args := #[s, x], argTypes := #[68, 68] })
    (base : Nat) (v : Value) (L : List Rw) (hs : a.eval s = v) (hown : QOwn base w v L) (y : Value) (M : List Rw) (F : Nat → Prop) (hx : a.eval x = y) (hy : RwRd w F y M) (hl : L.length + M.length ≤ 100000) (hbase : base ≤ w.heap.size) (N : Nat) (hN : L.length + M.length = N)
    (h : ∀ a' c' w', QOwn base w' (.slice a' N c') (L ++ M) → w.grownBy w' v.ownBlock → ((Value.slice a' N c').ownBlock = v.ownBlock ∨ (Value.slice a' N c').ownBlock = some w.heap.size) → wpList Try.prog ops Q rest (a.put o.dst (.slice a' N c')) w') : wpList Try.prog ops Q (o :: rest) a w :=
  wpList_plain hgd fun K hK => by
    subst hN
    obtain ⟨a', c', w', hrun, h2, h3, h4⟩ := run_append_qrs w base o.type v L hown y M F hy hl hbase
    unfold Oper.wp execOp
    simp only [ho, resolve, invoke, builtin, Sem.run_bind, Sem.run_pure, Result.andThen_ok, List.map_toArray, List.map_cons, List.map_nil, hs, hx, hrun]
    exact hK _ _ (h a' c' w' h2 h3 h4)
theorem Try.info75 : (Try.prog.info? 75).map (fun i => (i.zero, i.size, i.bytes)) = some (some (rvv rw0), 5, 40) := by kernel_rfl
/-- A row of votes of the call's own, from block B on. -/
def POwn (B : Nat) (w : World) (v : Value) (L : List Rw) : Prop := w.ownsRow B 75 5 v L.length (rcel L)
theorem POwn.nil (B : Nat) (w : World) : POwn B w (.slice none 0 0) [] := World.ownsRow_nil _ _ _ _
theorem POwn.form {B : Nat} {w : World} {v : Value} {L : List Rw} (h : POwn B w v L) : ∃ a c, v = .slice a L.length c := by
  rcases h.2 with ⟨rfl, h0⟩ | ⟨r, cap, cur, rfl, _⟩
  · exact ⟨none, 0, by rw [h0]⟩
  · exact ⟨_, _, rfl⟩
theorem POwn.kept {S : Nat → Prop} {B : Nat} {w w' : World} {v : Value} {L : List Rw} (h : POwn B w v L) (hk : Kept S w w') (hs : ∀ k, v.ownBlock = some k → ¬ S k) : POwn B w' v L := by
  refine ⟨h.1, ?_⟩
  rcases h.2 with hn | ⟨r, cap, cur, rfl, hb, hr, rest⟩
  · exact .inl hn
  · exact .inr ⟨r, cap, cur, rfl, hb, hk.heap (hs r rfl) hr, rest⟩
theorem POwn.no {B : Nat} {w w' : World} {v : Value} {L : List Rw} (h : POwn B w v L) (hk : Kept NoB w w') : POwn B w' v L := h.kept hk (fun _ _ h => h)
theorem POwn.base {B : Nat} {w : World} {v : Value} {L : List Rw} (h : POwn B w v L) (k : Nat) (hk : v.ownBlock = some k) : B ≤ k ∧ k < w.heap.size := by
  rcases h.2 with ⟨rfl, _⟩ | ⟨r, cap, cur, rfl, hb, hr, _⟩
  · cases hk
  · injection hk with hk
    subst hk
    exact ⟨hb, heap_lt hr⟩
theorem POwn.mono {B C : Nat} {w : World} {v : Value} {L : List Rw} (h : POwn B w v L) (hB : C ≤ B) : POwn C w v L := by
  refine ⟨h.1, ?_⟩
  rcases h.2 with hn | ⟨r, cap, cur, rfl, hb, rest⟩
  · exact .inl hn
  · exact .inr ⟨r, cap, cur, rfl, Nat.le_trans hB hb, rest⟩
/-- A row's block is of votes. -/
theorem POwn.typ {B : Nat} {w : World} {v : Value} {L : List Rw} (h : POwn B w v L) (k : Nat) (hk : v.ownBlock = some k) {cs : Array Value} {t : TypeId} {fr : Nat × Nat} (hc : w.heap[k]? = some (.cells cs t fr)) : t = 75 := by
  rcases h.2 with ⟨rfl, _⟩ | ⟨r, cap, cur, rfl, hb, hr, _⟩
  · cases hk
  · injection hk with hk
    subst hk
    rw [hr] at hc
    injection hc with hc
    injection hc with _ hc
    exact hc.symm
theorem POwn.one {B : Nat} {w : World} {v : Value} {L : List Rw} (h : POwn B w v L) {k : Nat} {cs : Array Value} {t : TypeId} {fr : Nat × Nat} (hc : w.heap[k]? = some (.cells cs t fr)) (ht : t ≠ 75) : ∀ j, v.ownBlock = some j → j ≠ k := by
  intro j hj e
  subst e
  exact ht (h.typ j hj hc)
/-- append of one vote that lies in a block to a row of the call's own. -/
theorem run_append_pr (w : World) (base : Nat) (ty : TypeId) (v : Value) (L : List Rw) (hown : POwn base w v L) (b : Nat) (x : Rw) (hb : w.heap[b]? = some (.cells #[.int .i64 x.s, .int .u64 x.b, .int .u64 x.k, .int .i64 x.ch, .int .u64 x.ep] 75 (0, 0))) (hl : L.length ≤ 100000) (hbase : base ≤ w.heap.size) :
    ∃ a' c' w', (Builtin.append_ #[83, 83] ty #[v, .slice (some ⟨b, 0, none⟩) 1 1]).run Try.prog w = .ok (.slice a' (L.length + 1) c') w' ∧ POwn base w' (.slice a' (L.length + 1) c') (L ++ [x]) ∧ w.grownBy w' v.ownBlock ∧ ((Value.slice a' (L.length + 1) c').ownBlock = v.ownBlock ∨ (Value.slice a' (L.length + 1) c').ownBlock = some w.heap.size) := by
  obtain ⟨i0, hi, hz0, hz1, hz2⟩ := info_parts Try.info75
  obtain ⟨v', w', hrun, h2, h3, _, h5⟩ := run_append_own_at (P := Try.prog) w base 83 ty 75 i0 _ 5 40 Try.underlying83 hi hz0 hz1 hz2 rfl (by decide) v L.length _ hown ⟨b, 0, none⟩ 1 1 (rcel [x]) (by simp [rcel, rcs]) (World.news_of_block hb) (by
    intro y hy
    simp only [rcel, rcs, List.flatMap_cons, List.flatMap_nil, List.append_nil, List.mem_cons, List.not_mem_nil, or_false] at hy
    rcases hy with rfl | rfl | rfl | rfl | rfl <;> rfl) (by unfold maxLen; omega) (by omega) hbase
  have h2' : POwn base w' v' (L ++ [x]) := by
    unfold POwn
    rw [rcel_app, List.length_append]
    exact h2
  obtain ⟨a', c', e⟩ := h2'.form
  rw [List.length_append] at e
  have e : v' = .slice a' (L.length + 1) c' := e
  subst e
  exact ⟨a', c', w', hrun, h2', h3, h5⟩
theorem wpList_append_pr (w : World) {ops : Array Oper} {rest : List Oper} {o : Oper} {a : Act} {Q : Exit → Act → World → Prop} (hgd : o.guard = none) (s x : Operand)
    (ho : o.op = .call { callee := .builtin .append, args := #[s, x], argTypes := #[83, 83] })
    (base : Nat) (v : Value) (L : List Rw) (hs : a.eval s = v) (hown : POwn base w v L) (b : Nat) (y : Rw) (hx : a.eval x = .slice (some ⟨b, 0, none⟩) 1 1) (hb : w.heap[b]? = some (.cells #[.int .i64 y.s, .int .u64 y.b, .int .u64 y.k, .int .i64 y.ch, .int .u64 y.ep] 75 (0, 0))) (hl : L.length ≤ 100000) (hbase : base ≤ w.heap.size)
    (h : ∀ a' c' w', POwn base w' (.slice a' (L.length + 1) c') (L ++ [y]) → w.grownBy w' v.ownBlock → ((Value.slice a' (L.length + 1) c').ownBlock = v.ownBlock ∨ (Value.slice a' (L.length + 1) c').ownBlock = some w.heap.size) → wpList Try.prog ops Q rest (a.put o.dst (.slice a' (L.length + 1) c')) w') : wpList Try.prog ops Q (o :: rest) a w :=
  wpList_plain hgd fun K hK => by
    obtain ⟨a', c', w', hrun, h2, h3, h4⟩ := run_append_pr w base o.type v L hown b y hb hl hbase
    unfold Oper.wp execOp
    simp only [ho, resolve, invoke, builtin, Sem.run_bind, Sem.run_pure, Result.andThen_ok, List.map_toArray, List.map_cons, List.map_nil, hs, hx, hrun]
    exact hK _ _ (h a' c' w' h2 h3 h4)

/-- A row's cells. -/
theorem POwn.cells {B : Nat} {w : World} {v : Value} {L : List Rw} (h : POwn B w v L) (j : Nat) (hj : j < L.length) :
    ∃ r c, v = .slice (some ⟨r, 0, none⟩) L.length c ∧ r < w.heap.size ∧ w.cell? ⟨r, j * 5, none⟩ = some (.int .i64 L[j].s) ∧ w.cell? ⟨r, j * 5 + 1, none⟩ = some (.int .u64 L[j].b) ∧ w.cell? ⟨r, j * 5 + 2, none⟩ = some (.int .u64 L[j].k) ∧
      w.cell? ⟨r, j * 5 + 3, none⟩ = some (.int .i64 L[j].ch) ∧ w.cell? ⟨r, j * 5 + 4, none⟩ = some (.int .u64 L[j].ep) := by
  obtain ⟨r, cap, rfl, hB, hlt⟩ := World.ownsRow.form h (by omega)
  have hx : ∀ i, i < 5 → ∀ u, (rcs L[j])[i]? = some u → w.cell? ⟨r, j * 5 + i, none⟩ = some u := fun i hi u hu => by
    have := World.ownsRow.cells h (g := r) rfl (j * 5 + i) u (by rw [rcel_at L j i hj hi]; exact hu)
    have hadd : (⟨r, 0, none⟩ : Addr).add (j * 5 + i) = ⟨r, j * 5 + i, none⟩ := by unfold Addr.add; split <;> simp_all
    rw [← hadd]
    exact this
  exact ⟨r, cap, rfl, hlt, hx 0 (by omega) _ rfl, hx 1 (by omega) _ rfl, hx 2 (by omega) _ rfl, hx 3 (by omega) _ rfl, hx 4 (by omega) _ rfl⟩
/-- A row of the call's own reads so. -/
theorem POwn.rd {B : Nat} {w : World} {v : Value} {L : List Rw} {F : Nat → Prop} (h : POwn B w v L) (hF : ∀ k, v.ownBlock = some k → F k) : RwRd w F v L := by
  rcases h.2 with ⟨rfl, h0⟩ | ⟨r, cap, cur, rfl, hb, hr, hc, hm, _⟩
  · obtain rfl : L = [] := List.eq_nil_of_length_eq_zero h0
    exact RwRd.nil w F
  · refine ⟨_, cap, rfl, hc, hm, (fun h => by cases h), fun _ => ⟨r, 0, rfl, hF r rfl, heap_lt hr, fun j hj => ?_⟩⟩
    obtain ⟨r', c', e, _, e0, e1, e2, e3, e4⟩ := h.cells j hj
    injection e with e
    injection e with e
    injection e with e
    subst e
    simp only [Nat.zero_add]
    exact ⟨e0, e1, e2, e3, e4⟩
/-- append of votes that a slice has to a row of the call's own. -/
theorem run_append_prs (w : World) (base : Nat) (ty : TypeId) (v : Value) (L : List Rw) (hown : POwn base w v L) (x : Value) (M : List Rw) (F : Nat → Prop) (hx : RwRd w F x M) (hl : L.length + M.length ≤ 100000) (hbase : base ≤ w.heap.size) :
    ∃ a' c' w', (Builtin.append_ #[83, 83] ty #[v, x]).run Try.prog w = .ok (.slice a' (L.length + M.length) c') w' ∧ POwn base w' (.slice a' (L.length + M.length) c') (L ++ M) ∧ w.grownBy w' v.ownBlock ∧
      ((Value.slice a' (L.length + M.length) c').ownBlock = v.ownBlock ∨ (Value.slice a' (L.length + M.length) c').ownBlock = some w.heap.size) := by
  obtain ⟨i0, hi, hz0, hz1, hz2⟩ := info_parts Try.info75
  obtain ⟨xa, xc, rfl, h2, h3, h4, h5⟩ := hx
  rcases Nat.eq_zero_or_pos M.length with h0 | h0
  · obtain rfl : M = [] := List.eq_nil_of_length_eq_zero h0
    obtain ⟨a, c, rfl⟩ := hown.form
    cases xa with
    | none =>
      obtain rfl := h4 rfl
      exact ⟨a, c, w, run_append_owned_none w base _ ty _ i0 5 Try.underlying83 hi _ _ _ hown, by simpa using hown, ⟨rfl, rfl, rfl, Nat.le_refl _, fun _ _ _ => rfl⟩, .inl rfl⟩
    | some ad =>
      obtain ⟨v', w', hrun, g2, g3, _, g5⟩ := run_append_own_at (P := Try.prog) w base 83 ty 75 i0 _ 5 40 Try.underlying83 hi hz0 hz1 hz2 rfl (by decide) _ L.length _ hown ad 0 xc [] (by simp) (fun j u hu => by simp at hu) (fun y hy => by cases hy) (by unfold maxLen; omega) (by omega) hbase
      have g2' : POwn base w' v' L := by
        have := g2
        simp only [List.append_nil, Nat.add_zero] at this
        exact this
      obtain ⟨a', c', e⟩ := g2'.form
      subst e
      exact ⟨a', c', w', hrun, by simpa using g2', g3, g5⟩
  · obtain ⟨b, o, rfl, hF, hb, hc⟩ := h5 h0
    have hcell : ∀ j u, (rcel M)[j]? = some u → w.cell? ((⟨b, o, none⟩ : Addr).add j) = some u := by
      intro j u hu
      have hj : j < (rcel M).length := by
        rcases Nat.lt_or_ge j (rcel M).length with h | h
        · exact h
        · rw [List.getElem?_eq_none h] at hu; cases hu
      rw [rcel_len] at hj
      have hjm : j / 5 < M.length := by omega
      have hd : j = j / 5 * 5 + j % 5 := by omega
      rw [hd, rcel_at M (j / 5) (j % 5) hjm (Nat.mod_lt _ (show 0 < 5 by decide))] at hu
      obtain ⟨e0, e1, e2, e3, e4⟩ := hc (j / 5) hjm
      rw [addr_add16, show o + j = o + j / 5 * 5 + j % 5 by omega]
      have hm : j % 5 < 5 := Nat.mod_lt _ (show 0 < 5 by decide)
      generalize j % 5 = i at hu hm ⊢
      match i, hm with
      | 0, _ => simp [rcs] at hu; subst hu; exact e0
      | 1, _ => simp [rcs] at hu; subst hu; exact e1
      | 2, _ => simp [rcs] at hu; subst hu; exact e2
      | 3, _ => simp [rcs] at hu; subst hu; exact e3
      | 4, _ => simp [rcs] at hu; subst hu; exact e4
    obtain ⟨v', w', hrun, g2, g3, _, g5⟩ := run_append_own_at (P := Try.prog) w base 83 ty 75 i0 _ 5 40 Try.underlying83 hi hz0 hz1 hz2 rfl (by decide) v L.length _ hown ⟨b, o, none⟩ M.length xc (rcel M) (rcel_len M) hcell (by
      intro y hy
      unfold rcel at hy
      obtain ⟨z, _, hz⟩ := List.mem_flatMap.1 hy
      simp only [rcs, List.mem_cons, List.not_mem_nil, or_false] at hz
      rcases hz with rfl | rfl | rfl | rfl | rfl <;> rfl) (by unfold maxLen; omega) (by omega) hbase
    have g2' : POwn base w' v' (L ++ M) := by
      unfold POwn
      rw [rcel_app, List.length_append]
      exact g2
    obtain ⟨a', c', e⟩ := g2'.form
    rw [List.length_append] at e
    subst e
    exact ⟨a', c', w', hrun, g2', g3, g5⟩
theorem wpList_append_prs (w : World) {ops : Array Oper} {rest : List Oper} {o : Oper} {a : Act} {Q : Exit → Act → World → Prop} (hgd : o.guard = none) (s x : Operand)
    (ho : o.op = .call { callee := .builtin .append, args := #[s, x], argTypes := #[83, 83] })
    (base : Nat) (v : Value) (L : List Rw) (hs : a.eval s = v) (hown : POwn base w v L) (y : Value) (M : List Rw) (F : Nat → Prop) (hx : a.eval x = y) (hy : RwRd w F y M) (hl : L.length + M.length ≤ 100000) (hbase : base ≤ w.heap.size) (N : Nat) (hN : L.length + M.length = N)
    (h : ∀ a' c' w', POwn base w' (.slice a' N c') (L ++ M) → w.grownBy w' v.ownBlock → ((Value.slice a' N c').ownBlock = v.ownBlock ∨ (Value.slice a' N c').ownBlock = some w.heap.size) → wpList Try.prog ops Q rest (a.put o.dst (.slice a' N c')) w') : wpList Try.prog ops Q (o :: rest) a w :=
  wpList_plain hgd fun K hK => by
    subst hN
    obtain ⟨a', c', w', hrun, h2, h3, h4⟩ := run_append_prs w base o.type v L hown y M F hy hl hbase
    unfold Oper.wp execOp
    simp only [ho, resolve, invoke, builtin, Sem.run_bind, Sem.run_pure, Result.andThen_ok, List.map_toArray, List.map_cons, List.map_nil, hs, hx, hrun]
    exact hK _ _ (h a' c' w' h2 h3 h4)
end Go.Proofs.Ytnmclhgljpcjcaa
