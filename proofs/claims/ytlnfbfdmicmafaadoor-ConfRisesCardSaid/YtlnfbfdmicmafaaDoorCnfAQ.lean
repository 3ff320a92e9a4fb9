/-
  Configurations in a row of the call's own; append to it.
-/
import Derived.Test.YtlnfbfdmicmafaaDoorCnfO
import Derived.Test.YtlnfbfdmicmafaaDoorCnfD
namespace Go.Proofs.YtlnfbfdmicmafaaDoor
open Go.RowKit
set_option linter.unusedVariables false

/-- The cells of configurations, each with its nodes' slice. -/
def kc (ps : List (Cf × Value)) : List Value := ps.flatMap fun p => [.int .i64 p.1.ch, .int .u64 p.1.ep, p.2, .bool p.1.fr, .int .i64 p.1.jn]
theorem kc_app (a b : List (Cf × Value)) : kc (a ++ b) = kc a ++ kc b := by simp [kc]
theorem kc_len (a : List (Cf × Value)) : (kc a).length = a.length * 5 := by
  induction a with
  | nil => rfl
  | cons p a ih =>
    have : kc (p :: a) = [.int .i64 p.1.ch, .int .u64 p.1.ep, p.2, .bool p.1.fr, .int .i64 p.1.jn] ++ kc a := rfl
    rw [this, List.length_append, ih, List.length_cons]
    simp only [List.length_cons, List.length_nil]
    omega
theorem kc_at (a : List (Cf × Value)) (j i : Nat) (hj : j < a.length) (hi : i < 5) : (kc a)[j * 5 + i]? = [Value.int .i64 (a[j]).1.ch, .int .u64 (a[j]).1.ep, (a[j]).2, .bool (a[j]).1.fr, .int .i64 (a[j]).1.jn][i]? := by
  induction a generalizing j with
  | nil => exact absurd hj (by simp)
  | cons p a ih =>
    have e : kc (p :: a) = [.int .i64 p.1.ch, .int .u64 p.1.ep, p.2, .bool p.1.fr, .int .i64 p.1.jn] ++ kc a := rfl
    rw [e]
    cases j with
    | zero =>
      rw [Nat.zero_mul, Nat.zero_add, List.getElem?_append_left (by simpa using hi)]
      rfl
    | succ j =>
      rw [List.getElem?_append_right (by simp only [List.length_cons, List.length_nil]; omega)]
      simp only [List.length_cons, List.length_nil, List.getElem_cons_succ]
      rw [show (j + 1) * 5 + i - (0 + 1 + 1 + 1 + 1 + 1) = j * 5 + i by omega]
      exact ih j (by simpa using hj)
/-- A row of configurations of the call's own, from block B on. -/
def KOwn (B : Nat) (w : World) (v : Value) (ps : List (Cf × Value)) : Prop := w.ownsRow B 26 5 v ps.length (kc ps)
theorem KOwn.nil (B : Nat) (w : World) : KOwn B w (.slice none 0 0) [] := World.ownsRow_nil _ _ _ _
theorem KOwn.form {B : Nat} {w : World} {v : Value} {l : List (Cf × Value)} (h : KOwn B w v l) : ∃ a c, v = .slice a l.length c := by
  rcases h.2 with ⟨rfl, h0⟩ | ⟨r, cap, cur, rfl, _⟩
  · exact ⟨none, 0, by rw [h0]⟩
  · exact ⟨_, _, rfl⟩
theorem KOwn.kept {S : Nat → Prop} {B : Nat} {w w' : World} {v : Value} {l : List (Cf × Value)} (h : KOwn B w v l) (hk : Kept S w w') (hs : ∀ k, v.ownBlock = some k → ¬ S k) : KOwn B w' v l := by
  refine ⟨h.1, ?_⟩
  rcases h.2 with hn | ⟨r, cap, cur, rfl, hb, hr, rest⟩
  · exact .inl hn
  · exact .inr ⟨r, cap, cur, rfl, hb, hk.heap (hs r rfl) hr, rest⟩
/-- It reads as the configurations. -/
theorem KOwn.cfs {B : Nat} {w : World} {v : Value} {ps : List (Cf × Value)} {F : Nat → Prop} (h : KOwn B w v ps) (hF : ∀ k, v.ownBlock = some k → F k)
    (hn : ∀ p ∈ ps, NSl w F p.2 p.1.ns ∧ 0 ≤ p.1.ep ∧ p.1.ep ≤ topE ∧ p.1.ns.length ≤ 1000) : CfsAt w F v (ps.map Prod.fst) := by
  have hl : (ps.map Prod.fst).length = ps.length := List.length_map _
  rcases h.2 with ⟨rfl, h0⟩ | ⟨r, cap, cur, rfl, hb, hr, hc, hm, _⟩
  · obtain rfl : ps = [] := List.eq_nil_of_length_eq_zero h0
    exact CfsAt.nil w F
  · refine ⟨_, cap, by rw [hl], by rw [hl]; exact hc, hm, (fun h => by cases h), fun _ => ⟨r, 0, rfl, hF r rfl, heap_lt hr, fun j hj => ?_⟩⟩
    rw [hl] at hj
    have hx : ∀ i, i < 5 → ∀ u, [Value.int .i64 (ps[j]).1.ch, .int .u64 (ps[j]).1.ep, (ps[j]).2, .bool (ps[j]).1.fr, .int .i64 (ps[j]).1.jn][i]? = some u → w.cell? ⟨r, 0 + j * 5 + i, none⟩ = some u := fun i hi u hu => by
      have := h.cells (g := r) rfl (j * 5 + i) u (by rw [kc_at ps j i hj hi]; exact hu)
      have hadd : (⟨r, 0, none⟩ : Addr).add (j * 5 + i) = ⟨r, 0 + j * 5 + i, none⟩ := by unfold Addr.add; split <;> simp_all
      rw [← hadd]
      exact this
    have hnj : nthC (ps.map Prod.fst) j = (ps[j]).1 := by rw [nthC_at (by rw [hl]; exact hj)]; simp
    rw [hnj]
    exact ⟨(ps[j]).2, hx 0 (by omega) _ rfl, hx 1 (by omega) _ rfl, hx 2 (by omega) _ rfl, hx 3 (by omega) _ rfl, hx 4 (by omega) _ rfl, hn _ (List.getElem_mem hj)⟩
/-- append of one configuration that lies in a block to a row of the call's own. -/
theorem run_append_kc (w : World) (base : Nat) (ty : TypeId) (v : Value) (ps : List (Cf × Value)) (hown : KOwn base w v ps) (b : Nat) (c : Cf) (u : Value) (hb : w.heap[b]? = some (.cells #[.int .i64 c.ch, .int .u64 c.ep, u, .bool c.fr, .int .i64 c.jn] 26 (0, 0))) (hu : u.oneCell' = true) (hl : ps.length ≤ 100000) (hbase : base ≤ w.heap.size) :
    ∃ a' c' w', (Builtin.append_ #[22, 22] ty #[v, .slice (some ⟨b, 0, none⟩) 1 1]).run Tryd.prog w = .ok (.slice a' (ps.length + 1) c') w' ∧ KOwn base w' (.slice a' (ps.length + 1) c') (ps ++ [(c, u)]) ∧ w.grownBy w' v.ownBlock ∧ ((Value.slice a' (ps.length + 1) c').ownBlock = v.ownBlock ∨ (Value.slice a' (ps.length + 1) c').ownBlock = some w.heap.size) := by
  obtain ⟨i0, hi, hz0, hz1, hz2⟩ := info_parts conf_zero
  obtain ⟨v', w', hrun, h2, h3, _, h5⟩ := run_append_own_at (P := Tryd.prog) w base 22 ty 26 i0 _ 5 56 Tryd.underlying22 hi hz0 hz1 hz2 rfl (by decide) v ps.length _ hown ⟨b, 0, none⟩ 1 1 (kc [(c, u)]) (by simp [kc]) (World.news_of_block hb) (by
    intro x hx
    simp only [kc, List.flatMap_cons, List.flatMap_nil, List.append_nil, List.mem_cons, List.not_mem_nil, or_false] at hx
    rcases hx with rfl | rfl | rfl | rfl | rfl
    · rfl
    · rfl
    · exact hu
    · rfl
    · rfl) (by unfold maxLen; omega) (by omega) hbase
  have h2' : KOwn base w' v' (ps ++ [(c, u)]) := by
    unfold KOwn
    rw [kc_app, List.length_append]
    exact h2
  obtain ⟨a', c', e⟩ := h2'.form
  rw [List.length_append] at e
  have e : v' = .slice a' (ps.length + 1) c' := e
  subst e
  exact ⟨a', c', w', hrun, h2', h3, h5⟩
theorem wpList_append_kc (w : World) {ops : Array Oper} {rest : List Oper} {o : Oper} {a : Act} {Q : Exit → Act → World → Prop} (hgd : o.guard = none) (s x : Operand)
    (ho : o.op = .call { callee := .builtin .append, args := #[s, x], argTypes := #[22, 22] })
    (base : Nat) (v : Value) (ps : List (Cf × Value)) (hs : a.eval s = v) (hown : KOwn base w v ps) (b : Nat) (c : Cf) (u : Value) (hx : a.eval x = .slice (some ⟨b, 0, none⟩) 1 1) (hb : w.heap[b]? = some (.cells #[.int .i64 c.ch, .int .u64 c.ep, u, .bool c.fr, .int .i64 c.jn] 26 (0, 0))) (hu : u.oneCell' = true) (hl : ps.length ≤ 100000) (hbase : base ≤ w.heap.size)
    (h : ∀ a' c' w', KOwn base w' (.slice a' (ps.length + 1) c') (ps ++ [(c, u)]) → w.grownBy w' v.ownBlock → ((Value.slice a' (ps.length + 1) c').ownBlock = v.ownBlock ∨ (Value.slice a' (ps.length + 1) c').ownBlock = some w.heap.size) → wpList Tryd.prog ops Q rest (a.put o.dst (.slice a' (ps.length + 1) c')) w') : wpList Tryd.prog ops Q (o :: rest) a w :=
  wpList_plain hgd fun K hK => by
    obtain ⟨a', c', w', hrun, h2, h3, h4⟩ := run_append_kc w base o.type v ps hown b c u hb hu hl hbase
    unfold Oper.wp execOp
    simp only [ho, resolve, invoke, builtin, Sem.run_bind, Sem.run_pure, Result.andThen_ok, List.map_toArray, List.map_cons, List.map_nil, hs, hx, hrun]
    exact hK _ _ (h a' c' w' h2 h3 h4)
end Go.Proofs.YtlnfbfdmicmafaaDoor
