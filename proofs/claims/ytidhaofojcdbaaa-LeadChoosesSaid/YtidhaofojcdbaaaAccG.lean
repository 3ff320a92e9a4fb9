/-
  Votes in a slice, read; the chapter's At and From; whether two slices are the same.
-/
import Derived.Test.YtidhaofojcdbaaaAccP
namespace Go.Proofs.Ytidhaofojcdbaaa
open Go.RowKit
set_option linter.unusedVariables false

theorem addr_add11 (b o j : Nat) : (⟨b, o, none⟩ : Addr).add j = ⟨b, o + j, none⟩ := by unfold Addr.add; split <;> simp_all
/-- Six cells that are a vote. -/
def VtAt (w : World) (b o : Nat) (v : Vt) : Prop :=
  w.cell? ⟨b, o, none⟩ = some (.int .i64 v.s) ∧ w.cell? ⟨b, o + 1, none⟩ = some (.int .u64 v.b) ∧ w.cell? ⟨b, o + 2, none⟩ = some (.int .i64 v.k) ∧ w.cell? ⟨b, o + 3, none⟩ = some (.int .i64 v.ch) ∧ w.cell? ⟨b, o + 4, none⟩ = some (.int .u64 v.ep) ∧ w.cell? ⟨b, o + 5, none⟩ = some (.int .i64 v.nd)
theorem VtAt.kept {S : Nat → Prop} {w w' : World} {b o : Nat} {v : Vt} (h : VtAt w b o v) (hk : Kept S w w') (hs : ¬ S b) : VtAt w' b o v :=
  ⟨hk.cell (p := ⟨b, o, none⟩) hs h.1, hk.cell (p := ⟨b, o + 1, none⟩) hs h.2.1, hk.cell (p := ⟨b, o + 2, none⟩) hs h.2.2.1, hk.cell (p := ⟨b, o + 3, none⟩) hs h.2.2.2.1, hk.cell (p := ⟨b, o + 4, none⟩) hs h.2.2.2.2.1, hk.cell (p := ⟨b, o + 5, none⟩) hs h.2.2.2.2.2⟩
/-- The value is a slice that reads as these votes, in a block of F. -/
def VRd (w : World) (F : Nat → Prop) (v : Value) (L : List Vt) : Prop :=
  ∃ a c, v = .slice a L.length c ∧ L.length ≤ c ∧ c ≤ maxLen ∧ (a = none → c = 0) ∧ (0 < L.length → ∃ b o, a = some ⟨b, o, none⟩ ∧ F b ∧ b < w.heap.size ∧ ∀ j (hj : j < L.length), VtAt w b (o + j * 6) L[j])
theorem VRd.nil (w : World) (F : Nat → Prop) : VRd w F (.slice none 0 0) [] := ⟨none, 0, rfl, Nat.le_refl _, Nat.zero_le _, fun _ => rfl, fun h => absurd h (by simp)⟩
theorem VRd.form {w : World} {F : Nat → Prop} {v : Value} {L : List Vt} (h : VRd w F v L) : ∃ a c, v = .slice a L.length c := by
  obtain ⟨a, c, h, _⟩ := h
  exact ⟨a, c, h⟩
theorem VRd.kept {S F : Nat → Prop} {w w' : World} {v : Value} {L : List Vt} (h : VRd w F v L) (hk : Kept S w w') (hs : ∀ k, F k → ¬ S k) : VRd w' F v L := by
  obtain ⟨a, c, h1, h2, h3, h4, h5⟩ := h
  exact ⟨a, c, h1, h2, h3, h4, fun hp => by
    obtain ⟨b, o, e, hF, hb, hc⟩ := h5 hp
    exact ⟨b, o, e, hF, Nat.lt_of_lt_of_le hb hk.size, fun j hj => (hc j hj).kept hk (hs b hF)⟩⟩
theorem VRd.no {F : Nat → Prop} {w w' : World} {v : Value} {L : List Vt} (h : VRd w F v L) (hk : Kept NoB w w') : VRd w' F v L := h.kept hk (fun _ _ h => h)
theorem VRd.mono {F G : Nat → Prop} {w : World} {v : Value} {L : List Vt} (h : VRd w F v L) (hG : ∀ k, k < w.heap.size → F k → G k) : VRd w G v L := by
  obtain ⟨a, c, h1, h2, h3, h4, h5⟩ := h
  exact ⟨a, c, h1, h2, h3, h4, fun hp => by
    obtain ⟨b, o, e, hF, hb, hc⟩ := h5 hp
    exact ⟨b, o, e, hG b hb hF, hb, hc⟩⟩
theorem VRd.len {F : Nat → Prop} {w : World} {v : Value} {L : List Vt} (h : VRd w F v L) : L.length ≤ 9223372036854775807 := by
  obtain ⟨a, c, h1, h2, h3, _⟩ := h
  unfold maxLen at h3
  omega
/-- A row of the call's own reads so. -/
theorem VOwn.rd {B : Nat} {w : World} {v : Value} {L : List Vt} {F : Nat → Prop} (h : VOwn B w v L) (hF : ∀ k, v.ownBlock = some k → F k) : VRd w F v L := by
  rcases h.2 with ⟨rfl, h0⟩ | ⟨r, cap, cur, rfl, hb, hr, hc, hm, _⟩
  · obtain rfl : L = [] := List.eq_nil_of_length_eq_zero h0
    exact VRd.nil w F
  · refine ⟨_, cap, rfl, hc, hm, (fun h => by cases h), fun _ => ⟨r, 0, rfl, hF r rfl, heap_lt hr, fun j hj => ?_⟩⟩
    obtain ⟨r', c', e, _, e0, e1, e2, e3, e4, e5⟩ := h.cells j hj
    injection e with e
    injection e with e
    injection e with e
    subst e
    simp only [Nat.zero_add]
    exact ⟨e0, e1, e2, e3, e4, e5⟩
/-- append of votes that a slice has to a row of the call's own. -/
theorem run_append_vts (w : World) (base : Nat) (ty : TypeId) (v : Value) (L : List Vt) (hown : VOwn base w v L) (x : Value) (M : List Vt) (F : Nat → Prop) (hx : VRd w F x M) (hl : L.length + M.length ≤ 100000) (hbase : base ≤ w.heap.size) :
    ∃ a' c' w', (Builtin.append_ #[28, 28] ty #[v, x]).run Try.prog w = .ok (.slice a' (L.length + M.length) c') w' ∧ VOwn base w' (.slice a' (L.length + M.length) c') (L ++ M) ∧ w.grownBy w' v.ownBlock ∧
      ((Value.slice a' (L.length + M.length) c').ownBlock = v.ownBlock ∨ (Value.slice a' (L.length + M.length) c').ownBlock = some w.heap.size) := by
  obtain ⟨i0, hi, hz0, hz1, hz2⟩ := info_parts Try.info48
  obtain ⟨xa, xc, rfl, h2, h3, h4, h5⟩ := hx
  rcases Nat.eq_zero_or_pos M.length with h0 | h0
  · obtain rfl : M = [] := List.eq_nil_of_length_eq_zero h0
    obtain ⟨a, c, rfl⟩ := hown.form
    cases xa with
    | none =>
      obtain rfl := h4 rfl
      exact ⟨a, c, w, run_append_owned_none w base _ ty _ i0 6 Try.underlying28 hi _ _ _ hown, by simpa using hown, ⟨rfl, rfl, rfl, Nat.le_refl _, fun _ _ _ => rfl⟩, .inl rfl⟩
    | some ad =>
      obtain ⟨v', w', hrun, g2, g3, _, g5⟩ := run_append_own_at (P := Try.prog) w base 28 ty 48 i0 _ 6 48 Try.underlying28 hi hz0 hz1 hz2 rfl (by decide) _ L.length _ hown ad 0 xc [] (by simp) (fun j u hu => by simp at hu) (fun y hy => by cases hy) (by unfold maxLen; omega) (by omega) hbase
      have g2' : VOwn base w' v' L := by
        have := g2
        simp only [List.append_nil, Nat.add_zero] at this
        exact this
      obtain ⟨a', c', e⟩ := g2'.form
      subst e
      exact ⟨a', c', w', hrun, by simpa using g2', g3, g5⟩
  · obtain ⟨b, o, rfl, hF, hb, hc⟩ := h5 h0
    have hcell : ∀ j u, (vcel M)[j]? = some u → w.cell? ((⟨b, o, none⟩ : Addr).add j) = some u := by
      intro j u hu
      have hj : j < (vcel M).length := by
        rcases Nat.lt_or_ge j (vcel M).length with h | h
        · exact h
        · rw [List.getElem?_eq_none h] at hu; cases hu
      rw [vcel_len] at hj
      have hjm : j / 6 < M.length := by omega
      have hd : j = j / 6 * 6 + j % 6 := by omega
      rw [hd, vcel_at M (j / 6) (j % 6) hjm (Nat.mod_lt _ (by decide))] at hu
      obtain ⟨e0, e1, e2, e3, e4, e5⟩ := hc (j / 6) hjm
      rw [addr_add11, show o + j = o + j / 6 * 6 + j % 6 by omega]
      have hm : j % 6 < 6 := Nat.mod_lt _ (by decide)
      generalize j % 6 = i at hu hm ⊢
      match i, hm with
      | 0, _ => simp [vcs] at hu; subst hu; exact e0
      | 1, _ => simp [vcs] at hu; subst hu; exact e1
      | 2, _ => simp [vcs] at hu; subst hu; exact e2
      | 3, _ => simp [vcs] at hu; subst hu; exact e3
      | 4, _ => simp [vcs] at hu; subst hu; exact e4
      | 5, _ => simp [vcs] at hu; subst hu; exact e5
    obtain ⟨v', w', hrun, g2, g3, _, g5⟩ := run_append_own_at (P := Try.prog) w base 28 ty 48 i0 _ 6 48 Try.underlying28 hi hz0 hz1 hz2 rfl (by decide) v L.length _ hown ⟨b, o, none⟩ M.length xc (vcel M) (vcel_len M) hcell (by
      intro y hy
      unfold vcel at hy
      obtain ⟨z, _, hz⟩ := List.mem_flatMap.1 hy
      simp only [vcs, List.mem_cons, List.not_mem_nil, or_false] at hz
      rcases hz with rfl | rfl | rfl | rfl | rfl | rfl <;> rfl) (by unfold maxLen; omega) (by omega) hbase
    have g2' : VOwn base w' v' (L ++ M) := by
      unfold VOwn
      rw [vcel_app, List.length_append]
      exact g2
    obtain ⟨a', c', e⟩ := g2'.form
    rw [List.length_append] at e
    subst e
    exact ⟨a', c', w', hrun, g2', g3, g5⟩
theorem wpList_append_vts (w : World) {ops : Array Oper} {rest : List Oper} {o : Oper} {a : Act} {Q : Exit → Act → World → Prop} (hgd : o.guard = none) (s x : Operand)
    (ho : o.op = .call { callee := .builtin .append, args := #[s, x], argTypes := #[28, 28] })
    (base : Nat) (v : Value) (L : List Vt) (hs : a.eval s = v) (hown : VOwn base w v L) (y : Value) (M : List Vt) (F : Nat → Prop) (hx : a.eval x = y) (hy : VRd w F y M) (hl : L.length + M.length ≤ 100000) (hbase : base ≤ w.heap.size) (N : Nat) (hN : L.length + M.length = N)
    (h : ∀ a' c' w', VOwn base w' (.slice a' N c') (L ++ M) → w.grownBy w' v.ownBlock → ((Value.slice a' N c').ownBlock = v.ownBlock ∨ (Value.slice a' N c').ownBlock = some w.heap.size) → wpList Try.prog ops Q rest (a.put o.dst (.slice a' N c')) w') : wpList Try.prog ops Q (o :: rest) a w :=
  wpList_plain hgd fun K hK => by
    subst hN
    obtain ⟨a', c', w', hrun, h2, h3, h4⟩ := run_append_vts w base o.type v L hown y M F hy hl hbase
    unfold Oper.wp execOp
    simp only [ho, resolve, invoke, builtin, Sem.run_bind, Sem.run_pure, Result.andThen_ok, List.map_toArray, List.map_cons, List.map_nil, hs, hx, hrun]
    exact hK _ _ (h a' c' w' h2 h3 h4)
/-- A slice from its i-th vote on. -/
theorem VRd.drop {F : Nat → Prop} {w : World} {a : Option Addr} {c : Nat} {L : List Vt} (h : VRd w F (.slice a L.length c) L) (i : Nat) (hi : i ≤ L.length) :
    VRd w F (.slice (if c = i then a else a.map (·.add (i * 6))) (L.length - i) (c - i)) (L.drop i) := by
  obtain ⟨a', c', e, h2, h3, h4, h5⟩ := h
  injection e with e1 e2 e3
  subst e1 e3
  have hl : (L.drop i).length = L.length - i := List.length_drop
  refine ⟨_, c - i, by rw [hl], by rw [hl]; omega, by omega, fun hn => ?_, fun hp => ?_⟩
  · split at hn
    · have := h4 hn; omega
    · cases a with
      | none => have := h4 rfl; omega
      | some ad => cases hn
  · rw [hl] at hp
    obtain ⟨b, o, rfl, hF, hb, hc⟩ := h5 (by omega)
    rw [if_neg (by omega)]
    refine ⟨b, o + i * 6, by simp [addr_add11], hF, hb, fun j hj => ?_⟩
    rw [hl] at hj
    have := hc (i + j) (by omega)
    rw [List.getElem_drop, show o + i * 6 + j * 6 = o + (i + j) * 6 by omega]
    exact this
end Go.Proofs.Ytidhaofojcdbaaa
