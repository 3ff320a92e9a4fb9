/-
  Votes by slots: plain lists; a map from numbers to structs, as a plain list of its entries.
-/
import Derived.Test.YtidhaofojcdbaaaBase
import Derived.Maps.OwnSet
import Derived.WalkKit
import Derived.RegionTactic
import Derived.Lib.Hide
namespace Go.Proofs.Ytidhaofojcdbaaa
open Go.RowKit
set_option linter.unusedVariables false

/-- A vote: its slot, its ballot, its command's four numbers. -/
structure Vt where
  s : Int
  b : Int
  k : Int
  ch : Int
  ep : Int
  nd : Int
def vt0 : Vt := ⟨0, 0, 0, 0, 0, 0⟩
/-- A vote as a value, and as its cells. -/
def vvv (v : Vt) : Value := .agg #[.int .i64 v.s, .int .u64 v.b, .int .i64 v.k, .int .i64 v.ch, .int .u64 v.ep, .int .i64 v.nd]
def vcs (v : Vt) : List Value := [.int .i64 v.s, .int .u64 v.b, .int .i64 v.k, .int .i64 v.ch, .int .u64 v.ep, .int .i64 v.nd]
def vcel (L : List Vt) : List Value := L.flatMap vcs
/-- Its command as a value. -/
def vcv (v : Vt) : Value := .agg #[.int .i64 v.k, .int .i64 v.ch, .int .u64 v.ep, .int .i64 v.nd]
theorem vcel_app (a b : List Vt) : vcel (a ++ b) = vcel a ++ vcel b := by simp [vcel]
theorem vcel_len (L : List Vt) : (vcel L).length = L.length * 6 := by
  induction L with
  | nil => rfl
  | cons v L ih =>
    have : vcel (v :: L) = vcs v ++ vcel L := rfl
    rw [this, List.length_append, ih, List.length_cons]
    simp only [vcs, List.length_cons, List.length_nil]
    omega
theorem vcel_at (L : List Vt) (j i : Nat) (hj : j < L.length) (hi : i < 6) : (vcel L)[j * 6 + i]? = (vcs L[j])[i]? := by
  induction L generalizing j with
  | nil => exact absurd hj (by simp)
  | cons v L ih =>
    have e : vcel (v :: L) = vcs v ++ vcel L := rfl
    have hl : (vcs v).length = 6 := rfl
    rw [e]
    cases j with
    | zero =>
      rw [Nat.zero_mul, Nat.zero_add, List.getElem?_append_left (by rw [hl]; exact hi)]
      rfl
    | succ j =>
      rw [List.getElem?_append_right (by rw [hl]; omega), hl, List.getElem_cons_succ, show (j + 1) * 6 + i - 6 = j * 6 + i by omega]
      exact ih j (by simpa using hj)
/-- Votes by rising slots. -/
def Srt (L : List Vt) : Prop := L.Pairwise (fun x y => x.s < y.s)
def atV (L : List Vt) (s : Int) : Option Vt := L.find? (fun v => v.s == s)
def fromV (L : List Vt) (f : Int) : List Vt := L.filter (fun v => decide (f ≤ v.s))
def putV : List Vt → Vt → List Vt
  | [], v => [v]
  | x :: r, v => if x.s < v.s then x :: putV r v else if x.s = v.s then v :: r else v :: x :: r
theorem putV_mem {L : List Vt} {v x : Vt} (h : x ∈ putV L v) : x = v ∨ x ∈ L := by
  induction L with
  | nil => simp [putV] at h; exact .inl h
  | cons y r ih =>
    unfold putV at h
    split at h
    · rcases List.mem_cons.1 h with rfl | h
      · exact .inr (by simp)
      · rcases ih h with h | h
        · exact .inl h
        · exact .inr (by simp [h])
    · split at h
      · rcases List.mem_cons.1 h with rfl | h
        · exact .inl rfl
        · exact .inr (by simp [h])
      · rcases List.mem_cons.1 h with rfl | h
        · exact .inl rfl
        · exact .inr h
theorem putV_srt {L : List Vt} (v : Vt) (h : Srt L) : Srt (putV L v) := by
  induction L with
  | nil => exact List.pairwise_singleton _ _
  | cons y r ih =>
    obtain ⟨h1, h2⟩ := List.pairwise_cons.1 h
    unfold putV
    split
    · rename_i hlt
      refine List.pairwise_cons.2 ⟨fun z hz => ?_, ih h2⟩
      rcases putV_mem hz with rfl | hz
      · exact hlt
      · exact h1 z hz
    · split
      · rename_i he
        exact List.pairwise_cons.2 ⟨fun z hz => by have := h1 z hz; omega, h2⟩
      · exact List.pairwise_cons.2 ⟨fun z hz => by
          rcases List.mem_cons.1 hz with rfl | hz
          · omega
          · have := h1 z hz; omega, h⟩
theorem putV_len {L : List Vt} (v : Vt) : (putV L v).length ≤ L.length + 1 ∧ L.length ≤ (putV L v).length := by
  induction L with
  | nil => simp [putV]
  | cons y r ih =>
    unfold putV
    split
    · simp only [List.length_cons]; omega
    · split <;> simp
theorem atV_cons (x : Vt) (r : List Vt) (s : Int) : atV (x :: r) s = if x.s = s then some x else atV r s := by
  unfold atV
  rw [List.find?_cons]
  by_cases h : x.s = s
  · rw [if_pos h]; simp [h]
  · rw [if_neg h]
    have : (x.s == s) = false := by simpa using h
    rw [this]
theorem atV_slot {L : List Vt} {s : Int} {v : Vt} (h : atV L s = some v) : v.s = s ∧ v ∈ L := by
  have h1 := List.find?_some h
  exact ⟨by simpa using h1, List.mem_of_find?_eq_some h⟩
theorem atV_none {L : List Vt} {s : Int} (h : ∀ v ∈ L, v.s ≠ s) : atV L s = none := by
  unfold atV
  rw [List.find?_eq_none]
  intro v hv
  simpa using h v hv
theorem atV_mem {L : List Vt} {v : Vt} (hs : Srt L) (h : v ∈ L) : atV L v.s = some v := by
  induction L with
  | nil => cases h
  | cons x r ih =>
    obtain ⟨h1, h2⟩ := List.pairwise_cons.1 hs
    rw [atV_cons]
    rcases List.mem_cons.1 h with rfl | h
    · rw [if_pos rfl]
    · have := h1 v h
      rw [if_neg (by omega)]
      exact ih h2 h
theorem atV_put_same {L : List Vt} (v : Vt) : atV (putV L v) v.s = some v := by
  induction L with
  | nil => simp [putV, atV]
  | cons x r ih =>
    unfold putV
    split
    · rw [atV_cons, if_neg (by omega)]; exact ih
    · split <;> rw [atV_cons, if_pos rfl]
theorem atV_put_other {L : List Vt} (v : Vt) {s : Int} (hs : s ≠ v.s) : atV (putV L v) s = atV L s := by
  induction L with
  | nil => simp only [putV]; rw [atV_cons, if_neg (by omega)]
  | cons x r ih =>
    unfold putV
    split
    · rw [atV_cons, atV_cons, ih]
    · split
      · rename_i h
        rw [atV_cons, atV_cons, if_neg (by omega), if_neg (by omega)]
      · rw [atV_cons, if_neg (by omega)]

/-! ### the map's datum -/
def ent (f : Vt → Value) (v : Vt) : Lit × DataW Value := (.int .i64 v.s, .held (f v))
def datV (f : Vt → Value) (L : List Vt) : DataW Value := .map (L.map (ent f))
theorem same_i64 (a b : Int) : (Lit.int .i64 a).sameKey (.int .i64 b) = decide (a = b) := by simp [Lit.sameKey]
theorem before_i64 (a b : Int) : (Lit.int .i64 a).before (.int .i64 b) = decide (a < b) := by simp [Lit.before]
theorem filter_high (f : Vt → Value) (r : List Vt) (s : Int) (h : ∀ z ∈ r, s < z.s) : (r.map (ent f)).filter (fun p => !p.1.sameKey (.int .i64 s)) = r.map (ent f) := by
  rw [List.filter_eq_self]
  intro p hp
  obtain ⟨z, hz, rfl⟩ := List.mem_map.1 hp
  have := h z hz
  show (!(Lit.int .i64 z.s).sameKey (.int .i64 s)) = true
  rw [same_i64]
  simp
  omega
theorem insert_low (f : Vt → Value) (r : List Vt) (v : Vt) (h : ∀ z ∈ r, v.s < z.s) : DataW.insert (ent f v) (r.map (ent f)) = (v :: r).map (ent f) := by
  cases r with
  | nil => rfl
  | cons y r =>
    show (if (Lit.int .i64 v.s).before (.int .i64 y.s) then ent f v :: ent f y :: r.map (ent f) else _) = _
    rw [before_i64, if_pos (by simpa using h y (by simp))]
    rfl
theorem datV_put (f : Vt → Value) {L : List Vt} (v : Vt) (h : Srt L) : (datV f L).put (.int .i64 v.s) (.held (f v)) = datV f (putV L v) := by
  show DataW.map (DataW.insert (ent f v) ((L.map (ent f)).filter fun p => !p.1.sameKey (.int .i64 v.s))) = .map ((putV L v).map (ent f))
  congr 1
  induction L with
  | nil => rfl
  | cons x r ih =>
    obtain ⟨h1, h2⟩ := List.pairwise_cons.1 h
    rw [List.map_cons, List.filter_cons]
    have e : (ent f x).1.sameKey (.int .i64 v.s) = decide (x.s = v.s) := same_i64 _ _
    rw [e]
    unfold putV
    by_cases hlt : x.s < v.s
    · rw [if_pos hlt, decide_eq_false (by omega), if_pos (show (!false) = true from rfl)]
      show (if (Lit.int .i64 v.s).before (.int .i64 x.s) then _ else ent f x :: DataW.insert (ent f v) _) = _
      rw [before_i64, decide_eq_false (by omega), ih h2]
      rfl
    · rw [if_neg hlt]
      by_cases he : x.s = v.s
      · rw [if_pos he, decide_eq_true he, if_neg (by simp), filter_high f r v.s (fun z hz => by have := h1 z hz; omega)]
        exact insert_low f r v (fun z hz => by have := h1 z hz; omega)
      · rw [if_neg he, decide_eq_false he, if_pos (show (!false) = true from rfl), filter_high f r v.s (fun z hz => by have := h1 z hz; omega)]
        exact insert_low f (x :: r) v (fun z hz => by
          rcases List.mem_cons.1 hz with rfl | hz
          · omega
          · have := h1 z hz; omega)
theorem datV_find (f : Vt → Value) (L : List Vt) (s : Int) : (L.map (ent f)).find? (fun p => p.1.sameKey (.int .i64 s)) = (atV L s).map (ent f) := by
  induction L with
  | nil => rfl
  | cons x r ih =>
    rw [List.map_cons, List.find?_cons, atV_cons]
    have e : (ent f x).1.sameKey (.int .i64 s) = decide (x.s = s) := same_i64 _ _
    rw [e]
    by_cases h : x.s = s
    · rw [decide_eq_true h, if_pos h]; rfl
    · rw [decide_eq_false h, if_neg h]; exact ih
theorem datV_at (f : Vt → Value) (L : List Vt) (s : Int) (z : Value) : (datV f L).atKey (.int .i64 s) (.held z) = .held (((atV L s).map f).getD z) := by
  unfold datV DataW.atKey
  simp only [datV_find]
  cases atV L s <;> rfl
theorem datV_has (f : Vt → Value) (L : List Vt) (s : Int) : Maps.has (datV f L) (.int .i64 s) = (atV L s).isSome := by
  have h := datV_find f L s
  show (L.map (ent f)).any (fun p => p.1.sameKey (.int .i64 s)) = _
  have e : ∀ l : List (Lit × DataW Value), l.any (fun p => p.1.sameKey (.int .i64 s)) = (l.find? (fun p => p.1.sameKey (.int .i64 s))).isSome := by
    intro l
    induction l with
    | nil => rfl
    | cons x l ih =>
      rw [List.any_cons, List.find?_cons]
      cases x.1.sameKey (.int .i64 s)
      · simpa using ih
      · rfl
  rw [e, h]
  cases atV L s <;> rfl
/-- How an element reads: as itself. -/
def heldE (v : Value) : Option (DataW Value × List MemPlace) := some (.held v, [])
/-- Block bm is a map with these entries. -/
def MapV (P : Program) (k : TypeId) (f : Vt → Value) (w : World) (bm : Nat) (L : List Vt) : Prop := Srt L ∧ w.ownsMap P k heldE bm L.length (datV f L)
theorem own_exact {P : Program} {k : TypeId} {f : Vt → Value} {w : World} {bm n : Nat} {L : List Vt} (h : w.ownsMap P k heldE bm n (datV f L)) : w.ownsMap P k heldE bm L.length (datV f L) := by
  obtain ⟨es, clock, hb, F, hs, hD⟩ := h
  refine ⟨es, clock, hb, F, ?_, hD⟩
  have e : L.map (ent f) = (es.toList.map (WideElems.rg P k heldE)).foldr DataW.insert [] := by
    have := hD
    unfold datV at this
    injection this
  have e2 := congrArg List.length e
  rw [length_sorted] at e2
  simp at e2
  omega
theorem MapV.lt {P : Program} {k : TypeId} {f : Vt → Value} {w : World} {bm : Nat} {L : List Vt} (h : MapV P k f w bm L) : bm < w.heap.size := h.2.lt
theorem MapV.isMap {P : Program} {k : TypeId} {f : Vt → Value} {w : World} {bm : Nat} {L : List Vt} (h : MapV P k f w bm L) : ∃ es clock, w.heap[bm]? = some (.map es clock) := by
  obtain ⟨es, clock, hb, _⟩ := h.2
  exact ⟨es, clock, hb⟩
theorem MapV.ne {P : Program} {k : TypeId} {f : Vt → Value} {w : World} {bm g : Nat} {L : List Vt} (h : MapV P k f w bm L) {cs : Array Value} {t : TypeId} {fr : Nat × Nat} (hg : w.heap[g]? = some (.cells cs t fr)) : bm ≠ g := by
  obtain ⟨es, clock, hb⟩ := h.isMap
  intro e
  subst e
  rw [hb] at hg
  cases hg
theorem MapV.kept {P : Program} {k : TypeId} {f : Vt → Value} {S : Nat → Prop} {w w' : World} {bm : Nat} {L : List Vt} (h : MapV P k f w bm L) (hk : Kept S w w') (hs : ¬ S bm) : MapV P k f w' bm L := by
  refine ⟨h.1, ?_⟩
  obtain ⟨es, clock, hb, r⟩ := h.2
  exact ⟨es, clock, hk.heap hs hb, r⟩
theorem MapV.made (P : Program) (k : TypeId) (f : Vt → Value) (w : World) : MapV P k f (w.alloc (.map #[] 0)) w.heap.size [] :=
  ⟨List.Pairwise.nil, World.ownsMap_made w P k heldE⟩

section
variable {P : Program} (w : World) {ops : Array Oper} {rest : List Oper} {o : Oper} {a : Act} {Q : Exit → Act → World → Prop}
/-- 'v, ok := m[s]'. -/
theorem wpList_look_mv (hg : o.guard = none) (m x : Operand) (t : TypeId) (hop : o.op = Op.lookup t m x true) (k e : TypeId) (hk : P.underlying k = some (.int .i64)) (ht : P.underlying t = some (.map k e))
    (z : Value) (hz : (zeroValue e).run P w = .ok z w) (bm : Nat) (f : Vt → Value) (L : List Vt) (s : Int) (hm : a.eval m = .map (some bm)) (hown : MapV P k f w bm L) (hx : a.eval x = .int .i64 s) (hwf : (Lit.int .i64 s).wf = true)
    (hK : wpList P ops Q rest (a.put o.dst (.tuple #[((atV L s).map f).getD z, .bool (atV L s).isSome])) w) : wpList P ops Q (o :: rest) a w :=
  wpList_lookup_own_ok w hg m x t hop k e (Maps.int_keyed hk) ht heldE hz (.held z) [] rfl bm L.length (datV f L) hm hown.2 _ (.int .i64 s) hx (Maps.keyOf_int_mk hk hwf) (fun v ps hv => by
    rw [datV_at] at hv
    unfold heldE at hv
    injection hv with hv
    injection hv with h1 h2
    injection h1 with h1
    rw [h1, datV_has]
    exact hK)
theorem run_store_mv (t : TypeId) (k e : TypeId) (hk : P.underlying k = some (.int .i64)) (ht : P.underlying t = some (.map k e))
    (bm : Nat) (f : Vt → Value) (L : List Vt) (v : Vt) (hown : MapV P k f w bm L) (hwf : (Lit.int .i64 v.s).wf = true) (hl : L.length ≤ 100000) :
    ∃ w', (Instr.mapUpdate t (.map (some bm)) (.int .i64 v.s) (f v)).run P w = .ok () w' ∧ MapV P k f w' bm (putV L v) ∧ w.grownBy w' (some bm) := by
  obtain ⟨w', h1, h2, h3⟩ := hown.2.update (t := t) (Maps.int_keyed hk) ht (by unfold maxLen; omega) (Maps.keyOf_int_mk hk hwf) (val := f v) (d := .held (f v)) (ps := []) rfl
  rw [datV_put f v hown.1] at h2
  exact ⟨w', h1, ⟨putV_srt v hown.1, own_exact h2⟩, h3⟩
/-- 'm[s] = v'. -/
theorem wp_store_mv {K : Act → World → Prop} (m x y : Operand) (t : TypeId) (hop : o.op = Op.mapUpdate t m x y) (k e : TypeId) (hk : P.underlying k = some (.int .i64)) (ht : P.underlying t = some (.map k e))
    (bm : Nat) (f : Vt → Value) (L : List Vt) (v : Vt) (hm : a.eval m = .map (some bm)) (hx : a.eval x = .int .i64 v.s) (hy : a.eval y = f v) (hown : MapV P k f w bm L) (hwf : (Lit.int .i64 v.s).wf = true) (hl : L.length ≤ 100000)
    (hK : ∀ w', MapV P k f w' bm (putV L v) → w.grownBy w' (some bm) → K (a.put o.dst undef) w') : o.wp P a w K Q := by
  obtain ⟨w', hrun, r1, r2⟩ := run_store_mv w t k e hk ht bm f L v hown hwf hl
  unfold Oper.wp
  simp [execOp, hop, hm, hx, hy, hrun, Result.andThen]
  exact hK w' r1 r2
theorem wpList_store_mv (hg : o.guard = none) (m x y : Operand) (t : TypeId) (hop : o.op = Op.mapUpdate t m x y) (k e : TypeId) (hk : P.underlying k = some (.int .i64)) (ht : P.underlying t = some (.map k e))
    (bm : Nat) (f : Vt → Value) (L : List Vt) (v : Vt) (hm : a.eval m = .map (some bm)) (hx : a.eval x = .int .i64 v.s) (hy : a.eval y = f v) (hown : MapV P k f w bm L) (hwf : (Lit.int .i64 v.s).wf = true) (hl : L.length ≤ 100000)
    (hK : ∀ w', MapV P k f w' bm (putV L v) → w.grownBy w' (some bm) → wpList P ops Q rest (a.put o.dst undef) w') : wpList P ops Q (o :: rest) a w :=
  wpList_plain hg fun K' hK' => wp_store_mv w m x y t hop k e hk ht bm f L v hm hx hy hown hwf hl fun w' h1 h2 => hK' _ _ (hK w' h1 h2)
theorem step_store_mv {K : Act → World → Prop} {E : Prop} (hgd : o.guard = none) (m x y : Operand) (t : TypeId) (hop : o.op = Op.mapUpdate t m x y) (k e : TypeId) (hk : P.underlying k = some (.int .i64)) (ht : P.underlying t = some (.map k e))
    (bm : Nat) (f : Vt → Value) (L : List Vt) (v : Vt) (hm : a.eval m = .map (some bm)) (hx : a.eval x = .int .i64 v.s) (hy : a.eval y = f v) (hown : MapV P k f w bm L) (hwf : (Lit.int .i64 v.s).wf = true) (hl : L.length ≤ 100000)
    (hK : ∀ w', MapV P k f w' bm (putV L v) → w.grownBy w' (some bm) → K (a.put o.dst undef) w') : if Region.wanted o (yielded ops a.tmps) = true then Oper.wp P o a w K Q else E := by
  have hw : Region.wanted o (yielded ops a.tmps) = true := by simp [Region.wanted, hgd]
  rw [if_pos hw]
  exact wp_store_mv w m x y t hop k e hk ht bm f L v hm hx hy hown hwf hl hK
/-- 'len(m)'. -/
theorem wpList_len_mv (hg : o.guard = none) (m : Operand) (t : TypeId) (hop : o.op = Op.call { callee := Callee.builtin Builtin.len, args := #[m], argTypes := #[t] }) (k e : TypeId) (ht : P.underlying t = some (.map k e))
    (bm : Nat) (f : Vt → Value) (L : List Vt) (hm : a.eval m = .map (some bm)) (hown : MapV P k f w bm L) (hK : wpList P ops Q rest (a.put o.dst (.int .i64 L.length)) w) : wpList P ops Q (o :: rest) a w :=
  wpList_len_own w hg m t hop k e ht heldE bm L.length (datV f L) hm hown.2 (by
    have : Maps.size (datV f L) = L.length := by simp [datV, Maps.size]
    rw [this]
    exact hK)
end
end Go.Proofs.Ytidhaofojcdbaaa
