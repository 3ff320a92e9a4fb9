/-
  Votes by slots: plain lists; a map from numbers to structs, as a plain list of its entries. Package accept: an acceptor in memory; New, Vote, Promised, Len. Package accept: rows of votes; Votes. Package accept: canPromise, Prepare, Accept. The page's example of accept; the walk of AcceptNil. Calls of an acceptor that came in, opened: one by value, a slice of them. Votes: a row's cells. Votes in a slice, read; the chapter's At and From; whether two slices are the same.
-/
import Derived.Test.YtclfecninhipnaaGreatDoorBase
import Derived.Maps.OwnSet
import Derived.WalkKit
import Derived.RegionTactic
import Derived.Lib.Hide
import Derived.Test.YtclfecninhipnaaGreatDoorProg
import Derived.WalkSpells
import Derived.WalkLawsBesides
import Derived.BigRegion
import Derived.Deep.QuietTactic
import Derived.BigQuiet
import Derived.Deep.RegionHeld3
import Derived.Deep.RegionLaw
import Derived.Deep.DeepMust
import Derived.Outline
import Derived.KernelRfl
import Derived.Test.YtclfecninhipnaaGreatDoorBal1
import Derived.Test.YtclfecninhipnaaGreatDoorCmd1
import Derived.Test.YtclfecninhipnaaGreatDoorFrameP
import Derived.Lib.SmallJoins
namespace Go.Proofs.YtclfecninhipnaaGreatDoor
open Go.RowKit
set_option linter.unusedVariables false

/-- A vote: its slot, its ballot, its command's four numbers. -/
structure Vt where
  s : Int
  b : Int
  k : Int
  ch : Int
  ep : Int
  nd : Int
def vt0 : Vt := ⟨0, 0, 0, 0, 0, 0⟩
/-- A vote as a value, and as its cells. -/
def vvv (v : Vt) : Value := .agg #[.int .i64 v.s, .int .u64 v.b, .int .i64 v.k, .int .i64 v.ch, .int .u64 v.ep, .int .i64 v.nd]
def vcs (v : Vt) : List Value := [.int .i64 v.s, .int .u64 v.b, .int .i64 v.k, .int .i64 v.ch, .int .u64 v.ep, .int .i64 v.nd]
def vcel (L : List Vt) : List Value := L.flatMap vcs
/-- Its command as a value. -/
def vcv (v : Vt) : Value := .agg #[.int .i64 v.k, .int .i64 v.ch, .int .u64 v.ep, .int .i64 v.nd]
theorem vcel_app (a b : List Vt) : vcel (a ++ b) = vcel a ++ vcel b := by simp [vcel]
theorem vcel_len (L : List Vt) : (vcel L).length = L.length * 6 := by
  induction L with
  | nil => rfl
  | cons v L ih =>
    have : vcel (v :: L) = vcs v ++ vcel L := rfl
    rw [this, List.length_append, ih, List.length_cons]
    simp only [vcs, List.length_cons, List.length_nil]
    omega
theorem vcel_at (L : List Vt) (j i : Nat) (hj : j < L.length) (hi : i < 6) : (vcel L)[j * 6 + i]? = (vcs L[j])[i]? := by
  induction L generalizing j with
  | nil => exact absurd hj (by simp)
  | cons v L ih =>
    have e : vcel (v :: L) = vcs v ++ vcel L := rfl
    have hl : (vcs v).length = 6 := rfl
    rw [e]
    cases j with
    | zero =>
      rw [Nat.zero_mul, Nat.zero_add, List.getElem?_append_left (by rw [hl]; exact hi)]
      rfl
    | succ j =>
      rw [List.getElem?_append_right (by rw [hl]; omega), hl, List.getElem_cons_succ, show (j + 1) * 6 + i - 6 = j * 6 + i by omega]
      exact ih j (by simpa using hj)
/-- Votes by rising slots. -/
def Srt (L : List Vt) : Prop := L.Pairwise (fun x y => x.s < y.s)
def atV (L : List Vt) (s : Int) : Option Vt := L.find? (fun v => v.s == s)
def fromV (L : List Vt) (f : Int) : List Vt := L.filter (fun v => decide (f ≤ v.s))
def putV : List Vt → Vt → List Vt
  | [], v => [v]
  | x :: r, v => if x.s < v.s then x :: putV r v else if x.s = v.s then v :: r else v :: x :: r
theorem putV_mem {L : List Vt} {v x : Vt} (h : x ∈ putV L v) : x = v ∨ x ∈ L := by
  induction L with
  | nil => simp [putV] at h; exact .inl h
  | cons y r ih =>
    unfold putV at h
    split at h
    · rcases List.mem_cons.1 h with rfl | h
      · exact .inr (by simp)
      · rcases ih h with h | h
        · exact .inl h
        · exact .inr (by simp [h])
    · split at h
      · rcases List.mem_cons.1 h with rfl | h
        · exact .inl rfl
        · exact .inr (by simp [h])
      · rcases List.mem_cons.1 h with rfl | h
        · exact .inl rfl
        · exact .inr h
theorem putV_srt {L : List Vt} (v : Vt) (h : Srt L) : Srt (putV L v) := by
  induction L with
  | nil => exact List.pairwise_singleton _ _
  | cons y r ih =>
    obtain ⟨h1, h2⟩ := List.pairwise_cons.1 h
    unfold putV
    split
    · rename_i hlt
      refine List.pairwise_cons.2 ⟨fun z hz => ?_, ih h2⟩
      rcases putV_mem hz with rfl | hz
      · exact hlt
      · exact h1 z hz
    · split
      · rename_i he
        exact List.pairwise_cons.2 ⟨fun z hz => by have := h1 z hz; omega, h2⟩
      · exact List.pairwise_cons.2 ⟨fun z hz => by
          rcases List.mem_cons.1 hz with rfl | hz
          · omega
          · have := h1 z hz; omega, h⟩
theorem putV_len {L : List Vt} (v : Vt) : (putV L v).length ≤ L.length + 1 ∧ L.length ≤ (putV L v).length := by
  induction L with
  | nil => simp [putV]
  | cons y r ih =>
    unfold putV
    split
    · simp only [List.length_cons]; omega
    · split <;> simp
theorem atV_cons (x : Vt) (r : List Vt) (s : Int) : atV (x :: r) s = if x.s = s then some x else atV r s := by
  unfold atV
  rw [List.find?_cons]
  by_cases h : x.s = s
  · rw [if_pos h]; simp [h]
  · rw [if_neg h]
    have : (x.s == s) = false := by simpa using h
    rw [this]
theorem atV_slot {L : List Vt} {s : Int} {v : Vt} (h : atV L s = some v) : v.s = s ∧ v ∈ L := by
  have h1 := List.find?_some h
  exact ⟨by simpa using h1, List.mem_of_find?_eq_some h⟩
theorem atV_none {L : List Vt} {s : Int} (h : ∀ v ∈ L, v.s ≠ s) : atV L s = none := by
  unfold atV
  rw [List.find?_eq_none]
  intro v hv
  simpa using h v hv
theorem atV_mem {L : List Vt} {v : Vt} (hs : Srt L) (h : v ∈ L) : atV L v.s = some v := by
  induction L with
  | nil => cases h
  | cons x r ih =>
    obtain ⟨h1, h2⟩ := List.pairwise_cons.1 hs
    rw [atV_cons]
    rcases List.mem_cons.1 h with rfl | h
    · rw [if_pos rfl]
    · have := h1 v h
      rw [if_neg (by omega)]
      exact ih h2 h
theorem atV_put_same {L : List Vt} (v : Vt) : atV (putV L v) v.s = some v := by
  induction L with
  | nil => simp [putV, atV]
  | cons x r ih =>
    unfold putV
    split
    · rw [atV_cons, if_neg (by omega)]; exact ih
    · split <;> rw [atV_cons, if_pos rfl]
theorem atV_put_other {L : List Vt} (v : Vt) {s : Int} (hs : s ≠ v.s) : atV (putV L v) s = atV L s := by
  induction L with
  | nil => simp only [putV]; rw [atV_cons, if_neg (by omega)]
  | cons x r ih =>
    unfold putV
    split
    · rw [atV_cons, atV_cons, ih]
    · split
      · rename_i h
        rw [atV_cons, atV_cons, if_neg (by omega), if_neg (by omega)]
      · rw [atV_cons, if_neg (by omega)]

/-! ### the map's datum -/
def ent (f : Vt → Value) (v : Vt) : Lit × DataW Value := (.int .i64 v.s, .held (f v))
def datV (f : Vt → Value) (L : List Vt) : DataW Value := .map (L.map (ent f))
theorem same_i64 (a b : Int) : (Lit.int .i64 a).sameKey (.int .i64 b) = decide (a = b) := by simp [Lit.sameKey]
theorem before_i64 (a b : Int) : (Lit.int .i64 a).before (.int .i64 b) = decide (a < b) := by simp [Lit.before]
theorem filter_high (f : Vt → Value) (r : List Vt) (s : Int) (h : ∀ z ∈ r, s < z.s) : (r.map (ent f)).filter (fun p => !p.1.sameKey (.int .i64 s)) = r.map (ent f) := by
  rw [List.filter_eq_self]
  intro p hp
  obtain ⟨z, hz, rfl⟩ := List.mem_map.1 hp
  have := h z hz
  show (!(Lit.int .i64 z.s).sameKey (.int .i64 s)) = true
  rw [same_i64]
  simp
  omega
theorem insert_low (f : Vt → Value) (r : List Vt) (v : Vt) (h : ∀ z ∈ r, v.s < z.s) : DataW.insert (ent f v) (r.map (ent f)) = (v :: r).map (ent f) := by
  cases r with
  | nil => rfl
  | cons y r =>
    show (if (Lit.int .i64 v.s).before (.int .i64 y.s) then ent f v :: ent f y :: r.map (ent f) else _) = _
    rw [before_i64, if_pos (by simpa using h y (by simp))]
    rfl
theorem datV_put (f : Vt → Value) {L : List Vt} (v : Vt) (h : Srt L) : (datV f L).put (.int .i64 v.s) (.held (f v)) = datV f (putV L v) := by
  show DataW.map (DataW.insert (ent f v) ((L.map (ent f)).filter fun p => !p.1.sameKey (.int .i64 v.s))) = .map ((putV L v).map (ent f))
  congr 1
  induction L with
  | nil => rfl
  | cons x r ih =>
    obtain ⟨h1, h2⟩ := List.pairwise_cons.1 h
    rw [List.map_cons, List.filter_cons]
    have e : (ent f x).1.sameKey (.int .i64 v.s) = decide (x.s = v.s) := same_i64 _ _
    rw [e]
    unfold putV
    by_cases hlt : x.s < v.s
    · rw [if_pos hlt, decide_eq_false (by omega), if_pos (show (!false) = true from rfl)]
      show (if (Lit.int .i64 v.s).before (.int .i64 x.s) then _ else ent f x :: DataW.insert (ent f v) _) = _
      rw [before_i64, decide_eq_false (by omega), ih h2]
      rfl
    · rw [if_neg hlt]
      by_cases he : x.s = v.s
      · rw [if_pos he, decide_eq_true he, if_neg (by simp), filter_high f r v.s (fun z hz => by have := h1 z hz; omega)]
        exact insert_low f r v (fun z hz => by have := h1 z hz; omega)
      · rw [if_neg he, decide_eq_false he, if_pos (show (!false) = true from rfl), filter_high f r v.s (fun z hz => by have := h1 z hz; omega)]
        exact insert_low f (x :: r) v (fun z hz => by
          rcases List.mem_cons.1 hz with rfl | hz
          · omega
          · have := h1 z hz; omega)
theorem datV_find (f : Vt → Value) (L : List Vt) (s : Int) : (L.map (ent f)).find? (fun p => p.1.sameKey (.int .i64 s)) = (atV L s).map (ent f) := by
  induction L with
  | nil => rfl
  | cons x r ih =>
    rw [List.map_cons, List.find?_cons, atV_cons]
    have e : (ent f x).1.sameKey (.int .i64 s) = decide (x.s = s) := same_i64 _ _
    rw [e]
    by_cases h : x.s = s
    · rw [decide_eq_true h, if_pos h]; rfl
    · rw [decide_eq_false h, if_neg h]; exact ih
theorem datV_at (f : Vt → Value) (L : List Vt) (s : Int) (z : Value) : (datV f L).atKey (.int .i64 s) (.held z) = .held (((atV L s).map f).getD z) := by
  unfold datV DataW.atKey
  simp only [datV_find]
  cases atV L s <;> rfl
theorem datV_has (f : Vt → Value) (L : List Vt) (s : Int) : Maps.has (datV f L) (.int .i64 s) = (atV L s).isSome := by
  have h := datV_find f L s
  show (L.map (ent f)).any (fun p => p.1.sameKey (.int .i64 s)) = _
  have e : ∀ l : List (Lit × DataW Value), l.any (fun p => p.1.sameKey (.int .i64 s)) = (l.find? (fun p => p.1.sameKey (.int .i64 s))).isSome := by
    intro l
    induction l with
    | nil => rfl
    | cons x l ih =>
      rw [List.any_cons, List.find?_cons]
      cases x.1.sameKey (.int .i64 s)
      · simpa using ih
      · rfl
  rw [e, h]
  cases atV L s <;> rfl
/-- How an element reads: as itself. -/
def heldE (v : Value) : Option (DataW Value × List MemPlace) := some (.held v, [])
/-- Block bm is a map with these entries. -/
def MapV (P : Program) (k : TypeId) (f : Vt → Value) (w : World) (bm : Nat) (L : List Vt) : Prop := Srt L ∧ w.ownsMap P k heldE bm L.length (datV f L)
theorem own_exact {P : Program} {k : TypeId} {f : Vt → Value} {w : World} {bm n : Nat} {L : List Vt} (h : w.ownsMap P k heldE bm n (datV f L)) : w.ownsMap P k heldE bm L.length (datV f L) := by
  obtain ⟨es, clock, hb, F, hs, hD⟩ := h
  refine ⟨es, clock, hb, F, ?_, hD⟩
  have e : L.map (ent f) = (es.toList.map (WideElems.rg P k heldE)).foldr DataW.insert [] := by
    have := hD
    unfold datV at this
    injection this
  have e2 := congrArg List.length e
  rw [length_sorted] at e2
  simp at e2
  omega
theorem MapV.lt {P : Program} {k : TypeId} {f : Vt → Value} {w : World} {bm : Nat} {L : List Vt} (h : MapV P k f w bm L) : bm < w.heap.size := h.2.lt
theorem MapV.isMap {P : Program} {k : TypeId} {f : Vt → Value} {w : World} {bm : Nat} {L : List Vt} (h : MapV P k f w bm L) : ∃ es clock, w.heap[bm]? = some (.map es clock) := by
  obtain ⟨es, clock, hb, _⟩ := h.2
  exact ⟨es, clock, hb⟩
theorem MapV.ne {P : Program} {k : TypeId} {f : Vt → Value} {w : World} {bm g : Nat} {L : List Vt} (h : MapV P k f w bm L) {cs : Array Value} {t : TypeId} {fr : Nat × Nat} (hg : w.heap[g]? = some (.cells cs t fr)) : bm ≠ g := by
  obtain ⟨es, clock, hb⟩ := h.isMap
  intro e
  subst e
  rw [hb] at hg
  cases hg
theorem MapV.kept {P : Program} {k : TypeId} {f : Vt → Value} {S : Nat → Prop} {w w' : World} {bm : Nat} {L : List Vt} (h : MapV P k f w bm L) (hk : Kept S w w') (hs : ¬ S bm) : MapV P k f w' bm L := by
  refine ⟨h.1, ?_⟩
  obtain ⟨es, clock, hb, r⟩ := h.2
  exact ⟨es, clock, hk.heap hs hb, r⟩
theorem MapV.made (P : Program) (k : TypeId) (f : Vt → Value) (w : World) : MapV P k f (w.alloc (.map #[] 0)) w.heap.size [] :=
  ⟨List.Pairwise.nil, World.ownsMap_made w P k heldE⟩

section
variable {P : Program} (w : World) {ops : Array Oper} {rest : List Oper} {o : Oper} {a : Act} {Q : Exit → Act → World → Prop}
/-- 'v, ok := m[s]'. -/
theorem wpList_look_mv (hg : o.guard = none) (m x : Operand) (t : TypeId) (hop : o.op = Op.lookup t m x true) (k e : TypeId) (hk : P.underlying k = some (.int .i64)) (ht : P.underlying t = some (.map k e))
    (z : Value) (hz : (zeroValue e).run P w = .ok z w) (bm : Nat) (f : Vt → Value) (L : List Vt) (s : Int) (hm : a.eval m = .map (some bm)) (hown : MapV P k f w bm L) (hx : a.eval x = .int .i64 s) (hwf : (Lit.int .i64 s).wf = true)
    (hK : wpList P ops Q rest (a.put o.dst (.tuple #[((atV L s).map f).getD z, .bool (atV L s).isSome])) w) : wpList P ops Q (o :: rest) a w :=
  wpList_lookup_own_ok w hg m x t hop k e (Maps.int_keyed hk) ht heldE hz (.held z) [] rfl bm L.length (datV f L) hm hown.2 _ (.int .i64 s) hx (Maps.keyOf_int_mk hk hwf) (fun v ps hv => by
    rw [datV_at] at hv
    unfold heldE at hv
    injection hv with hv
    injection hv with h1 h2
    injection h1 with h1
    rw [h1, datV_has]
    exact hK)
theorem run_store_mv (t : TypeId) (k e : TypeId) (hk : P.underlying k = some (.int .i64)) (ht : P.underlying t = some (.map k e))
    (bm : Nat) (f : Vt → Value) (L : List Vt) (v : Vt) (hown : MapV P k f w bm L) (hwf : (Lit.int .i64 v.s).wf = true) (hl : L.length ≤ 100000) :
    ∃ w', (Instr.mapUpdate t (.map (some bm)) (.int .i64 v.s) (f v)).run P w = .ok () w' ∧ MapV P k f w' bm (putV L v) ∧ w.grownBy w' (some bm) := by
  obtain ⟨w', h1, h2, h3⟩ := hown.2.update (t := t) (Maps.int_keyed hk) ht (by unfold maxLen; omega) (Maps.keyOf_int_mk hk hwf) (val := f v) (d := .held (f v)) (ps := []) rfl
  rw [datV_put f v hown.1] at h2
  exact ⟨w', h1, ⟨putV_srt v hown.1, own_exact h2⟩, h3⟩
/-- 'm[s] = v'. -/
theorem wp_store_mv {K : Act → World → Prop} (m x y : Operand) (t : TypeId) (hop : o.op = Op.mapUpdate t m x y) (k e : TypeId) (hk : P.underlying k = some (.int .i64)) (ht : P.underlying t = some (.map k e))
    (bm : Nat) (f : Vt → Value) (L : List Vt) (v : Vt) (hm : a.eval m = .map (some bm)) (hx : a.eval x = .int .i64 v.s) (hy : a.eval y = f v) (hown : MapV P k f w bm L) (hwf : (Lit.int .i64 v.s).wf = true) (hl : L.length ≤ 100000)
    (hK : ∀ w', MapV P k f w' bm (putV L v) → w.grownBy w' (some bm) → K (a.put o.dst undef) w') : o.wp P a w K Q := by
  obtain ⟨w', hrun, r1, r2⟩ := run_store_mv w t k e hk ht bm f L v hown hwf hl
  unfold Oper.wp
  simp [execOp, hop, hm, hx, hy, hrun, Result.andThen]
  exact hK w' r1 r2
theorem wpList_store_mv (hg : o.guard = none) (m x y : Operand) (t : TypeId) (hop : o.op = Op.mapUpdate t m x y) (k e : TypeId) (hk : P.underlying k = some (.int .i64)) (ht : P.underlying t = some (.map k e))
    (bm : Nat) (f : Vt → Value) (L : List Vt) (v : Vt) (hm : a.eval m = .map (some bm)) (hx : a.eval x = .int .i64 v.s) (hy : a.eval y = f v) (hown : MapV P k f w bm L) (hwf : (Lit.int .i64 v.s).wf = true) (hl : L.length ≤ 100000)
    (hK : ∀ w', MapV P k f w' bm (putV L v) → w.grownBy w' (some bm) → wpList P ops Q rest (a.put o.dst undef) w') : wpList P ops Q (o :: rest) a w :=
  wpList_plain hg fun K' hK' => wp_store_mv w m x y t hop k e hk ht bm f L v hm hx hy hown hwf hl fun w' h1 h2 => hK' _ _ (hK w' h1 h2)
theorem step_store_mv {K : Act → World → Prop} {E : Prop} (hgd : o.guard = none) (m x y : Operand) (t : TypeId) (hop : o.op = Op.mapUpdate t m x y) (k e : TypeId) (hk : P.underlying k = some (.int .i64)) (ht : P.underlying t = some (.map k e))
    (bm : Nat) (f : Vt → Value) (L : List Vt) (v : Vt) (hm : a.eval m = .map (some bm)) (hx : a.eval x = .int .i64 v.s) (hy : a.eval y = f v) (hown : MapV P k f w bm L) (hwf : (Lit.int .i64 v.s).wf = true) (hl : L.length ≤ 100000)
    (hK : ∀ w', MapV P k f w' bm (putV L v) → w.grownBy w' (some bm) → K (a.put o.dst undef) w') : if Region.wanted o (yielded ops a.tmps) = true then Oper.wp P o a w K Q else E := by
  have hw : Region.wanted o (yielded ops a.tmps) = true := by simp [Region.wanted, hgd]
  rw [if_pos hw]
  exact wp_store_mv w m x y t hop k e hk ht bm f L v hm hx hy hown hwf hl hK
/-- 'len(m)'. -/
theorem wpList_len_mv (hg : o.guard = none) (m : Operand) (t : TypeId) (hop : o.op = Op.call { callee := Callee.builtin Builtin.len, args := #[m], argTypes := #[t] }) (k e : TypeId) (ht : P.underlying t = some (.map k e))
    (bm : Nat) (f : Vt → Value) (L : List Vt) (hm : a.eval m = .map (some bm)) (hown : MapV P k f w bm L) (hK : wpList P ops Q rest (a.put o.dst (.int .i64 L.length)) w) : wpList P ops Q (o :: rest) a w :=
  wpList_len_own w hg m t hop k e ht heldE bm L.length (datV f L) hm hown.2 (by
    have : Maps.size (datV f L) = L.length := by simp [datV, Maps.size]
    rw [this]
    exact hK)
end
end Go.Proofs.YtclfecninhipnaaGreatDoor
namespace Go.Proofs.YtclfecninhipnaaGreatDoor
open Go.RowKit
set_option linter.unusedVariables false

theorem blkA_frozen {w : World} {g : Nat} {cs : Array Value} {t : TypeId} (h : w.heap[g]? = some (.cells cs t (0, 0))) (o : Nat) : w.frozen? ⟨g, o, none⟩ = false := by simp [World.frozen?, h]
theorem blkA_set {w : World} {g : Nat} {cs : Array Value} {t : TypeId} {fr : Nat × Nat} (h : w.heap[g]? = some (.cells cs t fr)) (i : Nat) (u : Value) :
    (w.setCell ⟨g, i, none⟩ u).heap[g]? = some (.cells (cs.setIfInBounds i u) t fr) := by simp [World.setCell, Array.getElem?_modify, h]
theorem blkA_set_other {w : World} {g k : Nat} {o : Obj} (h : w.heap[g]? = some o) (i : Nat) (u : Value) (hk : k ≠ g) :
    (w.setCell ⟨k, i, none⟩ u).heap[g]? = some o := by simp [World.setCell, Array.getElem?_modify, h, hk]
theorem blkA_alloc {w : World} {g : Nat} {o : Obj} (h : w.heap[g]? = some o) (x : Obj) : (w.alloc x).heap[g]? = some o := (heap_alloc_old w x (heap_lt h)).trans h
theorem zero_vote (w : World) : (zeroValue 137).run Tryz.prog w = .ok (vvv vt0) w := by kernel_rfl
/-- A vote of an acceptor. -/
def VtOk (v : Vt) : Prop := 0 ≤ v.s ∧ v.s < 512 ∧ 0 ≤ v.b ∧ v.b ≤ 18446744073709551615 ∧ 0 ≤ v.ep ∧ v.ep ≤ 18446744073709551615
/-- An acceptor's own blocks. -/
def AB (g bm : Nat) : Nat → Prop := fun k => k = g ∨ k = bm
theorem getD_vv (o : Option Vt) : (o.map vvv).getD (vvv vt0) = vvv (o.getD vt0) := by cases o <;> rfl
/-- A vote in a block's cells. -/
theorem vote_cells {w : World} {b : Nat} {v : Vt} {x0 x1 x2 x3 x4 x5 : Value} (h : w.heap[b]? = some (.cells #[x0, x1, x2, x3, x4, x5] 137 (0, 0))) :
    ((((((w.setCell ⟨b, 0, none⟩ (.int .i64 v.s)).setCell ⟨b, 1, none⟩ (.int .u64 v.b)).setCell ⟨b, 2, none⟩ (.int .i64 v.k)).setCell ⟨b, 3, none⟩ (.int .i64 v.ch)).setCell ⟨b, 4, none⟩ (.int .u64 v.ep)).setCell ⟨b, 5, none⟩ (.int .i64 v.nd)).heap[b]? =
      some (.cells #[.int .i64 v.s, .int .u64 v.b, .int .i64 v.k, .int .i64 v.ch, .int .u64 v.ep, .int .i64 v.nd] 137 (0, 0)) := by
  simp [World.setCell, Array.getElem?_modify, h]
theorem cells6 {w : World} {b : Nat} {v : Vt} (h : w.heap[b]? = some (.cells #[.int .i64 v.s, .int .u64 v.b, .int .i64 v.k, .int .i64 v.ch, .int .u64 v.ep, .int .i64 v.nd] 137 (0, 0))) :
    w.cell? ⟨b, 0, none⟩ = some (.int .i64 v.s) ∧ w.cell? ⟨b, 1, none⟩ = some (.int .u64 v.b) ∧ w.cell? ⟨b, 2, none⟩ = some (.int .i64 v.k) ∧ w.cell? ⟨b, 3, none⟩ = some (.int .i64 v.ch) ∧ w.cell? ⟨b, 4, none⟩ = some (.int .u64 v.ep) ∧ w.cell? ⟨b, 5, none⟩ = some (.int .i64 v.nd) :=
  ⟨cell_of_row _ _ 0 _ _ _ h, cell_of_row _ _ 1 _ _ _ h, cell_of_row _ _ 2 _ _ _ h, cell_of_row _ _ 3 _ _ _ h, cell_of_row _ _ 4 _ _ _ h, cell_of_row _ _ 5 _ _ _ h⟩
end Go.Proofs.YtclfecninhipnaaGreatDoor
namespace Go.Proofs.YtclfecninhipnaaGreatDoor
open Go.RowKit
set_option linter.unusedVariables false

theorem Tryz.info137 : (Tryz.prog.info? 137).map (fun i => (i.zero, i.size, i.bytes)) = some (some (vvv vt0), 6, 48) := by kernel_rfl
/-- A row of votes of the call's own, from block B on. -/
def VOwn (B : Nat) (w : World) (v : Value) (L : List Vt) : Prop := w.ownsRow B 137 6 v L.length (vcel L)
theorem VOwn.nil (B : Nat) (w : World) : VOwn B w (.slice none 0 0) [] := World.ownsRow_nil _ _ _ _
theorem VOwn.form {B : Nat} {w : World} {v : Value} {L : List Vt} (h : VOwn B w v L) : ∃ a c, v = .slice a L.length c := by
  rcases h.2 with ⟨rfl, h0⟩ | ⟨r, cap, cur, rfl, _⟩
  · exact ⟨none, 0, by rw [h0]⟩
  · exact ⟨_, _, rfl⟩
theorem VOwn.kept {S : Nat → Prop} {B : Nat} {w w' : World} {v : Value} {L : List Vt} (h : VOwn B w v L) (hk : Kept S w w') (hs : ∀ k, v.ownBlock = some k → ¬ S k) : VOwn B w' v L := by
  refine ⟨h.1, ?_⟩
  rcases h.2 with hn | ⟨r, cap, cur, rfl, hb, hr, rest⟩
  · exact .inl hn
  · exact .inr ⟨r, cap, cur, rfl, hb, hk.heap (hs r rfl) hr, rest⟩
theorem VOwn.no {B : Nat} {w w' : World} {v : Value} {L : List Vt} (h : VOwn B w v L) (hk : Kept NoB w w') : VOwn B w' v L := h.kept hk (fun _ _ h => h)
theorem VOwn.base {B : Nat} {w : World} {v : Value} {L : List Vt} (h : VOwn B w v L) (k : Nat) (hk : v.ownBlock = some k) : B ≤ k ∧ k < w.heap.size := by
  rcases h.2 with ⟨rfl, _⟩ | ⟨r, cap, cur, rfl, hb, hr, _⟩
  · cases hk
  · injection hk with hk
    subst hk
    exact ⟨hb, heap_lt hr⟩
theorem VOwn.mono {B C : Nat} {w : World} {v : Value} {L : List Vt} (h : VOwn B w v L) (hB : C ≤ B) : VOwn C w v L := by
  refine ⟨h.1, ?_⟩
  rcases h.2 with hn | ⟨r, cap, cur, rfl, hb, rest⟩
  · exact .inl hn
  · exact .inr ⟨r, cap, cur, rfl, Nat.le_trans hB hb, rest⟩
/-- A row's block is of votes. -/
theorem VOwn.typ {B : Nat} {w : World} {v : Value} {L : List Vt} (h : VOwn B w v L) (k : Nat) (hk : v.ownBlock = some k) {cs : Array Value} {t : TypeId} {fr : Nat × Nat} (hc : w.heap[k]? = some (.cells cs t fr)) : t = 137 := by
  rcases h.2 with ⟨rfl, _⟩ | ⟨r, cap, cur, rfl, hb, hr, _⟩
  · cases hk
  · injection hk with hk
    subst hk
    rw [hr] at hc
    injection hc with hc
    injection hc with _ hc
    exact hc.symm
theorem VOwn.one {B : Nat} {w : World} {v : Value} {L : List Vt} (h : VOwn B w v L) {k : Nat} {cs : Array Value} {t : TypeId} {fr : Nat × Nat} (hc : w.heap[k]? = some (.cells cs t fr)) (ht : t ≠ 137) : ∀ j, v.ownBlock = some j → j ≠ k := by
  intro j hj e
  subst e
  exact ht (h.typ j hj hc)
/-- append of one vote that lies in a block to a row of the call's own. -/
theorem run_append_vt (w : World) (base : Nat) (ty : TypeId) (v : Value) (L : List Vt) (hown : VOwn base w v L) (b : Nat) (x : Vt) (hb : w.heap[b]? = some (.cells #[.int .i64 x.s, .int .u64 x.b, .int .i64 x.k, .int .i64 x.ch, .int .u64 x.ep, .int .i64 x.nd] 137 (0, 0))) (hl : L.length ≤ 100000) (hbase : base ≤ w.heap.size) :
    ∃ a' c' w', (Builtin.append_ #[45, 45] ty #[v, .slice (some ⟨b, 0, none⟩) 1 1]).run Tryz.prog w = .ok (.slice a' (L.length + 1) c') w' ∧ VOwn base w' (.slice a' (L.length + 1) c') (L ++ [x]) ∧ w.grownBy w' v.ownBlock ∧ ((Value.slice a' (L.length + 1) c').ownBlock = v.ownBlock ∨ (Value.slice a' (L.length + 1) c').ownBlock = some w.heap.size) := by
  obtain ⟨i0, hi, hz0, hz1, hz2⟩ := info_parts Tryz.info137
  obtain ⟨v', w', hrun, h2, h3, _, h5⟩ := run_append_own_at (P := Tryz.prog) w base 45 ty 137 i0 _ 6 48 Tryz.underlying45 hi hz0 hz1 hz2 rfl (by decide) v L.length _ hown ⟨b, 0, none⟩ 1 1 (vcel [x]) (by simp [vcel, vcs]) (World.news_of_block hb) (by
    intro y hy
    simp only [vcel, vcs, List.flatMap_cons, List.flatMap_nil, List.append_nil, List.mem_cons, List.not_mem_nil, or_false] at hy
    rcases hy with rfl | rfl | rfl | rfl | rfl | rfl <;> rfl) (by unfold maxLen; omega) (by omega) hbase
  have h2' : VOwn base w' v' (L ++ [x]) := by
    unfold VOwn
    rw [vcel_app, List.length_append]
    exact h2
  obtain ⟨a', c', e⟩ := h2'.form
  rw [List.length_append] at e
  have e : v' = .slice a' (L.length + 1) c' := e
  subst e
  exact ⟨a', c', w', hrun, h2', h3, h5⟩
theorem wpList_append_vt (w : World) {ops : Array Oper} {rest : List Oper} {o : Oper} {a : Act} {Q : Exit → Act → World → Prop} (hgd : o.guard = none) (s x : Operand)
    (ho : o.op = .call { callee := .builtin .append, args := #[s, x], argTypes := #[45, 45] })
    (base : Nat) (v : Value) (L : List Vt) (hs : a.eval s = v) (hown : VOwn base w v L) (b : Nat) (y : Vt) (hx : a.eval x = .slice (some ⟨b, 0, none⟩) 1 1) (hb : w.heap[b]? = some (.cells #[.int .i64 y.s, .int .u64 y.b, .int .i64 y.k, .int .i64 y.ch, .int .u64 y.ep, .int .i64 y.nd] 137 (0, 0))) (hl : L.length ≤ 100000) (hbase : base ≤ w.heap.size)
    (h : ∀ a' c' w', VOwn base w' (.slice a' (L.length + 1) c') (L ++ [y]) → w.grownBy w' v.ownBlock → ((Value.slice a' (L.length + 1) c').ownBlock = v.ownBlock ∨ (Value.slice a' (L.length + 1) c').ownBlock = some w.heap.size) → wpList Tryz.prog ops Q rest (a.put o.dst (.slice a' (L.length + 1) c')) w') : wpList Tryz.prog ops Q (o :: rest) a w :=
  wpList_plain hgd fun K hK => by
    obtain ⟨a', c', w', hrun, h2, h3, h4⟩ := run_append_vt w base o.type v L hown b y hb hl hbase
    unfold Oper.wp execOp
    simp only [ho, resolve, invoke, builtin, Sem.run_bind, Sem.run_pure, Result.andThen_ok, List.map_toArray, List.map_cons, List.map_nil, hs, hx, hrun]
    exact hK _ _ (h a' c' w' h2 h3 h4)

/-- Votes of slots from f on, below k. -/
def selV (L : List Vt) (f k : Int) : List Vt := L.filter (fun v => decide (f ≤ v.s) && decide (v.s < k))
theorem selV_start (L : List Vt) (f k : Int) (h : ∀ v ∈ L, 0 ≤ v.s) (hk : k = max f 0) : selV L f k = [] := by
  unfold selV
  rw [List.filter_eq_nil_iff]
  intro v hv
  have := h v hv
  simp
  omega
theorem selV_end (L : List Vt) (f k : Int) (h : ∀ v ∈ L, v.s < 512) (hk : 512 ≤ k) : selV L f k = fromV L f := by
  unfold selV fromV
  apply List.filter_congr
  intro v hv
  have := h v hv
  rw [decide_eq_true (p := v.s < k) (by omega), Bool.and_true]
theorem selV_step (L : List Vt) (f k : Int) (h : Srt L) (hk : f ≤ k) : selV L f (k + 1) = selV L f k ++ (atV L k).toList := by
  induction L with
  | nil => rfl
  | cons x r ih =>
    obtain ⟨h1, h2⟩ := List.pairwise_cons.1 h
    have e : ∀ m, selV (x :: r) f m = if f ≤ x.s ∧ x.s < m then x :: selV r f m else selV r f m := by
      intro m
      unfold selV
      rw [List.filter_cons]
      by_cases hc : f ≤ x.s ∧ x.s < m
      · rw [if_pos hc, if_pos (by simp [hc])]
      · rw [if_neg hc, if_neg (by simp; omega)]
    rw [e, e, atV_cons]
    by_cases hx : x.s = k
    · rw [if_pos (by omega), if_neg (by omega), if_pos hx]
      have n1 : ∀ m, m ≤ k + 1 → selV r f m = [] := by
        intro m hm
        unfold selV
        rw [List.filter_eq_nil_iff]
        intro v hv
        have := h1 v hv
        simp
        omega
      rw [n1 _ (Int.le_refl _), n1 _ (by omega)]
      rfl
    · rw [if_neg hx, ih h2]
      by_cases hc : f ≤ x.s ∧ x.s < k
      · rw [if_pos (by omega), if_pos hc]
        rfl
      · rw [if_neg (by omega), if_neg hc]
theorem selV_len (L : List Vt) (f k : Int) : (selV L f k).length ≤ L.length := List.length_filter_le _ _
theorem votes_few_aux (L : List Vt) (a : Int) (h : Srt L) (h0 : ∀ v ∈ L, a ≤ v.s ∧ v.s < 512) (ha : a ≤ 512) : (L.length : Int) ≤ 512 - a := by
  induction L generalizing a with
  | nil => simp; omega
  | cons x r ih =>
    obtain ⟨h1, h2⟩ := List.pairwise_cons.1 h
    have hx := h0 x (by simp)
    have := ih (x.s + 1) h2 (fun v hv => ⟨by have := h1 v hv; omega, (h0 v (by simp [hv])).2⟩) (by omega)
    simp only [List.length_cons]
    omega
/-- What is collected behind the slots below k. -/
def VoRel (w : World) (f : Int) (L : List Vt) (ov iv : Value) (wr : World) : Prop :=
  ∃ k : Int, iv = .int .i64 k ∧ max f 0 ≤ k ∧ (k ≤ 512 ∨ k = f) ∧ VOwn w.heap.size wr ov (selV L f k) ∧ Kept NoB w wr
-- GEN (wip/mkaccc.py)
end Go.Proofs.YtclfecninhipnaaGreatDoor
namespace Go.Proofs.YtclfecninhipnaaGreatDoor
open Go.RowKit
set_option linter.unusedVariables false

/-- A ballot. -/
def IsBal (b : Int) : Prop := Fine (b / 8) (b % 8)
open Classical in
noncomputable def canX (p b : Int) : Int := if ¬ IsBal b then 1 else if b < p then 10 else 0
open Classical in
noncomputable def prepX (p b f : Int) : Int := if f < 0 ∨ 512 < f then 1 else canX p b
open Classical in
noncomputable def accX (p b s x : Int) : Int := if ¬ IsBal b ∨ s < 0 ∨ 512 ≤ s then 1 else if x ≠ 0 then x else canX p b
noncomputable def prepP (p b f : Int) : Int := if prepX p b f = 0 then b else p
noncomputable def prepL (p b f : Int) (L : List Vt) : List Vt := if prepX p b f = 0 then fromV L f else []
noncomputable def accP (p b s x : Int) : Int := if accX p b s x = 0 then b else p
noncomputable def accL (p b s x : Int) (L : List Vt) (v : Vt) : List Vt := if accX p b s x = 0 then putV L v else L
def AG (g : Nat) : Nat → Prop := fun k => k = g
theorem MapV.drew {P : Program} {k : TypeId} {f : Vt → Value} {w : World} {bm : Nat} {L : List Vt} (h : MapV P k f w bm L) : MapV P k f w.drew bm L := h
end Go.Proofs.YtclfecninhipnaaGreatDoor
namespace Go.Proofs.YtclfecninhipnaaGreatDoor
open Go.RowKit
set_option linter.unusedVariables false

theorem isBal_of (b : Int) (h1 : 1 ≤ b / 8) (h2 : b / 8 ≤ 1152921504606846975) (h3 : 1 ≤ b % 8) (h4 : b % 8 ≤ 5) : IsBal b := ⟨h1, h2, h3, h4⟩
theorem canX_ok (p b : Int) (h : IsBal b) (hp : p ≤ b) : canX p b = 0 := by unfold canX; rw [if_neg (by simpa using h), if_neg (by omega)]
theorem canX_ep (p b : Int) (h : IsBal b) (hp : b < p) : canX p b = 10 := by unfold canX; rw [if_neg (by simpa using h), if_pos hp]
theorem prepX_9 : prepX 0 9 0 = 0 := by unfold prepX; rw [if_neg (by omega), canX_ok 0 9 (isBal_of 9 (by omega) (by omega) (by omega) (by omega)) (by omega)]
theorem prepX_10 : prepX 17 9 0 = 10 := by unfold prepX; rw [if_neg (by omega), canX_ep 17 9 (isBal_of 9 (by omega) (by omega) (by omega) (by omega)) (by omega)]
theorem accX_17 : accX 9 17 3 0 = 0 := by
  have hb : IsBal 17 := isBal_of 17 (by omega) (by omega) (by omega) (by omega)
  unfold accX
  rw [if_neg (by
    rintro (h | h)
    · exact h hb
    · omega), if_neg (by decide), canX_ok 9 17 hb (by omega)]
def AVotesNil_negRel (w : World) (f : Int) (ov iv : Value) (wr : World) : Prop := ∃ k : Int, iv = .int .i64 k ∧ max f 0 ≤ k ∧ ov = .slice none 0 0 ∧ Kept NoB w wr
def AVotesNil_posRel (w : World) (f : Int) (ov iv : Value) (wr : World) : Prop := ∃ k : Int, iv = .int .i64 k ∧ max f 0 ≤ k ∧ ov = .slice none 0 0 ∧ Kept NoB w wr
/-- A call of an acceptor, by value. -/
structure OpV where
  kd : Int
  b : Int
  s : Int
  k : Int
  ch : Int
  ep : Int
  nd : Int
theorem cells7 {w : World} {g : Nat} {a b c d e f h : Value} {t : TypeId} (hh : w.heap[g]? = some (.cells #[a, b, c, d, e, f, h] t (0, 0))) :
    w.cell? ⟨g, 0, none⟩ = some a ∧ w.cell? ⟨g, 1, none⟩ = some b ∧ w.cell? ⟨g, 2, none⟩ = some c ∧ w.cell? ⟨g, 3, none⟩ = some d ∧ w.cell? ⟨g, 4, none⟩ = some e ∧ w.cell? ⟨g, 5, none⟩ = some f ∧ w.cell? ⟨g, 6, none⟩ = some h :=
  ⟨cell_of_row _ _ 0 _ _ _ hh, cell_of_row _ _ 1 _ _ _ hh, cell_of_row _ _ 2 _ _ _ hh, cell_of_row _ _ 3 _ _ _ hh, cell_of_row _ _ 4 _ _ _ hh, cell_of_row _ _ 5 _ _ _ hh, cell_of_row _ _ 6 _ _ _ hh⟩
end Go.Proofs.YtclfecninhipnaaGreatDoor
namespace Go.Proofs.YtclfecninhipnaaGreatDoor
open Go.ChangeShapes Go.WideShapes Go.ChangeAt Go.RowKit Go.Deep
set_option linter.unusedVariables false

section
variable {H : Type} {enc : TypeId × Value → H} {W : World} {base b0 : Nat}
theorem array7 {α : Type} {cs : Array α} (h : cs.size = 7) : ∃ c0 c1 c2 c3 c4 c5 c6, cs = #[c0, c1, c2, c3, c4, c5, c6] := by
  obtain ⟨l⟩ := cs
  match l, h with
  | [c0, c1, c2, c3, c4, c5, c6], _ => exact ⟨c0, c1, c2, c3, c4, c5, c6, rfl⟩
set_option maxRecDepth 100000 in
/-- Four cells that read as a command. -/
theorem cmd_cells11 {fuel : Nat} {c0 c1 c2 c3 : Value} {x : DataW H × List MemPlace} (ht : DataW.trod enc Tryz.prog W base (fun _ => true) true fuel 41 [c0, c1, c2, c3] = some x) :
    ∃ k0 k1 k2 k3 : Int, c0 = .int .i64 k0 ∧ c1 = .int .i64 k1 ∧ c2 = .int .u64 k2 ∧ c3 = .int .i64 k3 ∧ 0 ≤ k2 ∧ k2 ≤ 18446744073709551615 := by
  obtain ⟨xs, n', _, _, _, hxl, hg⟩ := DataW.trod_struct Tryz.underlying41 ht
  have hxl4 : xs.length = 4 := hxl
  match xs, hxl4 with
  | [y0, y1, y2, y3], _ =>
    have g0 : DataW.trod enc Tryz.prog W base (fun _ => true) true n' 3 [c0] = some y0 := hg 0 _ rfl
    have g1 : DataW.trod enc Tryz.prog W base (fun _ => true) true n' 3 [c1] = some y1 := hg 1 _ rfl
    have g2 : DataW.trod enc Tryz.prog W base (fun _ => true) true n' 23 [c2] = some y2 := hg 2 _ rfl
    have g3 : DataW.trod enc Tryz.prog W base (fun _ => true) true n' 3 [c3] = some y3 := hg 3 _ rfl
    obtain ⟨k0, e0, _, _⟩ := DataW.trod_int Tryz.underlying3 g0
    obtain ⟨k1, e1, _, _⟩ := DataW.trod_int Tryz.underlying3 g1
    obtain ⟨k2, e2, _, w2⟩ := DataW.trod_int Tryz.underlying23 g2
    obtain ⟨k3, e3, _, _⟩ := DataW.trod_int Tryz.underlying3 g3
    simp only [List.cons.injEq, and_true] at e0 e1 e2 e3
    subst e0 e1 e2 e3
    have hk2 := bounds_u64 w2
    exact ⟨k0, k1, k2, k3, rfl, rfl, rfl, rfl, hk2.1, hk2.2⟩
/-- The numbers of a call that fit. -/
def OpFit (o : OpV) : Prop := 0 ≤ o.b ∧ o.b ≤ 18446744073709551615 ∧ -9223372036854775808 ≤ o.s ∧ o.s ≤ 9223372036854775807 ∧ 0 ≤ o.ep ∧ o.ep ≤ 18446744073709551615
/-- The value is a slice of n calls. -/
def OpsAt (w : World) (v : Value) (n : Nat) (it : Nat → OpV) : Prop :=
  ∃ a cap, v = .slice a n cap ∧ n ≤ 9223372036854775807 ∧ (0 < n → ∃ b o, a = some ⟨b, o, none⟩ ∧ b < w.heap.size ∧ ∀ j, j < n → w.cell? ⟨b, o + j * 7, none⟩ = some (.int .i64 (it j).kd) ∧ w.cell? ⟨b, o + j * 7 + 1, none⟩ = some (.int .u64 (it j).b) ∧
    w.cell? ⟨b, o + j * 7 + 2, none⟩ = some (.int .i64 (it j).s) ∧ w.cell? ⟨b, o + j * 7 + 3, none⟩ = some (.int .i64 (it j).k) ∧ w.cell? ⟨b, o + j * 7 + 4, none⟩ = some (.int .i64 (it j).ch) ∧ w.cell? ⟨b, o + j * 7 + 5, none⟩ = some (.int .u64 (it j).ep) ∧
    w.cell? ⟨b, o + j * 7 + 6, none⟩ = some (.int .i64 (it j).nd) ∧ OpFit (it j))
theorem list7 {α : Type} {cs : List α} (h : cs.length = 7) : ∃ c0 c1 c2 c3 c4 c5 c6, cs = [c0, c1, c2, c3, c4, c5, c6] := by
  match cs, h with
  | [c0, c1, c2, c3, c4, c5, c6], _ => exact ⟨c0, c1, c2, c3, c4, c5, c6, rfl⟩
end
end Go.Proofs.YtclfecninhipnaaGreatDoor
namespace Go.Proofs.YtclfecninhipnaaGreatDoor
open Go.RowKit
set_option linter.unusedVariables false

theorem fromV_all {L : List Vt} {f : Int} (h : ∀ v ∈ L, f ≤ v.s) : fromV L f = L := by
  unfold fromV
  rw [List.filter_eq_self]
  intro v hv
  simpa using h v hv
/-- A row's cells. -/
theorem VOwn.cells {B : Nat} {w : World} {v : Value} {L : List Vt} (h : VOwn B w v L) (j : Nat) (hj : j < L.length) :
    ∃ r c, v = .slice (some ⟨r, 0, none⟩) L.length c ∧ r < w.heap.size ∧ w.cell? ⟨r, j * 6, none⟩ = some (.int .i64 L[j].s) ∧ w.cell? ⟨r, j * 6 + 1, none⟩ = some (.int .u64 L[j].b) ∧ w.cell? ⟨r, j * 6 + 2, none⟩ = some (.int .i64 L[j].k) ∧
      w.cell? ⟨r, j * 6 + 3, none⟩ = some (.int .i64 L[j].ch) ∧ w.cell? ⟨r, j * 6 + 4, none⟩ = some (.int .u64 L[j].ep) ∧ w.cell? ⟨r, j * 6 + 5, none⟩ = some (.int .i64 L[j].nd) := by
  obtain ⟨r, cap, rfl, hB, hlt⟩ := World.ownsRow.form h (by omega)
  have hx : ∀ i, i < 6 → ∀ u, (vcs L[j])[i]? = some u → w.cell? ⟨r, j * 6 + i, none⟩ = some u := fun i hi u hu => by
    have := World.ownsRow.cells h (g := r) rfl (j * 6 + i) u (by rw [vcel_at L j i hj hi]; exact hu)
    have hadd : (⟨r, 0, none⟩ : Addr).add (j * 6 + i) = ⟨r, j * 6 + i, none⟩ := by unfold Addr.add; split <;> simp_all
    rw [← hadd]
    exact this
  exact ⟨r, cap, rfl, hlt, hx 0 (by omega) _ rfl, hx 1 (by omega) _ rfl, hx 2 (by omega) _ rfl, hx 3 (by omega) _ rfl, hx 4 (by omega) _ rfl, hx 5 (by omega) _ rfl⟩
end Go.Proofs.YtclfecninhipnaaGreatDoor
namespace Go.Proofs.YtclfecninhipnaaGreatDoor
open Go.RowKit
set_option linter.unusedVariables false

theorem addr_add11 (b o j : Nat) : (⟨b, o, none⟩ : Addr).add j = ⟨b, o + j, none⟩ := by unfold Addr.add; split <;> simp_all
/-- Six cells that are a vote. -/
def VtAt (w : World) (b o : Nat) (v : Vt) : Prop :=
  w.cell? ⟨b, o, none⟩ = some (.int .i64 v.s) ∧ w.cell? ⟨b, o + 1, none⟩ = some (.int .u64 v.b) ∧ w.cell? ⟨b, o + 2, none⟩ = some (.int .i64 v.k) ∧ w.cell? ⟨b, o + 3, none⟩ = some (.int .i64 v.ch) ∧ w.cell? ⟨b, o + 4, none⟩ = some (.int .u64 v.ep) ∧ w.cell? ⟨b, o + 5, none⟩ = some (.int .i64 v.nd)
theorem VtAt.kept {S : Nat → Prop} {w w' : World} {b o : Nat} {v : Vt} (h : VtAt w b o v) (hk : Kept S w w') (hs : ¬ S b) : VtAt w' b o v :=
  ⟨hk.cell (p := ⟨b, o, none⟩) hs h.1, hk.cell (p := ⟨b, o + 1, none⟩) hs h.2.1, hk.cell (p := ⟨b, o + 2, none⟩) hs h.2.2.1, hk.cell (p := ⟨b, o + 3, none⟩) hs h.2.2.2.1, hk.cell (p := ⟨b, o + 4, none⟩) hs h.2.2.2.2.1, hk.cell (p := ⟨b, o + 5, none⟩) hs h.2.2.2.2.2⟩
/-- The value is a slice that reads as these votes, in a block of F. -/
def VRd (w : World) (F : Nat → Prop) (v : Value) (L : List Vt) : Prop :=
  ∃ a c, v = .slice a L.length c ∧ L.length ≤ c ∧ c ≤ maxLen ∧ (a = none → c = 0) ∧ (0 < L.length → ∃ b o, a = some ⟨b, o, none⟩ ∧ F b ∧ b < w.heap.size ∧ ∀ j (hj : j < L.length), VtAt w b (o + j * 6) L[j])
theorem VRd.nil (w : World) (F : Nat → Prop) : VRd w F (.slice none 0 0) [] := ⟨none, 0, rfl, Nat.le_refl _, Nat.zero_le _, fun _ => rfl, fun h => absurd h (by simp)⟩
theorem VRd.form {w : World} {F : Nat → Prop} {v : Value} {L : List Vt} (h : VRd w F v L) : ∃ a c, v = .slice a L.length c := by
  obtain ⟨a, c, h, _⟩ := h
  exact ⟨a, c, h⟩
theorem VRd.kept {S F : Nat → Prop} {w w' : World} {v : Value} {L : List Vt} (h : VRd w F v L) (hk : Kept S w w') (hs : ∀ k, F k → ¬ S k) : VRd w' F v L := by
  obtain ⟨a, c, h1, h2, h3, h4, h5⟩ := h
  exact ⟨a, c, h1, h2, h3, h4, fun hp => by
    obtain ⟨b, o, e, hF, hb, hc⟩ := h5 hp
    exact ⟨b, o, e, hF, Nat.lt_of_lt_of_le hb hk.size, fun j hj => (hc j hj).kept hk (hs b hF)⟩⟩
theorem VRd.no {F : Nat → Prop} {w w' : World} {v : Value} {L : List Vt} (h : VRd w F v L) (hk : Kept NoB w w') : VRd w' F v L := h.kept hk (fun _ _ h => h)
theorem VRd.mono {F G : Nat → Prop} {w : World} {v : Value} {L : List Vt} (h : VRd w F v L) (hG : ∀ k, k < w.heap.size → F k → G k) : VRd w G v L := by
  obtain ⟨a, c, h1, h2, h3, h4, h5⟩ := h
  exact ⟨a, c, h1, h2, h3, h4, fun hp => by
    obtain ⟨b, o, e, hF, hb, hc⟩ := h5 hp
    exact ⟨b, o, e, hG b hb hF, hb, hc⟩⟩
theorem VRd.len {F : Nat → Prop} {w : World} {v : Value} {L : List Vt} (h : VRd w F v L) : L.length ≤ 9223372036854775807 := by
  obtain ⟨a, c, h1, h2, h3, _⟩ := h
  unfold maxLen at h3
  omega
/-- A row of the call's own reads so. -/
theorem VOwn.rd {B : Nat} {w : World} {v : Value} {L : List Vt} {F : Nat → Prop} (h : VOwn B w v L) (hF : ∀ k, v.ownBlock = some k → F k) : VRd w F v L := by
  rcases h.2 with ⟨rfl, h0⟩ | ⟨r, cap, cur, rfl, hb, hr, hc, hm, _⟩
  · obtain rfl : L = [] := List.eq_nil_of_length_eq_zero h0
    exact VRd.nil w F
  · refine ⟨_, cap, rfl, hc, hm, (fun h => by cases h), fun _ => ⟨r, 0, rfl, hF r rfl, heap_lt hr, fun j hj => ?_⟩⟩
    obtain ⟨r', c', e, _, e0, e1, e2, e3, e4, e5⟩ := h.cells j hj
    injection e with e
    injection e with e
    injection e with e
    subst e
    simp only [Nat.zero_add]
    exact ⟨e0, e1, e2, e3, e4, e5⟩
/-- append of votes that a slice has to a row of the call's own. -/
theorem run_append_vts (w : World) (base : Nat) (ty : TypeId) (v : Value) (L : List Vt) (hown : VOwn base w v L) (x : Value) (M : List Vt) (F : Nat → Prop) (hx : VRd w F x M) (hl : L.length + M.length ≤ 100000) (hbase : base ≤ w.heap.size) :
    ∃ a' c' w', (Builtin.append_ #[45, 45] ty #[v, x]).run Tryz.prog w = .ok (.slice a' (L.length + M.length) c') w' ∧ VOwn base w' (.slice a' (L.length + M.length) c') (L ++ M) ∧ w.grownBy w' v.ownBlock ∧
      ((Value.slice a' (L.length + M.length) c').ownBlock = v.ownBlock ∨ (Value.slice a' (L.length + M.length) c').ownBlock = some w.heap.size) := by
  obtain ⟨i0, hi, hz0, hz1, hz2⟩ := info_parts Tryz.info137
  obtain ⟨xa, xc, rfl, h2, h3, h4, h5⟩ := hx
  rcases Nat.eq_zero_or_pos M.length with h0 | h0
  · obtain rfl : M = [] := List.eq_nil_of_length_eq_zero h0
    obtain ⟨a, c, rfl⟩ := hown.form
    cases xa with
    | none =>
      obtain rfl := h4 rfl
      exact ⟨a, c, w, run_append_owned_none w base _ ty _ i0 6 Tryz.underlying45 hi _ _ _ hown, by simpa using hown, ⟨rfl, rfl, rfl, Nat.le_refl _, fun _ _ _ => rfl⟩, .inl rfl⟩
    | some ad =>
      obtain ⟨v', w', hrun, g2, g3, _, g5⟩ := run_append_own_at (P := Tryz.prog) w base 45 ty 137 i0 _ 6 48 Tryz.underlying45 hi hz0 hz1 hz2 rfl (by decide) _ L.length _ hown ad 0 xc [] (by simp) (fun j u hu => by simp at hu) (fun y hy => by cases hy) (by unfold maxLen; omega) (by omega) hbase
      have g2' : VOwn base w' v' L := by
        have := g2
        simp only [List.append_nil, Nat.add_zero] at this
        exact this
      obtain ⟨a', c', e⟩ := g2'.form
      subst e
      exact ⟨a', c', w', hrun, by simpa using g2', g3, g5⟩
  · obtain ⟨b, o, rfl, hF, hb, hc⟩ := h5 h0
    have hcell : ∀ j u, (vcel M)[j]? = some u → w.cell? ((⟨b, o, none⟩ : Addr).add j) = some u := by
      intro j u hu
      have hj : j < (vcel M).length := by
        rcases Nat.lt_or_ge j (vcel M).length with h | h
        · exact h
        · rw [List.getElem?_eq_none h] at hu; cases hu
      rw [vcel_len] at hj
      have hjm : j / 6 < M.length := by omega
      have hd : j = j / 6 * 6 + j % 6 := by omega
      rw [hd, vcel_at M (j / 6) (j % 6) hjm (Nat.mod_lt _ (by decide))] at hu
      obtain ⟨e0, e1, e2, e3, e4, e5⟩ := hc (j / 6) hjm
      rw [addr_add11, show o + j = o + j / 6 * 6 + j % 6 by omega]
      have hm : j % 6 < 6 := Nat.mod_lt _ (by decide)
      generalize j % 6 = i at hu hm ⊢
      match i, hm with
      | 0, _ => simp [vcs] at hu; subst hu; exact e0
      | 1, _ => simp [vcs] at hu; subst hu; exact e1
      | 2, _ => simp [vcs] at hu; subst hu; exact e2
      | 3, _ => simp [vcs] at hu; subst hu; exact e3
      | 4, _ => simp [vcs] at hu; subst hu; exact e4
      | 5, _ => simp [vcs] at hu; subst hu; exact e5
    obtain ⟨v', w', hrun, g2, g3, _, g5⟩ := run_append_own_at (P := Tryz.prog) w base 45 ty 137 i0 _ 6 48 Tryz.underlying45 hi hz0 hz1 hz2 rfl (by decide) v L.length _ hown ⟨b, o, none⟩ M.length xc (vcel M) (vcel_len M) hcell (by
      intro y hy
      unfold vcel at hy
      obtain ⟨z, _, hz⟩ := List.mem_flatMap.1 hy
      simp only [vcs, List.mem_cons, List.not_mem_nil, or_false] at hz
      rcases hz with rfl | rfl | rfl | rfl | rfl | rfl <;> rfl) (by unfold maxLen; omega) (by omega) hbase
    have g2' : VOwn base w' v' (L ++ M) := by
      unfold VOwn
      rw [vcel_app, List.length_append]
      exact g2
    obtain ⟨a', c', e⟩ := g2'.form
    rw [List.length_append] at e
    subst e
    exact ⟨a', c', w', hrun, g2', g3, g5⟩
theorem wpList_append_vts (w : World) {ops : Array Oper} {rest : List Oper} {o : Oper} {a : Act} {Q : Exit → Act → World → Prop} (hgd : o.guard = none) (s x : Operand)
    (ho : o.op = .call { callee := .builtin .append, args := #[s, x], argTypes := #[45, 45] })
    (base : Nat) (v : Value) (L : List Vt) (hs : a.eval s = v) (hown : VOwn base w v L) (y : Value) (M : List Vt) (F : Nat → Prop) (hx : a.eval x = y) (hy : VRd w F y M) (hl : L.length + M.length ≤ 100000) (hbase : base ≤ w.heap.size) (N : Nat) (hN : L.length + M.length = N)
    (h : ∀ a' c' w', VOwn base w' (.slice a' N c') (L ++ M) → w.grownBy w' v.ownBlock → ((Value.slice a' N c').ownBlock = v.ownBlock ∨ (Value.slice a' N c').ownBlock = some w.heap.size) → wpList Tryz.prog ops Q rest (a.put o.dst (.slice a' N c')) w') : wpList Tryz.prog ops Q (o :: rest) a w :=
  wpList_plain hgd fun K hK => by
    subst hN
    obtain ⟨a', c', w', hrun, h2, h3, h4⟩ := run_append_vts w base o.type v L hown y M F hy hl hbase
    unfold Oper.wp execOp
    simp only [ho, resolve, invoke, builtin, Sem.run_bind, Sem.run_pure, Result.andThen_ok, List.map_toArray, List.map_cons, List.map_nil, hs, hx, hrun]
    exact hK _ _ (h a' c' w' h2 h3 h4)
/-- A slice from its i-th vote on. -/
theorem VRd.drop {F : Nat → Prop} {w : World} {a : Option Addr} {c : Nat} {L : List Vt} (h : VRd w F (.slice a L.length c) L) (i : Nat) (hi : i ≤ L.length) :
    VRd w F (.slice (if c = i then a else a.map (·.add (i * 6))) (L.length - i) (c - i)) (L.drop i) := by
  obtain ⟨a', c', e, h2, h3, h4, h5⟩ := h
  injection e with e1 e2 e3
  subst e1 e3
  have hl : (L.drop i).length = L.length - i := List.length_drop
  refine ⟨_, c - i, by rw [hl], by rw [hl]; omega, by omega, fun hn => ?_, fun hp => ?_⟩
  · split at hn
    · have := h4 hn; omega
    · cases a with
      | none => have := h4 rfl; omega
      | some ad => cases hn
  · rw [hl] at hp
    obtain ⟨b, o, rfl, hF, hb, hc⟩ := h5 (by omega)
    rw [if_neg (by omega)]
    refine ⟨b, o + i * 6, by simp [addr_add11], hF, hb, fun j hj => ?_⟩
    rw [hl] at hj
    have := hc (i + j) (by omega)
    rw [List.getElem_drop, show o + i * 6 + j * 6 = o + (i + j) * 6 by omega]
    exact this
end Go.Proofs.YtclfecninhipnaaGreatDoor
