/-
  A window in memory; append to what it holds; a part of it, with no room behind; clear.
-/
import Derived.Test.YtabjpmkkigflmaaGreatDoorWinA
import Derived.Test.YtabjpmkkigflmaaGreatDoorUpdE
import Derived.Maps.AppendAt
import Derived.Lib.SliceRun
import Derived.ArgAppend
namespace Go.Proofs.YtabjpmkkigflmaaGreatDoor
open Go.RowKit
set_option linter.unusedVariables false

/-- The cells of updates, one behind the other from a place of a block on. -/
def CelU (w : World) (r o : Nat) (ps : List (Up × Value)) : Prop := ∀ j (hj : j < ps.length) i, i < 7 → ∀ u, (ucs (ps[j]).1 (ps[j]).2)[i]? = some u → w.cell? ⟨r, o + j * 7 + i, none⟩ = some u
theorem CelU.flat {w : World} {r o : Nat} {ps : List (Up × Value)} (h : CelU w r o ps) : ∀ j u, (ucl ps)[j]? = some u → w.cell? ((⟨r, o, none⟩ : Addr).add j) = some u := by
  intro j u hu
  have hj : j < ps.length * 7 := by
    have := (List.getElem?_eq_some_iff.1 hu).1
    rwa [ucl_len] at this
  have e : j = j / 7 * 7 + j % 7 := by omega
  rw [e, ucl_at ps (j / 7) (j % 7) (by omega) (by omega)] at hu
  rw [addr_add17, show o + j = o + j / 7 * 7 + j % 7 by omega]
  exact h _ (by omega) _ (by omega) u hu
theorem CelU.part {w : World} {r o : Nat} {ps : List (Up × Value)} (h : CelU w r o ps) (f t : Nat) (ht : t ≤ ps.length) : CelU w r (o + f * 7) ((ps.take t).drop f) := by
  intro j hj i hi u hu
  rw [List.length_drop, List.length_take] at hj
  rw [List.getElem_drop, List.getElem_take] at hu
  rw [show o + f * 7 + j * 7 + i = o + (f + j) * 7 + i by omega]
  exact h (f + j) (by omega) i hi u hu
/-- What a window holds is in one block of S: a row with room behind it, or a part of one with none. -/
def HeldRd (w : World) (S : Nat → Prop) (a : Option Addr) (ps : List (Up × Value)) : Prop :=
  0 < ps.length → ∃ r o cs, a = some ⟨r, o, none⟩ ∧ S r ∧ w.heap[r]? = some (.cells cs 34 (0, 0)) ∧ o + ps.length * 7 ≤ cs.size ∧ CelU w r o ps
/-- A part with no room. -/
def ClipAt (w : World) (S : Nat → Prop) (v : Value) (ps : List (Up × Value)) : Prop :=
  ∃ a, v = .slice a ps.length ps.length ∧ ps.length ≤ 100000 ∧ (a = none → ps.length = 0) ∧ HeldRd w S a ps
def HeldAt (w : World) (S : Nat → Prop) (v : Value) (ps : List (Up × Value)) : Prop :=
  (UOw 34 0 w v ps ∧ ps.length ≤ 100000 ∧ ∀ k, v.ownBlock = some k → S k) ∨ ClipAt w S v ps
/-- Both forms read alike. -/
theorem HeldAt.rd {w : World} {S : Nat → Prop} {v : Value} {ps : List (Up × Value)} (h : HeldAt w S v ps) :
    ∃ a c, v = .slice a ps.length c ∧ ps.length ≤ c ∧ c ≤ maxLen ∧ (a = none → c = 0) ∧ HeldRd w S a ps ∧ ps.length ≤ 100000 := by
  rcases h with ⟨h, hl, hS⟩ | ⟨a, h1, h2, h3, h4⟩
  · have h' : w.ownsRow 0 34 7 v ps.length (ucl ps) := h
    rcases h.2 with ⟨rfl, h0⟩ | ⟨r, cap, cur, rfl, hb, hr, hc, hm, hs, ht⟩
    · refine ⟨none, 0, by rw [h0], by omega, Nat.zero_le _, fun _ => rfl, fun h => by omega, hl⟩
    · refine ⟨_, cap, rfl, hc, hm, (fun h => by cases h), fun _ => ⟨r, 0, cur, rfl, hS r rfl, hr, by omega, fun j hj i hi u hu => ?_⟩, hl⟩
      have := h'.cells (g := r) rfl (j * 7 + i) u (by rw [ucl_at ps j i hj hi]; exact hu)
      rw [addr_add17] at this
      rw [show 0 + j * 7 + i = 0 + (j * 7 + i) by omega]
      exact this
  · exact ⟨a, ps.length, h1, Nat.le_refl _, by unfold maxLen; omega, h3, h4, h2⟩
theorem CelU.kept {S : Nat → Prop} {w w' : World} {r o : Nat} {ps : List (Up × Value)} (h : CelU w r o ps) (hk : Kept S w w') (hs : ¬ S r) : CelU w' r o ps := fun j hj i hi u hu => hk.cell (p := ⟨r, o + j * 7 + i, none⟩) hs (h j hj i hi u hu)
theorem HeldRd.kept {S T : Nat → Prop} {w w' : World} {a : Option Addr} {ps : List (Up × Value)} (h : HeldRd w S a ps) (hk : Kept T w w') (hs : ∀ k, S k → ¬ T k) : HeldRd w' S a ps := fun hp => by
  obtain ⟨r, o, cs, h1, h2, h3, h4, h5⟩ := h hp
  exact ⟨r, o, cs, h1, h2, hk.heap (hs r h2) h3, h4, h5.kept hk (hs r h2)⟩
theorem HeldRd.keptR {S T : Nat → Prop} {w w' : World} {a : Option Addr} {ps : List (Up × Value)} (h : HeldRd w S a ps) (hk : Kept T w w') (hs : ∀ r o, a = some ⟨r, o, none⟩ → ¬ T r) : HeldRd w' S a ps := fun hp => by
  obtain ⟨r, o, cs, h1, h2, h3, h4, h5⟩ := h hp
  have := hs r o h1
  exact ⟨r, o, cs, h1, h2, hk.heap this h3, h4, h5.kept hk this⟩
theorem HeldRd.mono {S T : Nat → Prop} {w : World} {a : Option Addr} {ps : List (Up × Value)} (h : HeldRd w S a ps) (hs : ∀ k, S k → T k) : HeldRd w T a ps := fun hp => by
  obtain ⟨r, o, cs, h1, h2, h3⟩ := h hp
  exact ⟨r, o, cs, h1, hs r h2, h3⟩
theorem HeldAt.kept {S T : Nat → Prop} {w w' : World} {v : Value} {ps : List (Up × Value)} (h : HeldAt w S v ps) (hk : Kept T w w') (hs : ∀ k, S k → ¬ T k) : HeldAt w' S v ps := by
  rcases h with ⟨h, hl, hS⟩ | ⟨a, h1, h2, h3, h4⟩
  · exact .inl ⟨h.kept hk (fun k hk => hs k (hS k hk)), hl, hS⟩
  · exact .inr ⟨a, h1, h2, h3, h4.kept hk hs⟩
theorem HeldAt.mono {S T : Nat → Prop} {w : World} {v : Value} {ps : List (Up × Value)} (h : HeldAt w S v ps) (hs : ∀ k, S k → T k) : HeldAt w T v ps := by
  rcases h with ⟨h, hl, hS⟩ | ⟨a, h1, h2, h3, h4⟩
  · exact .inl ⟨h, hl, fun k hk => hs k (hS k hk)⟩
  · exact .inr ⟨a, h1, h2, h3, h4.mono hs⟩
/-- The slice reads as updates, their data in blocks of F. -/
theorem HeldRd.us {S F : Nat → Prop} {w : World} {a : Option Addr} {c : Nat} {ps : List (Up × Value)} (h : HeldRd w S a ps) (hS : ∀ k, S k → F k) (hd : DatU w F ps) (hc : ps.length ≤ c) (hm : c ≤ maxLen) (hn : a = none → c = 0) : UsAt w F (.slice a ps.length c) (ps.map Prod.fst) := by
  have hl : (ps.map Prod.fst).length = ps.length := List.length_map _
  refine ⟨a, c, by rw [hl], by rw [hl]; exact hc, hm, hn, fun hp => ?_⟩
  rw [hl] at hp
  obtain ⟨r, o, cs, rfl, h2, h3, h4, h5⟩ := h hp
  refine ⟨r, o, rfl, hS r h2, heap_lt h3, fun j hj => ?_⟩
  rw [hl] at hj
  have hx : ∀ i, i < 7 → ∀ u, (ucs (ps[j]).1 (ps[j]).2)[i]? = some u → w.cell? ⟨r, o + j * 7 + i, none⟩ = some u := fun i hi u hu => h5 j hj i hi u hu
  have hnj : nthU (ps.map Prod.fst) j = (ps[j]).1 := by rw [nthU_at (by rw [hl]; exact hj)]; simp
  rw [hnj]
  exact ⟨(ps[j]).2, hx 0 (by omega) _ rfl, hx 1 (by omega) _ rfl, hx 2 (by omega) _ rfl, hx 3 (by omega) _ rfl, hx 4 (by omega) _ rfl, hx 5 (by omega) _ rfl, hx 6 (by omega) _ rfl, hd _ (List.getElem_mem hj)⟩
/-- A part of what is held, with no room behind. -/
def clipV (a : Option Addr) (f t c : Nat) : Value := .slice (if t - f = 0 then a else a.map (·.add (f * 7))) (t - f) (t - f)
theorem HeldRd.part {S : Nat → Prop} {w : World} {a : Option Addr} {ps : List (Up × Value)} (h : HeldRd w S a ps) (f t : Nat) (hft : f ≤ t) (ht : t ≤ ps.length) (hl : ps.length ≤ 100000) (a' : Option Addr) (ha : f < t → a' = a.map (·.add (f * 7))) (hn : a' = none → a = none) :
    ClipAt w S (.slice a' (t - f) (t - f)) ((ps.take t).drop f) := by
  have e : ((ps.take t).drop f).length = t - f := by rw [List.length_drop, List.length_take]; omega
  refine ⟨a', by rw [e], by rw [e]; omega, fun h0 => ?_, fun hp => ?_⟩
  · rw [e]
    rcases Nat.eq_zero_or_pos (t - f) with h1 | h1
    · exact h1
    · have := hn h0
      obtain ⟨r, o, cs, h2, _⟩ := h (by omega)
      rw [this] at h2
      cases h2
  · rw [e] at hp
    obtain ⟨r, o, cs, rfl, h2, h3, h4, h5⟩ := h (by omega)
    refine ⟨r, o + f * 7, cs, ?_, h2, h3, by rw [e]; omega, h5.part f t ht⟩
    rw [ha (by omega)]
    simp [addr_add17]
/-- The blocks of S, and those that are new. -/
def NewIn (S : Nat → Prop) (w w' : World) : Nat → Prop := fun k => S k ∨ (w.heap.size ≤ k ∧ k < w'.heap.size)
/-- append of one update, that a slice has, to what is held. -/
theorem run_append_held (w : World) (ty : TypeId) (S : Nat → Prop) (v : Value) (ps : List (Up × Value)) (h : HeldAt w S v ps) (r o c : Nat) (p : Up × Value) (hp : CelU w r o [p]) (hu : p.2.oneCell' = true) (hl : ps.length ≤ 50000) :
    ∃ v' w', (Builtin.append_ #[27, 27] ty #[v, .slice (some ⟨r, o, none⟩) 1 c]).run Tryz.prog w = .ok v' w' ∧ HeldAt w' (NewIn S w w') v' (ps ++ [p]) ∧ Kept S w w' ∧ ∀ (z : Value) (l : List Int) (F : Nat → Prop), Own w F z l → Own w' F z l := by
  obtain ⟨i0, hi, hz0, hz1, hz2⟩ := info_parts info_upd
  have h7 : (ucl [p]).length = 1 * 7 := ucl_len [p]
  have hone : ∀ u ∈ ucl [p], u.oneCell' = true := by
    intro u hx
    simp only [ucl, ucs, List.flatMap_cons, List.flatMap_nil, List.append_nil, List.mem_cons, List.not_mem_nil, or_false] at hx
    rcases hx with rfl | rfl | rfl | rfl | rfl | rfl | rfl
    iterate 6 rfl
    exact hu
  rcases h with ⟨h, hl2, hS⟩ | ⟨a, rfl, hl2, h3, h4⟩
  · obtain ⟨v', w', hrun, h2, h3, _, h5⟩ := run_append_own_at (P := Tryz.prog) w 0 27 ty 34 i0 _ 7 72 Tryz.underlying27 hi hz0 hz1 hz2 rfl (by decide) v ps.length _ h ⟨r, o, none⟩ 1 c (ucl [p]) h7 hp.flat hone (by unfold maxLen; omega) (by omega) (Nat.zero_le _)
    have h2' : UOw 34 0 w' v' (ps ++ [p]) := by
      unfold UOw
      rw [ucl_app, List.length_append]
      exact h2
    refine ⟨v', w', hrun, .inl ⟨h2', by rw [List.length_append, List.length_singleton]; omega, fun k hk => ?_⟩, (Kept.refl S w).grown h3 (fun k hk => .inl (hS k hk)), fun z l F hz => hz.kept17 ((Kept.refl (fun k => some k = v.ownBlock) w).grown h3 (fun k hk => .inl hk.symm)) (fun k cs fr hh _ he => own_ne (g := k) h hh (by decide) he)⟩
    have hb := h2'.base k hk
    rcases h5 with e | e <;> rw [e] at hk
    · exact .inl (hS k hk)
    · injection hk with hk; exact .inr ⟨by omega, hb.2⟩
  · rcases a with _ | ad
    · have h0 := h3 rfl
      obtain rfl : ps = [] := List.eq_nil_of_length_eq_zero h0
      obtain ⟨v', w', hrun, h2, h3, _, h5⟩ := run_append_own_at (P := Tryz.prog) w 0 27 ty 34 i0 _ 7 72 Tryz.underlying27 hi hz0 hz1 hz2 rfl (by decide) (.slice none 0 0) 0 _ (World.ownsRow_nil w _ _ _) ⟨r, o, none⟩ 1 c (ucl [p]) h7 hp.flat hone (by unfold maxLen; omega) (by omega) (Nat.zero_le _)
      refine ⟨v', w', hrun, .inl ⟨h2, by simp, fun k hk => ?_⟩, (Kept.refl S w).grown h3 (fun k hk => by cases hk), fun z l F hz => hz.kept ((Kept.refl NoB w).grown h3 (fun k hk => by cases hk)) (fun _ _ h => h)⟩
      have hb := UOw.base (l := [p]) h2 k hk
      rcases h5 with e | e <;> rw [e] at hk
      · cases hk
      · injection hk with hk; exact .inr ⟨by omega, hb.2⟩
    · have hcel : ∀ j u, (ucl ps)[j]? = some u → w.cell? (ad.add j) = some u := by
        intro j u hu
        rcases Nat.eq_zero_or_pos ps.length with h0 | h0
        · obtain rfl : ps = [] := List.eq_nil_of_length_eq_zero h0
          simp [ucl] at hu
        · obtain ⟨r', o', cs, e, _, _, _, h9⟩ := h4 h0
          have e2 : ad = ⟨r', o', none⟩ := Option.some.inj e
          rw [e2]
          exact h9.flat j u hu
      obtain ⟨v', w', hrun, h2, h3'⟩ := run_append_arg_grows (P := Tryz.prog) w 27 ty 34 i0 _ 7 72 Tryz.underlying27 hi hz0 hz1 hz2 rfl (by decide) ad ps.length ps.length (ucl ps) (ucl_len ps) hcel ⟨r, o, none⟩ 1 c (ucl [p]) h7 hp.flat (by omega) (by unfold maxLen; omega) (by omega)
      have h2' : UOw 34 w.heap.size w' v' (ps ++ [p]) := by
        unfold UOw
        rw [ucl_app, List.length_append]
        exact h2
      refine ⟨v', w', hrun, .inl ⟨h2'.mono (Nat.zero_le _), by rw [List.length_append, List.length_singleton]; omega, fun k hk => .inr (h2'.base k hk)⟩, (Kept.refl S w).grown h3' (fun k hk => by cases hk), fun z l F hz => hz.kept ((Kept.refl NoB w).grown h3' (fun k hk => by cases hk)) (fun _ _ h => h)⟩
theorem heap_puts20 {g : Nat} {t : TypeId} {fr : Nat × Nat} : ∀ (vs : List Value) (o : Nat) (w : World) (cur : Array Value), w.heap[g]? = some (.cells cur t fr) → o + vs.length ≤ cur.size →
    ∃ cur', (w.setCells g o vs).heap[g]? = some (.cells cur' t fr) ∧ cur'.size = cur.size ∧ cur'.toList = cur.toList.take o ++ vs ++ cur.toList.drop (o + vs.length)
  | [], o, w, cur, h, hl => ⟨cur, h, rfl, by simp⟩
  | v :: vs, o, w, cur, h, hl => by
    simp only [List.length_cons] at hl
    obtain ⟨cur', h1, h2, h3⟩ := heap_puts20 vs (o + 1) (w.setCell ⟨g, o, none⟩ v) (cur.setIfInBounds o v) (blkU_set h o v) (by simp; omega)
    refine ⟨cur', h1, by simpa using h2, ?_⟩
    rw [h3, Array.toList_setIfInBounds]
    have hlt : o < cur.toList.length := by simp; omega
    have e1 : (cur.toList.set o v).take (o + 1) = cur.toList.take o ++ [v] := by
      rw [List.take_succ_eq_append_getElem (by simpa using hlt)]
      simp [List.take_set_of_le]
    rw [e1, List.drop_set_of_lt (by omega)]
    simp only [List.append_assoc, List.cons_append, List.nil_append, List.length_cons]
    rw [show o + 1 + vs.length = o + (vs.length + 1) by omega]
theorem kept_puts20 {S : Nat → Prop} {g : Nat} {a : World} (hS : S g ∨ a.heap.size ≤ g) : ∀ (vs : List Value) (o : Nat) (w : World), Kept S a w → Kept S a (w.setCells g o vs)
  | [], _, _, h => h
  | v :: vs, o, w, h => kept_puts20 hS vs (o + 1) _ (h.setCell (p := ⟨g, o, none⟩) hS v)
theorem zero_upd (w : World) : (zeroValue 34).run Tryz.prog w = .ok (.agg #[.int .u64 0, .int .i64 0, .int .u64 0, .int .i64 0, .int .u32 0, .int .u64 0, .slice none 0 0]) w := by kernel_rfl
/-- What clear writes. -/
def zer7 (n : Nat) : List Value := (Builtin.zeroCells #[.int .u64 0, .int .i64 0, .int .u64 0, .int .i64 0, .int .u32 0, .int .u64 0, .slice none 0 0] n).toList
theorem zer7_len (n : Nat) : (zer7 n).length = n * 7 := by unfold zer7; rw [Array.length_toList, size_zeroCells]; rfl
theorem zer7_one (n : Nat) : ∀ v ∈ zer7 n, v.oneCell' = true := by
  intro v hv
  unfold zer7 Builtin.zeroCells at hv
  rw [Array.mem_toList_iff, Array.mem_map] at hv
  obtain ⟨i, _, rfl⟩ := hv
  have h3 : i % 7 < 7 := Nat.mod_lt _ (by decide)
  show ((#[Value.int .u64 0, .int .i64 0, .int .u64 0, .int .i64 0, .int .u32 0, .int .u64 0, .slice none 0 0] : Array Value)[i % 7]!).oneCell' = true
  match i % 7, h3 with
  | 0, _ | 1, _ | 2, _ | 3, _ | 4, _ | 5, _ | 6, _ => rfl
theorem run_clear20 (w : World) (ty : TypeId) (b o n c : Nat) (hn : 0 < n) (hc : ∀ j, j < n * 7 → (w.cell? ⟨b, o + j, none⟩).isSome = true) (hf : ∀ j, j < n * 7 → w.frozen? ⟨b, o + j, none⟩ = false) :
    (Builtin.clear_ #[27] ty #[.slice (some ⟨b, o, none⟩) n c]).run Tryz.prog w = .ok (.tuple #[]) (w.setCells b o (zer7 n)) := by
  have hst := run_storeCells_cells (P := Tryz.prog) b o (zer7 n) 0 w (by rw [zer7_len]; simpa using hc) (by rw [zer7_len]; simpa using hf) (zer7_one n)
  simp only [Nat.add_zero] at hst
  unfold zer7 at hst ⊢
  obtain ⟨m, rfl⟩ : ∃ m, n = m + 1 := ⟨n - 1, by omega⟩
  have hz : ∀ w, (zeroValue 34).run Tryz.prog w = .ok (.agg #[.int .u64 0, .int .i64 0, .int .u64 0, .int .i64 0, .int .u32 0, .int .u64 0, .slice none 0 0]) w := zero_upd
  simp [Builtin.clear_, run_underlying Tryz.underlying27, hz, Value.cells, hst]
/-- The first k of what a block holds are cleared: the others stay. -/
theorem held_clear (w : World) (S : Nat → Prop) (r o k c : Nat) (cs : Array Value) (ps : List (Up × Value)) (hk0 : 0 < k) (hk : k ≤ ps.length) (hr : w.heap[r]? = some (.cells cs 34 (0, 0))) (ho : o + ps.length * 7 ≤ cs.size) (hp : CelU w r o ps) :
    ∃ w', (∀ ty, (Builtin.clear_ #[27] ty #[.slice (some ⟨r, o, none⟩) k c]).run Tryz.prog w = .ok (.tuple #[]) w') ∧ Kept (fun i => i = r) w w' ∧ (∃ cs', w'.heap[r]? = some (.cells cs' 34 (0, 0)) ∧ cs'.size = cs.size) ∧ CelU w' r (o + k * 7) (ps.drop k) := by
  obtain ⟨cs', h1, h2, h3⟩ := heap_puts20 (g := r) (zer7 k) o w cs hr (by rw [zer7_len]; omega)
  refine ⟨_, fun ty => run_clear20 w ty r o k c hk0 (fun j hj => by rw [cell_of_row _ _ _ _ _ _ hr, Array.getElem?_eq_getElem (by omega)]; rfl) (fun j hj => blkU_frozen hr _), kept_puts20 (S := fun i => i = r) (.inl (by show r = r; rfl)) _ _ _ (Kept.refl _ w), ⟨cs', h1, h2⟩, fun j hj i hi u hu => ?_⟩
  rw [List.length_drop] at hj
  rw [List.getElem_drop] at hu
  have hold := hp (k + j) (by omega) i hi u hu
  rw [cell_of_row _ _ _ _ _ _ hr] at hold
  rw [cell_of_row _ _ _ _ _ _ h1, ← Array.getElem?_toList, h3]
  have hl : (cs.toList.take o ++ zer7 k).length = o + k * 7 := by rw [List.length_append, List.length_take, zer7_len, Array.length_toList]; omega
  rw [List.getElem?_append_right (by rw [hl]; omega), hl, List.getElem?_drop, zer7_len, show o + k * 7 + (o + k * 7 + j * 7 + i - (o + k * 7)) = o + (k + j) * 7 + i by omega, Array.getElem?_toList]
  exact hold
end Go.Proofs.YtabjpmkkigflmaaGreatDoor
