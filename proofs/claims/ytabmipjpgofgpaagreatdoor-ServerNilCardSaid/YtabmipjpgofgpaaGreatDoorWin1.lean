/-
  A window, in plain words. A window in memory; append to what it holds; a part of it, with no room behind; clear. Package window: between. Package window: forget. Package window: New, Low, End, Done, Held, Dirty, Room, From; of no window.
-/
import Derived.Test.YtabmipjpgofgpaaGreatDoorUpd1
import Derived.Maps.AppendAt
import Derived.Lib.SliceRun
import Derived.ArgAppend
import Derived.IntWalk
import Derived.Deep.CutRange
namespace Go.Proofs.YtabmipjpgofgpaaGreatDoor
open Go.RowKit
set_option linter.unusedVariables false

/-- A window: the numbers, and the updates that are held. -/
structure Wn where
  low : Nat
  en : Nat
  done : Nat
  l : List Up
/-- What a window is. -/
structure WnOk (x : Wn) : Prop where
  ld : x.low ≤ x.done
  de : x.done ≤ x.en
  top : x.en ≤ 9223372036854775807
  len : x.l.length = x.en - x.low
  few : x.l.length ≤ 5000
  seq : ∀ j, j < x.l.length → (nthU x.l j).q = ((x.low + 1 + j : Nat) : Int)
  fit : FitsU x.l
  small : ∀ u ∈ x.l, u.d.length ≤ 1000000
def newW (a : Nat) : Wn := ⟨a, a, a, []⟩
/-- Where a window's low comes to stand. -/
def lowW (x : Wn) : Nat := max x.low (min x.done (x.en - 32))
def forgetW (x : Wn) : Wn := ⟨lowW x, x.en, x.done, x.l.drop (lowW x - x.low)⟩
def addW (x : Wn) (u : Up) : Wn := forgetW ⟨x.low, x.en + 1, x.done, x.l ++ [u]⟩
def doneW (x : Wn) (d : Nat) : Nat := max x.done (min d x.en)
def reachW (x : Wn) (d : Nat) : Wn := forgetW ⟨x.low, x.en, doneW x d, x.l⟩
/-- The updates behind one number, up to another one. -/
def betW (x : Wn) (a b : Nat) : List Up := (x.l.take (b - x.low)).drop (a - x.low)
def outW (x : Wn) (d : Nat) : List Up := betW x x.done (doneW x d)
theorem betW_len {x : Wn} (h : WnOk x) {a b : Nat} (h1 : x.low ≤ a) (h2 : a ≤ b) (h3 : b ≤ x.en) : (betW x a b).length = b - a := by
  unfold betW
  rw [List.length_drop, List.length_take, h.len]
  omega
theorem betW_mem {x : Wn} {a b : Nat} {u : Up} (h : u ∈ betW x a b) : u ∈ x.l := List.mem_of_mem_take (List.mem_of_mem_drop h)
theorem betW_fit {x : Wn} (h : WnOk x) (a b : Nat) : FitsU (betW x a b) := fun u hu => h.fit u (betW_mem hu)
theorem betW_small {x : Wn} (h : WnOk x) (a b : Nat) : ∀ u ∈ betW x a b, u.d.length ≤ 1000000 := fun u hu => h.small u (betW_mem hu)
theorem nthU_drop (l : List Up) (k j : Nat) : nthU (l.drop k) j = nthU l (k + j) := by
  unfold nthU
  rw [List.getD_eq_getElem?_getD, List.getD_eq_getElem?_getD, List.getElem?_drop]
theorem betW_nth {x : Wn} (h : WnOk x) {a b j : Nat} (h1 : x.low ≤ a) (h3 : b ≤ x.en) (hj : a + j < b) : nthU (betW x a b) j = nthU x.l (a - x.low + j) := by
  unfold betW
  rw [nthU_drop, nthU_take (by omega)]
theorem newW_ok (a : Nat) (h : a ≤ 9223372036854775807) : WnOk (newW a) := by
  refine ⟨Nat.le_refl _, Nat.le_refl _, h, ?_, ?_, ?_, ?_, ?_⟩
  · show 0 = a - a; omega
  · exact Nat.zero_le _
  · intro j hj; exact absurd hj (by show ¬ j < 0; omega)
  · intro x hx; cases hx
  · intro x hx; cases hx
theorem forgetW_ok {x : Wn} (h : WnOk x) : WnOk (forgetW x) := by
  have hl : lowW x ≤ x.done ∧ x.low ≤ lowW x := by
    unfold lowW
    have := h.ld
    omega
  have h2 := h.de
  have h3 := h.len
  refine ⟨hl.1, h.de, h.top, ?_, ?_, ?_, ?_, ?_⟩
  · show (x.l.drop _).length = x.en - lowW x
    rw [List.length_drop, h3]
    omega
  · show (x.l.drop _).length ≤ 5000
    have := h.few
    rw [List.length_drop]
    omega
  · intro j hj
    have hj' : j < (x.l.drop (lowW x - x.low)).length := hj
    rw [List.length_drop] at hj'
    show (nthU (x.l.drop (lowW x - x.low)) j).q = ((lowW x + 1 + j : Nat) : Int)
    rw [nthU_drop, h.seq _ (by omega)]
    congr 1
    omega
  · exact fun u hu => h.fit u (List.mem_of_mem_drop hu)
  · exact fun u hu => h.small u (List.mem_of_mem_drop hu)
theorem nthU_app (l : List Up) (u : Up) (j : Nat) (hj : j < l.length) : nthU (l ++ [u]) j = nthU l j := by
  unfold nthU
  rw [List.getD_eq_getElem?_getD, List.getD_eq_getElem?_getD, List.getElem?_append_left hj]
theorem nthU_last (l : List Up) (u : Up) : nthU (l ++ [u]) l.length = u := by
  unfold nthU
  rw [List.getD_eq_getElem?_getD, List.getElem?_append_right (Nat.le_refl _)]
  simp
/-- With one more update. -/
theorem moreW_ok {x : Wn} (h : WnOk x) {u : Up} (hq : u.q = ((x.en + 1 : Nat) : Int)) (hf : FitU u) (hs : u.d.length ≤ 1000000) (ht : x.en + 1 ≤ 9223372036854775807) (hl : x.l.length < 5000) : WnOk ⟨x.low, x.en + 1, x.done, x.l ++ [u]⟩ := by
  have h2 := h.de
  have h3 := h.len
  have h4 := h.ld
  refine ⟨h.ld, by show x.done ≤ x.en + 1; omega, ht, ?_, ?_, ?_, ?_, ?_⟩
  · show (x.l ++ [u]).length = x.en + 1 - x.low
    rw [List.length_append, h3, List.length_singleton]
    omega
  · show (x.l ++ [u]).length ≤ 5000
    rw [List.length_append, List.length_singleton]
    omega
  · intro j hj
    have hj' : j < (x.l ++ [u]).length := hj
    rw [List.length_append, List.length_singleton] at hj'
    show (nthU (x.l ++ [u]) j).q = ((x.low + 1 + j : Nat) : Int)
    by_cases e : j < x.l.length
    · rw [nthU_app _ _ _ e]
      exact h.seq j e
    · obtain rfl : j = x.l.length := by omega
      rw [nthU_last, hq]
      congr 1
      omega
  · intro y hy
    rcases List.mem_append.1 hy with hy | hy
    · exact h.fit y hy
    · obtain rfl : y = u := by simpa using hy
      exact hf
  · intro y hy
    rcases List.mem_append.1 hy with hy | hy
    · exact h.small y hy
    · obtain rfl : y = u := by simpa using hy
      exact hs
theorem addW_ok {x : Wn} (h : WnOk x) {u : Up} (hq : u.q = ((x.en + 1 : Nat) : Int)) (hf : FitU u) (hs : u.d.length ≤ 1000000) (ht : x.en + 1 ≤ 9223372036854775807) (hl : x.l.length < 5000) : WnOk (addW x u) := forgetW_ok (moreW_ok h hq hf hs ht hl)
theorem doneW_ok {x : Wn} (h : WnOk x) (d : Nat) : WnOk ⟨x.low, x.en, doneW x d, x.l⟩ := by
  have h1 := h.ld
  have h2 := h.de
  refine ⟨?_, ?_, h.top, h.len, h.few, h.seq, h.fit, h.small⟩
  · show x.low ≤ doneW x d; unfold doneW; omega
  · show doneW x d ≤ x.en; unfold doneW; omega
theorem reachW_ok {x : Wn} (h : WnOk x) (d : Nat) : WnOk (reachW x d) := forgetW_ok (doneW_ok h d)
/-! ### the chapter's way: filters -/
/-- Of updates whose numbers follow each other those above a number are the last ones. -/
theorem filter_above (l : List Up) (low k : Nat) (hs : ∀ j, j < l.length → (nthU l j).q = ((low + 1 + j : Nat) : Int)) (hk : low ≤ k) : l.filter (fun u => decide ((k : Int) < u.q)) = l.drop (k - low) := by
  induction l generalizing low with
  | nil => simp
  | cons u l ih =>
    have h0 : u.q = ((low + 1 + 0 : Nat) : Int) := hs 0 (by simp)
    have ht : ∀ j, j < l.length → (nthU l j).q = ((low + 1 + 1 + j : Nat) : Int) := fun j hj => by
      have := hs (j + 1) (by simp only [List.length_cons]; omega)
      rw [show nthU (u :: l) (j + 1) = nthU l j from rfl] at this
      rw [this]
      congr 1
      omega
    by_cases e : k = low
    · subst e
      rw [Nat.sub_self, List.drop_zero]
      refine List.filter_eq_self.2 fun y hy => ?_
      rcases List.mem_cons.1 hy with rfl | hy
      · simp only [decide_eq_true_eq, h0]; omega
      · obtain ⟨j, hj, rfl⟩ := List.getElem_of_mem hy
        have := ht j hj
        rw [nthU_at hj] at this
        simp only [decide_eq_true_eq, this]
        omega
    · rw [List.filter_cons, if_neg (by simp only [decide_eq_true_eq, h0]; omega), ih (low + 1) ht (by omega), show k - low = (k - (low + 1)) + 1 by omega, List.drop_succ_cons]
theorem filter_upto (l : List Up) (low k : Nat) (hs : ∀ j, j < l.length → (nthU l j).q = ((low + 1 + j : Nat) : Int)) (hk : low ≤ k) : l.filter (fun u => decide (u.q ≤ (k : Int))) = l.take (k - low) := by
  induction l generalizing low with
  | nil => simp
  | cons u l ih =>
    have h0 : u.q = ((low + 1 + 0 : Nat) : Int) := hs 0 (by simp)
    have ht : ∀ j, j < l.length → (nthU l j).q = ((low + 1 + 1 + j : Nat) : Int) := fun j hj => by
      have := hs (j + 1) (by simp only [List.length_cons]; omega)
      rw [show nthU (u :: l) (j + 1) = nthU l j from rfl] at this
      rw [this]
      congr 1
      omega
    by_cases e : k = low
    · subst e
      rw [Nat.sub_self, List.take_zero]
      refine List.filter_eq_nil_iff.2 fun y hy => ?_
      rcases List.mem_cons.1 hy with rfl | hy
      · simp only [decide_eq_true_eq, h0]; omega
      · obtain ⟨j, hj, rfl⟩ := List.getElem_of_mem hy
        have := ht j hj
        rw [nthU_at hj] at this
        simp only [decide_eq_true_eq, this]
        omega
    · rw [List.filter_cons, if_pos (by simp only [decide_eq_true_eq, h0]; omega), ih (low + 1) ht (by omega), show k - low = (k - (low + 1)) + 1 by omega, List.take_succ_cons]
/-- What the chapter's Reach tells. -/
theorem out_filter {x : Wn} (h : WnOk x) (d : Nat) : x.l.filter (fun u => decide ((x.done : Int) < u.q) && decide (u.q ≤ (doneW x d : Int))) = outW x d := by
  have h1 := h.ld
  have h2 : x.low ≤ doneW x d := by unfold doneW; omega
  rw [← List.filter_filter, filter_upto x.l x.low (doneW x d) h.seq h2]
  unfold outW betW
  refine filter_above _ x.low x.done (fun j hj => ?_) h1
  rw [List.length_take] at hj
  rw [nthU_take (by omega), h.seq j (by omega)]
theorem kept_filter {x : Wn} (h : WnOk x) : x.l.filter (fun u => decide ((lowW x : Int) < u.q)) = (forgetW x).l :=
  filter_above x.l x.low (lowW x) h.seq (by unfold lowW; omega)
/-- Batch of all that are held, and of those behind a number. -/
theorem selU_skip (after most s : Int) (l m : List Up) (h : ∀ u ∈ l, u.q ≤ after) : selU (batU after most) s (l ++ m) = selU (batU after most) s m := by
  induction l with
  | nil => rfl
  | cons u l ih =>
    have hu : batU after most s u = (false, s) := by
      unfold batU
      rw [if_pos (.inl (h u (by simp)))]
    simp only [List.cons_append, selU, hu]
    exact ih (fun y hy => h y (by simp [hy]))
theorem bat_from {x : Wn} (h : WnOk x) (got : Nat) (most : Int) (h1 : x.low ≤ got) (h2 : got ≤ x.en) : selU (batU got most) 0 (betW x got x.en) = selU (batU got most) 0 x.l := by
  have hl := h.len
  have e : betW x got x.en = x.l.drop (got - x.low) := by
    unfold betW
    rw [List.take_of_length_le (by omega)]
  rw [e]
  have := List.take_append_drop (got - x.low) x.l
  conv => rhs; rw [← this]
  refine (selU_skip _ _ _ _ _ fun u hu => ?_).symm
  obtain ⟨j, hj, rfl⟩ := List.getElem_of_mem hu
  rw [List.length_take] at hj
  rw [List.getElem_take]
  have := h.seq j (by omega)
  rw [nthU_at (by omega)] at this
  rw [this]
  omega
end Go.Proofs.YtabmipjpgofgpaaGreatDoor
namespace Go.Proofs.YtabmipjpgofgpaaGreatDoor
open Go.RowKit
set_option linter.unusedVariables false

/-- The cells of updates, one behind the other from a place of a block on. -/
def CelU (w : World) (r o : Nat) (ps : List (Up × Value)) : Prop := ∀ j (hj : j < ps.length) i, i < 7 → ∀ u, (ucs (ps[j]).1 (ps[j]).2)[i]? = some u → w.cell? ⟨r, o + j * 7 + i, none⟩ = some u
theorem CelU.flat {w : World} {r o : Nat} {ps : List (Up × Value)} (h : CelU w r o ps) : ∀ j u, (ucl ps)[j]? = some u → w.cell? ((⟨r, o, none⟩ : Addr).add j) = some u := by
  intro j u hu
  have hj : j < ps.length * 7 := by
    have := (List.getElem?_eq_some_iff.1 hu).1
    rwa [ucl_len] at this
  have e : j = j / 7 * 7 + j % 7 := by omega
  rw [e, ucl_at ps (j / 7) (j % 7) (by omega) (by omega)] at hu
  rw [addr_add17, show o + j = o + j / 7 * 7 + j % 7 by omega]
  exact h _ (by omega) _ (by omega) u hu
theorem CelU.part {w : World} {r o : Nat} {ps : List (Up × Value)} (h : CelU w r o ps) (f t : Nat) (ht : t ≤ ps.length) : CelU w r (o + f * 7) ((ps.take t).drop f) := by
  intro j hj i hi u hu
  rw [List.length_drop, List.length_take] at hj
  rw [List.getElem_drop, List.getElem_take] at hu
  rw [show o + f * 7 + j * 7 + i = o + (f + j) * 7 + i by omega]
  exact h (f + j) (by omega) i hi u hu
/-- What a window holds is in one block of S: a row with room behind it, or a part of one with none. -/
def HeldRd (w : World) (S : Nat → Prop) (a : Option Addr) (ps : List (Up × Value)) : Prop :=
  0 < ps.length → ∃ r o cs, a = some ⟨r, o, none⟩ ∧ S r ∧ w.heap[r]? = some (.cells cs 36 (0, 0)) ∧ o + ps.length * 7 ≤ cs.size ∧ CelU w r o ps
/-- A part with no room. -/
def ClipAt (w : World) (S : Nat → Prop) (v : Value) (ps : List (Up × Value)) : Prop :=
  ∃ a, v = .slice a ps.length ps.length ∧ ps.length ≤ 100000 ∧ (a = none → ps.length = 0) ∧ HeldRd w S a ps
def HeldAt (w : World) (S : Nat → Prop) (v : Value) (ps : List (Up × Value)) : Prop :=
  (UOw 36 0 w v ps ∧ ps.length ≤ 100000 ∧ ∀ k, v.ownBlock = some k → S k) ∨ ClipAt w S v ps
/-- Both forms read alike. -/
theorem HeldAt.rd {w : World} {S : Nat → Prop} {v : Value} {ps : List (Up × Value)} (h : HeldAt w S v ps) :
    ∃ a c, v = .slice a ps.length c ∧ ps.length ≤ c ∧ c ≤ maxLen ∧ (a = none → c = 0) ∧ HeldRd w S a ps ∧ ps.length ≤ 100000 := by
  rcases h with ⟨h, hl, hS⟩ | ⟨a, h1, h2, h3, h4⟩
  · have h' : w.ownsRow 0 36 7 v ps.length (ucl ps) := h
    rcases h.2 with ⟨rfl, h0⟩ | ⟨r, cap, cur, rfl, hb, hr, hc, hm, hs, ht⟩
    · refine ⟨none, 0, by rw [h0], by omega, Nat.zero_le _, fun _ => rfl, fun h => by omega, hl⟩
    · refine ⟨_, cap, rfl, hc, hm, (fun h => by cases h), fun _ => ⟨r, 0, cur, rfl, hS r rfl, hr, by omega, fun j hj i hi u hu => ?_⟩, hl⟩
      have := h'.cells (g := r) rfl (j * 7 + i) u (by rw [ucl_at ps j i hj hi]; exact hu)
      rw [addr_add17] at this
      rw [show 0 + j * 7 + i = 0 + (j * 7 + i) by omega]
      exact this
  · exact ⟨a, ps.length, h1, Nat.le_refl _, by unfold maxLen; omega, h3, h4, h2⟩
theorem CelU.kept {S : Nat → Prop} {w w' : World} {r o : Nat} {ps : List (Up × Value)} (h : CelU w r o ps) (hk : Kept S w w') (hs : ¬ S r) : CelU w' r o ps := fun j hj i hi u hu => hk.cell (p := ⟨r, o + j * 7 + i, none⟩) hs (h j hj i hi u hu)
theorem HeldRd.kept {S T : Nat → Prop} {w w' : World} {a : Option Addr} {ps : List (Up × Value)} (h : HeldRd w S a ps) (hk : Kept T w w') (hs : ∀ k, S k → ¬ T k) : HeldRd w' S a ps := fun hp => by
  obtain ⟨r, o, cs, h1, h2, h3, h4, h5⟩ := h hp
  exact ⟨r, o, cs, h1, h2, hk.heap (hs r h2) h3, h4, h5.kept hk (hs r h2)⟩
theorem HeldRd.keptR {S T : Nat → Prop} {w w' : World} {a : Option Addr} {ps : List (Up × Value)} (h : HeldRd w S a ps) (hk : Kept T w w') (hs : ∀ r o, a = some ⟨r, o, none⟩ → ¬ T r) : HeldRd w' S a ps := fun hp => by
  obtain ⟨r, o, cs, h1, h2, h3, h4, h5⟩ := h hp
  have := hs r o h1
  exact ⟨r, o, cs, h1, h2, hk.heap this h3, h4, h5.kept hk this⟩
theorem HeldRd.mono {S T : Nat → Prop} {w : World} {a : Option Addr} {ps : List (Up × Value)} (h : HeldRd w S a ps) (hs : ∀ k, S k → T k) : HeldRd w T a ps := fun hp => by
  obtain ⟨r, o, cs, h1, h2, h3⟩ := h hp
  exact ⟨r, o, cs, h1, hs r h2, h3⟩
theorem HeldAt.kept {S T : Nat → Prop} {w w' : World} {v : Value} {ps : List (Up × Value)} (h : HeldAt w S v ps) (hk : Kept T w w') (hs : ∀ k, S k → ¬ T k) : HeldAt w' S v ps := by
  rcases h with ⟨h, hl, hS⟩ | ⟨a, h1, h2, h3, h4⟩
  · exact .inl ⟨h.kept hk (fun k hk => hs k (hS k hk)), hl, hS⟩
  · exact .inr ⟨a, h1, h2, h3, h4.kept hk hs⟩
theorem HeldAt.mono {S T : Nat → Prop} {w : World} {v : Value} {ps : List (Up × Value)} (h : HeldAt w S v ps) (hs : ∀ k, S k → T k) : HeldAt w T v ps := by
  rcases h with ⟨h, hl, hS⟩ | ⟨a, h1, h2, h3, h4⟩
  · exact .inl ⟨h, hl, fun k hk => hs k (hS k hk)⟩
  · exact .inr ⟨a, h1, h2, h3, h4.mono hs⟩
/-- The slice reads as updates, their data in blocks of F. -/
theorem HeldRd.us {S F : Nat → Prop} {w : World} {a : Option Addr} {c : Nat} {ps : List (Up × Value)} (h : HeldRd w S a ps) (hS : ∀ k, S k → F k) (hd : DatU w F ps) (hc : ps.length ≤ c) (hm : c ≤ maxLen) (hn : a = none → c = 0) : UsAt w F (.slice a ps.length c) (ps.map Prod.fst) := by
  have hl : (ps.map Prod.fst).length = ps.length := List.length_map _
  refine ⟨a, c, by rw [hl], by rw [hl]; exact hc, hm, hn, fun hp => ?_⟩
  rw [hl] at hp
  obtain ⟨r, o, cs, rfl, h2, h3, h4, h5⟩ := h hp
  refine ⟨r, o, rfl, hS r h2, heap_lt h3, fun j hj => ?_⟩
  rw [hl] at hj
  have hx : ∀ i, i < 7 → ∀ u, (ucs (ps[j]).1 (ps[j]).2)[i]? = some u → w.cell? ⟨r, o + j * 7 + i, none⟩ = some u := fun i hi u hu => h5 j hj i hi u hu
  have hnj : nthU (ps.map Prod.fst) j = (ps[j]).1 := by rw [nthU_at (by rw [hl]; exact hj)]; simp
  rw [hnj]
  exact ⟨(ps[j]).2, hx 0 (by omega) _ rfl, hx 1 (by omega) _ rfl, hx 2 (by omega) _ rfl, hx 3 (by omega) _ rfl, hx 4 (by omega) _ rfl, hx 5 (by omega) _ rfl, hx 6 (by omega) _ rfl, hd _ (List.getElem_mem hj)⟩
/-- A part of what is held, with no room behind. -/
def clipV (a : Option Addr) (f t c : Nat) : Value := .slice (if t - f = 0 then a else a.map (·.add (f * 7))) (t - f) (t - f)
theorem HeldRd.part {S : Nat → Prop} {w : World} {a : Option Addr} {ps : List (Up × Value)} (h : HeldRd w S a ps) (f t : Nat) (hft : f ≤ t) (ht : t ≤ ps.length) (hl : ps.length ≤ 100000) (a' : Option Addr) (ha : f < t → a' = a.map (·.add (f * 7))) (hn : a' = none → a = none) :
    ClipAt w S (.slice a' (t - f) (t - f)) ((ps.take t).drop f) := by
  have e : ((ps.take t).drop f).length = t - f := by rw [List.length_drop, List.length_take]; omega
  refine ⟨a', by rw [e], by rw [e]; omega, fun h0 => ?_, fun hp => ?_⟩
  · rw [e]
    rcases Nat.eq_zero_or_pos (t - f) with h1 | h1
    · exact h1
    · have := hn h0
      obtain ⟨r, o, cs, h2, _⟩ := h (by omega)
      rw [this] at h2
      cases h2
  · rw [e] at hp
    obtain ⟨r, o, cs, rfl, h2, h3, h4, h5⟩ := h (by omega)
    refine ⟨r, o + f * 7, cs, ?_, h2, h3, by rw [e]; omega, h5.part f t ht⟩
    rw [ha (by omega)]
    simp [addr_add17]
/-- The blocks of S, and those that are new. -/
def NewIn (S : Nat → Prop) (w w' : World) : Nat → Prop := fun k => S k ∨ (w.heap.size ≤ k ∧ k < w'.heap.size)
/-- append of one update, that a slice has, to what is held. -/
theorem run_append_held (w : World) (ty : TypeId) (S : Nat → Prop) (v : Value) (ps : List (Up × Value)) (h : HeldAt w S v ps) (r o c : Nat) (p : Up × Value) (hp : CelU w r o [p]) (hu : p.2.oneCell' = true) (hl : ps.length ≤ 50000) :
    ∃ v' w', (Builtin.append_ #[22, 22] ty #[v, .slice (some ⟨r, o, none⟩) 1 c]).run Tryz.prog w = .ok v' w' ∧ HeldAt w' (NewIn S w w') v' (ps ++ [p]) ∧ Kept S w w' ∧ ∀ (z : Value) (l : List Int) (F : Nat → Prop), Own w F z l → Own w' F z l := by
  obtain ⟨i0, hi, hz0, hz1, hz2⟩ := info_parts info_upd
  have h7 : (ucl [p]).length = 1 * 7 := ucl_len [p]
  have hone : ∀ u ∈ ucl [p], u.oneCell' = true := by
    intro u hx
    simp only [ucl, ucs, List.flatMap_cons, List.flatMap_nil, List.append_nil, List.mem_cons, List.not_mem_nil, or_false] at hx
    rcases hx with rfl | rfl | rfl | rfl | rfl | rfl | rfl
    iterate 6 rfl
    exact hu
  rcases h with ⟨h, hl2, hS⟩ | ⟨a, rfl, hl2, h3, h4⟩
  · obtain ⟨v', w', hrun, h2, h3, _, h5⟩ := run_append_own_at (P := Tryz.prog) w 0 22 ty 36 i0 _ 7 72 Tryz.underlying22 hi hz0 hz1 hz2 rfl (by decide) v ps.length _ h ⟨r, o, none⟩ 1 c (ucl [p]) h7 hp.flat hone (by unfold maxLen; omega) (by omega) (Nat.zero_le _)
    have h2' : UOw 36 0 w' v' (ps ++ [p]) := by
      unfold UOw
      rw [ucl_app, List.length_append]
      exact h2
    refine ⟨v', w', hrun, .inl ⟨h2', by rw [List.length_append, List.length_singleton]; omega, fun k hk => ?_⟩, (Kept.refl S w).grown h3 (fun k hk => .inl (hS k hk)), fun z l F hz => hz.kept17 ((Kept.refl (fun k => some k = v.ownBlock) w).grown h3 (fun k hk => .inl hk.symm)) (fun k cs fr hh _ he => own_ne (g := k) h hh (by decide) he)⟩
    have hb := h2'.base k hk
    rcases h5 with e | e <;> rw [e] at hk
    · exact .inl (hS k hk)
    · injection hk with hk; exact .inr ⟨by omega, hb.2⟩
  · rcases a with _ | ad
    · have h0 := h3 rfl
      obtain rfl : ps = [] := List.eq_nil_of_length_eq_zero h0
      obtain ⟨v', w', hrun, h2, h3, _, h5⟩ := run_append_own_at (P := Tryz.prog) w 0 22 ty 36 i0 _ 7 72 Tryz.underlying22 hi hz0 hz1 hz2 rfl (by decide) (.slice none 0 0) 0 _ (World.ownsRow_nil w _ _ _) ⟨r, o, none⟩ 1 c (ucl [p]) h7 hp.flat hone (by unfold maxLen; omega) (by omega) (Nat.zero_le _)
      refine ⟨v', w', hrun, .inl ⟨h2, by simp, fun k hk => ?_⟩, (Kept.refl S w).grown h3 (fun k hk => by cases hk), fun z l F hz => hz.kept ((Kept.refl NoB w).grown h3 (fun k hk => by cases hk)) (fun _ _ h => h)⟩
      have hb := UOw.base (l := [p]) h2 k hk
      rcases h5 with e | e <;> rw [e] at hk
      · cases hk
      · injection hk with hk; exact .inr ⟨by omega, hb.2⟩
    · have hcel : ∀ j u, (ucl ps)[j]? = some u → w.cell? (ad.add j) = some u := by
        intro j u hu
        rcases Nat.eq_zero_or_pos ps.length with h0 | h0
        · obtain rfl : ps = [] := List.eq_nil_of_length_eq_zero h0
          simp [ucl] at hu
        · obtain ⟨r', o', cs, e, _, _, _, h9⟩ := h4 h0
          have e2 : ad = ⟨r', o', none⟩ := Option.some.inj e
          rw [e2]
          exact h9.flat j u hu
      obtain ⟨v', w', hrun, h2, h3'⟩ := run_append_arg_grows (P := Tryz.prog) w 22 ty 36 i0 _ 7 72 Tryz.underlying22 hi hz0 hz1 hz2 rfl (by decide) ad ps.length ps.length (ucl ps) (ucl_len ps) hcel ⟨r, o, none⟩ 1 c (ucl [p]) h7 hp.flat (by omega) (by unfold maxLen; omega) (by omega)
      have h2' : UOw 36 w.heap.size w' v' (ps ++ [p]) := by
        unfold UOw
        rw [ucl_app, List.length_append]
        exact h2
      refine ⟨v', w', hrun, .inl ⟨h2'.mono (Nat.zero_le _), by rw [List.length_append, List.length_singleton]; omega, fun k hk => .inr (h2'.base k hk)⟩, (Kept.refl S w).grown h3' (fun k hk => by cases hk), fun z l F hz => hz.kept ((Kept.refl NoB w).grown h3' (fun k hk => by cases hk)) (fun _ _ h => h)⟩
theorem heap_puts20 {g : Nat} {t : TypeId} {fr : Nat × Nat} : ∀ (vs : List Value) (o : Nat) (w : World) (cur : Array Value), w.heap[g]? = some (.cells cur t fr) → o + vs.length ≤ cur.size →
    ∃ cur', (w.setCells g o vs).heap[g]? = some (.cells cur' t fr) ∧ cur'.size = cur.size ∧ cur'.toList = cur.toList.take o ++ vs ++ cur.toList.drop (o + vs.length)
  | [], o, w, cur, h, hl => ⟨cur, h, rfl, by simp⟩
  | v :: vs, o, w, cur, h, hl => by
    simp only [List.length_cons] at hl
    obtain ⟨cur', h1, h2, h3⟩ := heap_puts20 vs (o + 1) (w.setCell ⟨g, o, none⟩ v) (cur.setIfInBounds o v) (blkU_set h o v) (by simp; omega)
    refine ⟨cur', h1, by simpa using h2, ?_⟩
    rw [h3, Array.toList_setIfInBounds]
    have hlt : o < cur.toList.length := by simp; omega
    have e1 : (cur.toList.set o v).take (o + 1) = cur.toList.take o ++ [v] := by
      rw [List.take_succ_eq_append_getElem (by simpa using hlt)]
      simp [List.take_set_of_le]
    rw [e1, List.drop_set_of_lt (by omega)]
    simp only [List.append_assoc, List.cons_append, List.nil_append, List.length_cons]
    rw [show o + 1 + vs.length = o + (vs.length + 1) by omega]
theorem kept_puts20 {S : Nat → Prop} {g : Nat} {a : World} (hS : S g ∨ a.heap.size ≤ g) : ∀ (vs : List Value) (o : Nat) (w : World), Kept S a w → Kept S a (w.setCells g o vs)
  | [], _, _, h => h
  | v :: vs, o, w, h => kept_puts20 hS vs (o + 1) _ (h.setCell (p := ⟨g, o, none⟩) hS v)
theorem zero_upd (w : World) : (zeroValue 36).run Tryz.prog w = .ok (.agg #[.int .u64 0, .int .i64 0, .int .u64 0, .int .i64 0, .int .u32 0, .int .u64 0, .slice none 0 0]) w := by kernel_rfl
/-- What clear writes. -/
def zer7 (n : Nat) : List Value := (Builtin.zeroCells #[.int .u64 0, .int .i64 0, .int .u64 0, .int .i64 0, .int .u32 0, .int .u64 0, .slice none 0 0] n).toList
theorem zer7_len (n : Nat) : (zer7 n).length = n * 7 := by unfold zer7; rw [Array.length_toList, size_zeroCells]; rfl
theorem zer7_one (n : Nat) : ∀ v ∈ zer7 n, v.oneCell' = true := by
  intro v hv
  unfold zer7 Builtin.zeroCells at hv
  rw [Array.mem_toList_iff, Array.mem_map] at hv
  obtain ⟨i, _, rfl⟩ := hv
  have h3 : i % 7 < 7 := Nat.mod_lt _ (by decide)
  show ((#[Value.int .u64 0, .int .i64 0, .int .u64 0, .int .i64 0, .int .u32 0, .int .u64 0, .slice none 0 0] : Array Value)[i % 7]!).oneCell' = true
  match i % 7, h3 with
  | 0, _ | 1, _ | 2, _ | 3, _ | 4, _ | 5, _ | 6, _ => rfl
theorem run_clear20 (w : World) (ty : TypeId) (b o n c : Nat) (hn : 0 < n) (hc : ∀ j, j < n * 7 → (w.cell? ⟨b, o + j, none⟩).isSome = true) (hf : ∀ j, j < n * 7 → w.frozen? ⟨b, o + j, none⟩ = false) :
    (Builtin.clear_ #[22] ty #[.slice (some ⟨b, o, none⟩) n c]).run Tryz.prog w = .ok (.tuple #[]) (w.setCells b o (zer7 n)) := by
  have hst := run_storeCells_cells (P := Tryz.prog) b o (zer7 n) 0 w (by rw [zer7_len]; simpa using hc) (by rw [zer7_len]; simpa using hf) (zer7_one n)
  simp only [Nat.add_zero] at hst
  unfold zer7 at hst ⊢
  obtain ⟨m, rfl⟩ : ∃ m, n = m + 1 := ⟨n - 1, by omega⟩
  have hz : ∀ w, (zeroValue 36).run Tryz.prog w = .ok (.agg #[.int .u64 0, .int .i64 0, .int .u64 0, .int .i64 0, .int .u32 0, .int .u64 0, .slice none 0 0]) w := zero_upd
  simp [Builtin.clear_, run_underlying Tryz.underlying22, hz, Value.cells, hst]
/-- The first k of what a block holds are cleared: the others stay. -/
theorem held_clear (w : World) (S : Nat → Prop) (r o k c : Nat) (cs : Array Value) (ps : List (Up × Value)) (hk0 : 0 < k) (hk : k ≤ ps.length) (hr : w.heap[r]? = some (.cells cs 36 (0, 0))) (ho : o + ps.length * 7 ≤ cs.size) (hp : CelU w r o ps) :
    ∃ w', (∀ ty, (Builtin.clear_ #[22] ty #[.slice (some ⟨r, o, none⟩) k c]).run Tryz.prog w = .ok (.tuple #[]) w') ∧ Kept (fun i => i = r) w w' ∧ (∃ cs', w'.heap[r]? = some (.cells cs' 36 (0, 0)) ∧ cs'.size = cs.size) ∧ CelU w' r (o + k * 7) (ps.drop k) := by
  obtain ⟨cs', h1, h2, h3⟩ := heap_puts20 (g := r) (zer7 k) o w cs hr (by rw [zer7_len]; omega)
  refine ⟨_, fun ty => run_clear20 w ty r o k c hk0 (fun j hj => by rw [cell_of_row _ _ _ _ _ _ hr, Array.getElem?_eq_getElem (by omega)]; rfl) (fun j hj => blkU_frozen hr _), kept_puts20 (S := fun i => i = r) (.inl (by show r = r; rfl)) _ _ _ (Kept.refl _ w), ⟨cs', h1, h2⟩, fun j hj i hi u hu => ?_⟩
  rw [List.length_drop] at hj
  rw [List.getElem_drop] at hu
  have hold := hp (k + j) (by omega) i hi u hu
  rw [cell_of_row _ _ _ _ _ _ hr] at hold
  rw [cell_of_row _ _ _ _ _ _ h1, ← Array.getElem?_toList, h3]
  have hl : (cs.toList.take o ++ zer7 k).length = o + k * 7 := by rw [List.length_append, List.length_take, zer7_len, Array.length_toList]; omega
  rw [List.getElem?_append_right (by rw [hl]; omega), hl, List.getElem?_drop, zer7_len, show o + k * 7 + (o + k * 7 + j * 7 + i - (o + k * 7)) = o + (k + j) * 7 + i by omega, Array.getElem?_toList]
  exact hold
end Go.Proofs.YtabmipjpgofgpaaGreatDoor
namespace Go.Proofs.YtabmipjpgofgpaaGreatDoor
open Go.RowKit
set_option linter.unusedVariables false
set_option linter.unusedSimpArgs false

/-- The blocks of S but one. -/
def But (S : Nat → Prop) (b : Nat) : Nat → Prop := fun k => S k ∧ k ≠ b
/-- A window in its block; what it holds, and their data, in other blocks of S. -/
structure WinH (w : World) (S : Nat → Prop) (b : Nat) (x : Wn) (h : Value) (ps : List (Up × Value)) : Prop where
  blk : w.heap[b]? = some (.cells #[h, .int .u64 x.low, .int .u64 x.en, .int .u64 x.done] 207 (0, 0))
  inb : S b
  held : HeldAt w (But S b) h ps
  same : ps.map Prod.fst = x.l
  data : DatO w (But S b) ps
  bound : ∀ k, S k → k < w.heap.size
def WinAt (w : World) (S : Nat → Prop) (b : Nat) (x : Wn) : Prop := ∃ h ps, WinH w S b x h ps
theorem WinH.kept {S T : Nat → Prop} {w w' : World} {b : Nat} {x : Wn} {h : Value} {ps : List (Up × Value)} (H : WinH w S b x h ps) (hk : Kept T w w') (hs : ∀ k, S k → ¬ T k) : WinH w' S b x h ps :=
  ⟨hk.heap (hs b H.inb) H.blk, H.inb, H.held.kept hk (fun k hk => hs k hk.1), H.same, H.data.kept17 hk (fun k _ _ _ hk => hs k hk.1), fun k hS => Nat.lt_of_lt_of_le (H.bound k hS) hk.size⟩
theorem WinH.no {S : Nat → Prop} {w w' : World} {b : Nat} {x : Wn} {h : Value} {ps : List (Up × Value)} (H : WinH w S b x h ps) (hk : Kept NoB w w') : WinH w' S b x h ps := H.kept hk (fun _ _ h => h)
theorem WinAt.kept {S T : Nat → Prop} {w w' : World} {b : Nat} {x : Wn} (H : WinAt w S b x) (hk : Kept T w w') (hs : ∀ k, S k → ¬ T k) : WinAt w' S b x := by
  obtain ⟨h, ps, H⟩ := H
  exact ⟨h, ps, H.kept hk hs⟩
theorem WinAt.no {S : Nat → Prop} {w w' : World} {b : Nat} {x : Wn} (H : WinAt w S b x) (hk : Kept NoB w w') : WinAt w' S b x := H.kept hk (fun _ _ h => h)
theorem WinH.len {S : Nat → Prop} {w : World} {b : Nat} {x : Wn} {h : Value} {ps : List (Up × Value)} (H : WinH w S b x h ps) : ps.length = x.l.length := by
  rw [← H.same, List.length_map]
theorem cells4w {w : World} {b : Nat} {x0 x1 x2 x3 : Value} {t : TypeId} (h : w.heap[b]? = some (.cells #[x0, x1, x2, x3] t (0, 0))) :
    w.cell? ⟨b, 0, none⟩ = some x0 ∧ w.cell? ⟨b, 1, none⟩ = some x1 ∧ w.cell? ⟨b, 2, none⟩ = some x2 ∧ w.cell? ⟨b, 3, none⟩ = some x3 :=
  ⟨cell_of_row _ _ 0 _ _ _ h, cell_of_row _ _ 1 _ _ _ h, cell_of_row _ _ 2 _ _ _ h, cell_of_row _ _ 3 _ _ _ h⟩
/-- What between tells: a part of the slice at its place, with no room. -/
def BetE (a : Option Addr) (f t : Nat) (w : World) (e : Ending) (w' : World) : Prop :=
  ∃ a', e = .returned (.slice a' (t - f) (t - f)) ∧ (f < t → a' = a.map (·.add (f * 7))) ∧ (a' = none → a = none) ∧ Kept NoB w w'
set_option maxRecDepth 100000 in
set_option maxHeartbeats 1000000 in
theorem between_any (w : World) (b : Nat) (a : Option Addr) (n c lo f t : Nat) (x2 x3 : Value) (blk : w.heap[b]? = some (.cells #[.slice a n c, .int .u64 lo, x2, x3] 207 (0, 0))) (hft : f ≤ t) (htc : t ≤ c) (hcm : c ≤ maxLen) (htop : lo + t ≤ 18446744073709551615) :
    Calls Tryz.prog 170 #[.pointer (some ⟨b, 0, none⟩), .int .u64 (lo + f : Nat), .int .u64 (lo + t : Nat)] w (BetE a f t w) := by
  obtain ⟨c0, c1, c2, c3⟩ := cells4w blk
  unfold maxLen at hcm
  have hwf : IntKind.u64.wrap (((lo + f : Nat) : Int) - (lo : Int)) = (f : Int) := by rw [show ((lo + f : Nat) : Int) - (lo : Int) = (f : Int) by omega]; exact IntWalk.u64_in _ (by omega)
  have hwt : IntKind.u64.wrap (((lo + t : Nat) : Int) - (lo : Int)) = (t : Int) := by rw [show ((lo + t : Nat) : Int) - (lo : Int) = (t : Int) by omega]; exact IntWalk.u64_in _ (by omega)
  have k1 : (f : Int) ≤ (t : Int) := by omega
  have k2 : (t : Int) ≤ (c : Int) := by omega
  obtain ⟨F, hF⟩ : ∃ F : Int, F = ((lo + f : Nat) : Int) := ⟨_, rfl⟩
  obtain ⟨T, hT⟩ : ∃ T : Int, T = ((lo + t : Nat) : Int) := ⟨_, rfl⟩
  rw [← hF] at hwf ⊢
  rw [← hT] at hwt ⊢
  have c0n : ∀ m, (w.drewN m).cell? ⟨b, 0, none⟩ = some (.slice a n c) := fun _ => c0
  clear hF hT htop blk
  go_enter Tryz.func170, Tryz.ntmps170
  go_wp2_with fail
  go_quiet (fail)
  all_goals go_wp2
  · go_ret
    exact ⟨a, (by first | rfl | simp), (fun h => absurd h (Nat.lt_irrefl _)), (fun h => h), (Kept.refl _ _).drewN _⟩
  · go_ret
    exact ⟨_, rfl, (fun _ => rfl), (fun h => by cases a <;> simp at h ⊢), (Kept.refl _ _).drewN _⟩
theorem BetE.none {a : Option Addr} {f : Nat} {w w' : World} {e : Ending} (h : BetE a f f w e w') : ∃ a', e = .returned (.slice a' 0 0) ∧ Kept NoB w w' := by
  obtain ⟨a', h1, _, _, h2⟩ := h
  rw [Nat.sub_self] at h1
  exact ⟨a', h1, h2⟩
end Go.Proofs.YtabmipjpgofgpaaGreatDoor
namespace Go.Proofs.YtabmipjpgofgpaaGreatDoor
open Go.RowKit
set_option linter.unusedVariables false
set_option linter.unusedSimpArgs false

/-- A window's block, with other values. -/
theorem wblk_set {w : World} {b : Nat} {x0 x1 x2 x3 : Value} {t : TypeId} (h : w.heap[b]? = some (.cells #[x0, x1, x2, x3] t (0, 0))) (y0 y1 : Value) :
    ((w.setCell ⟨b, 0, none⟩ y0).setCell ⟨b, 1, none⟩ y1).heap[b]? = some (.cells #[y0, y1, x2, x3] t (0, 0)) := by
  simp [World.setCell, Array.getElem?_modify, h]
def ForE (w : World) (S : Nat → Prop) (b : Nat) (x : Wn) (e : Ending) (w' : World) : Prop := e = .returned (.tuple #[]) ∧ WinAt w' S b (forgetW x) ∧ Kept S w w'
set_option maxRecDepth 100000 in
set_option maxHeartbeats 2000000 in
theorem forget_low (w : World) (S : Nat → Prop) (b : Nat) (x : Wn) (H : WinAt w S b x) (ok : WnOk x) (h32 : x.en ≤ 32) : Calls Tryz.prog 171 #[.pointer (some ⟨b, 0, none⟩)] w (ForE w S b x) := by
  obtain ⟨h, ps, H⟩ := H
  obtain ⟨a, c, rfl, hc1, hc2, hc3, hrd, hpl⟩ := H.held.rd
  have hlen := H.len
  have hol := ok.len
  have htop := ok.top
  have hld := ok.ld
  have hde := ok.de
  have HH := Lib.hid H
  have HHR := Lib.hid hrd
  obtain ⟨c0, c1, c2, c3⟩ := cells4w H.blk
  have HBL := Lib.hid H.blk
  obtain ⟨lo, en, dn, l⟩ := x
  simp only at h32 c0 c1 c2 c3 hlen hol htop hld hde HBL
  have HF : Hid (forgetW ⟨lo, en, dn, l⟩ = ⟨max lo (min dn (en - 32)), en, dn, l.drop (max lo (min dn (en - 32)) - lo)⟩) := Lib.hid rfl
  clear hc3 hrd ok H
  · have h32i : ¬ (32 : Int) < (en : Int) := by omega
    have hlo0 : ¬ (dn : Int) < 0 := by omega
    have hE : Hid (forgetW ⟨lo, en, dn, l⟩ = ⟨lo, en, dn, l⟩) := Lib.hid (by rw [HF.out, Nat.max_eq_left (by omega), Nat.sub_self, List.drop_zero])
    clear hlen hol hld hde HF 
    go_enter Tryz.func171, Tryz.ntmps171
    go_wp2_with fail
    go_region
    go_wp2
    all_goals go_end0
    all_goals exact ⟨rfl, ⟨_, ps, by rw [hE.out]; exact HH.out.no (Kept.refl NoB w).drew⟩, ((Kept.refl _ w).drew)⟩
set_option maxRecDepth 100000 in
set_option maxHeartbeats 2000000 in
theorem forget_far (w : World) (S : Nat → Prop) (b : Nat) (x : Wn) (H : WinAt w S b x) (ok : WnOk x) (h32 : 32 < x.en) (hx : x.en - 32 < x.done) : Calls Tryz.prog 171 #[.pointer (some ⟨b, 0, none⟩)] w (ForE w S b x) := by
  obtain ⟨h, ps, H⟩ := H
  obtain ⟨a, c, rfl, hc1, hc2, hc3, hrd, hpl⟩ := H.held.rd
  have hlen := H.len
  have hol := ok.len
  have htop := ok.top
  have hld := ok.ld
  have hde := ok.de
  have HH := Lib.hid H
  have HHR := Lib.hid hrd
  obtain ⟨c0, c1, c2, c3⟩ := cells4w H.blk
  have HBL := Lib.hid H.blk
  obtain ⟨lo, en, dn, l⟩ := x
  simp only at h32 hx c0 c1 c2 c3 hlen hol htop hld hde HBL
  have HF : Hid (forgetW ⟨lo, en, dn, l⟩ = ⟨max lo (min dn (en - 32)), en, dn, l.drop (max lo (min dn (en - 32)) - lo)⟩) := Lib.hid rfl
  clear hc3 hrd ok H
  obtain ⟨B, hB⟩ : ∃ B, B = en - 32 := ⟨_, rfl⟩
  rw [← hB] at hx
  have h32i : (32 : Int) < (en : Int) := by omega
  have hBE : (en : Int) - 32 = (B : Int) := by omega
  have hxi : (B : Int) < (dn : Int) := by omega
  by_cases hle : B ≤ lo
  · have hlei : (B : Int) ≤ (lo : Int) := by omega
    have hE : Hid (forgetW ⟨lo, en, dn, l⟩ = ⟨lo, en, dn, l⟩) := Lib.hid (by rw [HF.out, Nat.max_eq_left (by omega), Nat.sub_self, List.drop_zero])
    clear hlen hol hld hde HF hB
    go_enter Tryz.func171, Tryz.ntmps171
    go_wp2_with fail
    go_region
    go_wp2
    all_goals go_end0
    all_goals exact ⟨rfl, ⟨_, ps, by rw [hE.out]; exact HH.out.no (Kept.refl NoB w).drew⟩, ((Kept.refl _ w).drew)⟩
  · have hmgt : decide ((B : Int) ≤ (lo : Int)) = false := decide_eq_false (by omega)
    have hmgN : decide (B ≤ lo) = false := decide_eq_false hle
    obtain ⟨k, hk⟩ : ∃ k, B = lo + k := ⟨B - lo, by omega⟩
    have hk0 : 0 < k := by omega
    obtain ⟨n, hn⟩ : ∃ n, n = ps.length := ⟨_, rfl⟩
    have hkn : k ≤ n := by omega
    have hne : en = lo + n := by omega
    have HN := Lib.hid hn
    obtain ⟨r, o, cs, hae, hSr, hr, hos, hce⟩ := HHR.out (by omega)
    subst hae
    have HW : Hid (w.heap[b]? = some (.cells #[.slice (some ⟨r, o, none⟩) n c, .int .u64 lo, .int .u64 en, .int .u64 dn] 207 (0, 0))) := Lib.hid (by rw [hn]; exact HBL.out)
    have hE : Hid (forgetW ⟨lo, en, dn, l⟩ = ⟨B, en, dn, l.drop k⟩) := Lib.hid (by rw [HF.out, show min dn (en - 32) = B by omega, Nat.max_eq_right (by omega), show B - lo = k by omega])
    have HB1 : Hid (∀ w', Kept NoB w w' → Calls Tryz.prog 170 #[.pointer (some ⟨b, 0, none⟩), .int .u64 lo, .int .u64 B] w' (BetE (some ⟨r, o, none⟩) 0 k w')) := Lib.hid (fun w' hk' => by
      have := between_any w' b (some ⟨r, o, none⟩) n c lo 0 k _ _ (hk'.heap (fun h => h) HW.out) (Nat.zero_le _) (by omega) hc2 (by omega)
      rw [← hk, Nat.add_zero] at this
      exact this)
    have HB2 : Hid (∀ w', w'.heap[b]? = some (.cells #[.slice (some ⟨r, o, none⟩) n c, .int .u64 lo, .int .u64 en, .int .u64 dn] 207 (0, 0)) → Calls Tryz.prog 170 #[.pointer (some ⟨b, 0, none⟩), .int .u64 B, .int .u64 en] w' (BetE (some ⟨r, o, none⟩) k n w')) := Lib.hid (fun w' hb' => by
      have := between_any w' b (some ⟨r, o, none⟩) n c lo k n _ _ hb' hkn (by omega) hc2 (by omega)
      rw [← hk, ← hne] at this
      exact this)
    have hrb : ¬ b = r := fun h => hSr.2 h.symm
    have HRR := Lib.hid (And.intro hr (And.intro hos hce))
    have HSR := Lib.hid hSr
    have hbz : b < w.heap.size := heap_lt HW.out
    clear hlen hol hld hde hr hos hce hSr hn c0 hne HF hk HBL hB
    go_enter Tryz.func171, Tryz.ntmps171
    go_wp2_with fail
    go_region
    go_wp2_with fail
    refine (HB1.out _ (Kept.refl NoB w).drew).mono ?_
    rintro e w1 ⟨a1, rfl, ha1, _, hk1⟩
    obtain rfl : a1 = some ⟨r, o, none⟩ := by rw [ha1 hk0]; show some ((⟨r, o, none⟩ : Addr).add (0 * 7)) = _; rw [addr_add17]; rfl
    have HK1 : Hid (Kept NoB w w1) := Lib.hid ((Kept.refl NoB w).drew.trans hk1 (fun _ _ h => h))
    rw [Nat.sub_zero]
    obtain ⟨w2, hcl, hk2, ⟨cs2, hr2, hcs2⟩, hce2⟩ := held_clear w1 (But S b) r o k k cs ps hk0 (by have := HN.out; omega) (HK1.out.heap (fun h => h) HRR.out.1) HRR.out.2.1 (HRR.out.2.2.kept HK1.out (fun h => h))
    have HK2 := Lib.hid hk2
    have HR2 := Lib.hid (And.intro hr2 (And.intro hcs2 hce2))
    have hb2 := hk2.heap hrb (HK1.out.heap (fun h => h) HW.out)
    have HBW2 := Lib.hid hb2
    clear c1 c2 c3 hk1 hk2 ha1 hr2 hcs2 hce2
    obtain ⟨c0, c1, c2, c3⟩ := cells4w hb2
    clear hb2
    go_wp2_with fail
    refine (HB2.out _ HBW2.out).mono ?_
    rintro e w3 ⟨a3, rfl, ha3, hn3, hk3⟩
    have HK3 := Lib.hid hk3
    have HA3 := Lib.hid (And.intro ha3 hn3)
    have HBW3 := Lib.hid (hk3.heap (fun h => h) HBW2.out)
    clear c0 c1 c2 c3 hk3 ha3 hn3
    obtain ⟨c0, c1, c2, c3⟩ := cells4w HBW3.out
    have z3 := blkU_frozen HBW3.out
    go_wp2
    go_end0
    have HKR : Kept (fun i => i = r) w w3 := (HK1.out.mono (fun _ _ h => absurd h (fun h => h))).trans (HK2.out.trans HK3.out (fun _ _ h => absurd h (fun h => h))) (fun _ _ h => h)
    have HKS : Kept (fun i => i = b) w3 ((w3.setCell ⟨b, 0, none⟩ (.slice a3 (n - k) (n - k))).setCell ⟨b, 1, none⟩ (.int .u64 B)) := ((Kept.refl (fun i => i = b) w3).setCell (p := ⟨b, 0, none⟩) (.inl rfl) _).setCell (p := ⟨b, 1, none⟩) (.inl rfl) _
    have HKA : Kept S w ((w3.setCell ⟨b, 0, none⟩ (.slice a3 (n - k) (n - k))).setCell ⟨b, 1, none⟩ (.int .u64 B)) := (HKR.mono (fun i _ h => by have h : i = r := h; rw [h]; exact HSR.out.1)).trans HKS (fun i _ h => by have h : i = b := h; rw [h]; exact HH.out.inb)
    refine ⟨rfl, ⟨.slice a3 (n - k) (n - k), ps.drop k, ?_⟩, HKA⟩
    rw [hE.out]
    have hdl : (ps.drop k).length = n - k := by rw [List.length_drop, HN.out]
    refine ⟨wblk_set HBW3.out _ _, HH.out.inb, .inr ⟨a3, by rw [hdl], by rw [hdl]; have := HN.out; omega, fun h0 => ?_, fun hp => ?_⟩, ?_, ?_, fun i hi => Nat.lt_of_lt_of_le (HH.out.bound i hi) HKA.size⟩
    · have := HA3.out.2 h0; cases this
    · rw [hdl] at hp
      have hlt : k < n := by omega
      have e3 : a3 = some ⟨r, o + k * 7, none⟩ := by rw [HA3.out.1 hlt]; simp [addr_add17]
      have hk23 := HK3.out
      refine ⟨r, o + k * 7, cs2, e3, HSR.out, HKS.heap (fun h => HSR.out.2 h) (hk23.heap (fun h => h) HR2.out.1), ?_, (HR2.out.2.2.kept hk23 (fun h => h)).kept HKS (fun h => HSR.out.2 h)⟩
      rw [hdl, HR2.out.2.1]
      have := HRR.out.2.1
      have := HN.out
      omega
    · rw [List.map_drop, HH.out.same]
    · intro p hp
      have h1 := HH.out.data p (List.mem_of_mem_drop hp)
      have h2 := h1.kept17 HKR (fun i cs fr hi hS h => by
        have h : i = r := h
        subst h
        rw [HRR.out.1] at hi
        injection hi with hi
        injection hi with _ ht
        exact absurd ht (by decide))
      exact h2.kept17 HKS (fun i cs fr hi hS h => hS.2 h)
set_option maxRecDepth 100000 in
set_option maxHeartbeats 2000000 in
theorem forget_near (w : World) (S : Nat → Prop) (b : Nat) (x : Wn) (H : WinAt w S b x) (ok : WnOk x) (h32 : 32 < x.en) (hx : ¬ x.en - 32 < x.done) : Calls Tryz.prog 171 #[.pointer (some ⟨b, 0, none⟩)] w (ForE w S b x) := by
  obtain ⟨h, ps, H⟩ := H
  obtain ⟨a, c, rfl, hc1, hc2, hc3, hrd, hpl⟩ := H.held.rd
  have hlen := H.len
  have hol := ok.len
  have htop := ok.top
  have hld := ok.ld
  have hde := ok.de
  have HH := Lib.hid H
  have HHR := Lib.hid hrd
  obtain ⟨c0, c1, c2, c3⟩ := cells4w H.blk
  have HBL := Lib.hid H.blk
  obtain ⟨lo, en, dn, l⟩ := x
  simp only at h32 hx c0 c1 c2 c3 hlen hol htop hld hde HBL
  have HF : Hid (forgetW ⟨lo, en, dn, l⟩ = ⟨max lo (min dn (en - 32)), en, dn, l.drop (max lo (min dn (en - 32)) - lo)⟩) := Lib.hid rfl
  clear hc3 hrd ok H
  obtain ⟨B, hB⟩ : ∃ B, B = en - 32 := ⟨_, rfl⟩
  rw [← hB] at hx
  have h32i : (32 : Int) < (en : Int) := by omega
  have hBE : (en : Int) - 32 = (B : Int) := by omega
  have hxi : ¬ (B : Int) < (dn : Int) := by omega
  by_cases hle : dn ≤ lo
  · have hlei : (dn : Int) ≤ (lo : Int) := by omega
    have hE : Hid (forgetW ⟨lo, en, dn, l⟩ = ⟨lo, en, dn, l⟩) := Lib.hid (by rw [HF.out, Nat.max_eq_left (by omega), Nat.sub_self, List.drop_zero])
    clear hlen hol hld hde HF hB
    go_enter Tryz.func171, Tryz.ntmps171
    go_wp2_with fail
    go_region
    go_wp2
    all_goals go_end0
    all_goals exact ⟨rfl, ⟨_, ps, by rw [hE.out]; exact HH.out.no (Kept.refl NoB w).drew⟩, ((Kept.refl _ w).drew)⟩
  · have hmgt : decide ((dn : Int) ≤ (lo : Int)) = false := decide_eq_false (by omega)
    have hmgN : decide (dn ≤ lo) = false := decide_eq_false hle
    obtain ⟨k, hk⟩ : ∃ k, dn = lo + k := ⟨dn - lo, by omega⟩
    have hk0 : 0 < k := by omega
    obtain ⟨n, hn⟩ : ∃ n, n = ps.length := ⟨_, rfl⟩
    have hkn : k ≤ n := by omega
    have hne : en = lo + n := by omega
    have HN := Lib.hid hn
    obtain ⟨r, o, cs, hae, hSr, hr, hos, hce⟩ := HHR.out (by omega)
    subst hae
    have HW : Hid (w.heap[b]? = some (.cells #[.slice (some ⟨r, o, none⟩) n c, .int .u64 lo, .int .u64 en, .int .u64 dn] 207 (0, 0))) := Lib.hid (by rw [hn]; exact HBL.out)
    have hE : Hid (forgetW ⟨lo, en, dn, l⟩ = ⟨dn, en, dn, l.drop k⟩) := Lib.hid (by rw [HF.out, show min dn (en - 32) = dn by omega, Nat.max_eq_right (by omega), show dn - lo = k by omega])
    have HB1 : Hid (∀ w', Kept NoB w w' → Calls Tryz.prog 170 #[.pointer (some ⟨b, 0, none⟩), .int .u64 lo, .int .u64 dn] w' (BetE (some ⟨r, o, none⟩) 0 k w')) := Lib.hid (fun w' hk' => by
      have := between_any w' b (some ⟨r, o, none⟩) n c lo 0 k _ _ (hk'.heap (fun h => h) HW.out) (Nat.zero_le _) (by omega) hc2 (by omega)
      rw [← hk, Nat.add_zero] at this
      exact this)
    have HB2 : Hid (∀ w', w'.heap[b]? = some (.cells #[.slice (some ⟨r, o, none⟩) n c, .int .u64 lo, .int .u64 en, .int .u64 dn] 207 (0, 0)) → Calls Tryz.prog 170 #[.pointer (some ⟨b, 0, none⟩), .int .u64 dn, .int .u64 en] w' (BetE (some ⟨r, o, none⟩) k n w')) := Lib.hid (fun w' hb' => by
      have := between_any w' b (some ⟨r, o, none⟩) n c lo k n _ _ hb' hkn (by omega) hc2 (by omega)
      rw [← hk, ← hne] at this
      exact this)
    have hrb : ¬ b = r := fun h => hSr.2 h.symm
    have HRR := Lib.hid (And.intro hr (And.intro hos hce))
    have HSR := Lib.hid hSr
    have hbz : b < w.heap.size := heap_lt HW.out
    clear hlen hol hld hde hr hos hce hSr hn c0 hne HF hk HBL hB
    go_enter Tryz.func171, Tryz.ntmps171
    go_wp2_with fail
    go_region
    go_wp2_with fail
    refine (HB1.out _ (Kept.refl NoB w).drew).mono ?_
    rintro e w1 ⟨a1, rfl, ha1, _, hk1⟩
    obtain rfl : a1 = some ⟨r, o, none⟩ := by rw [ha1 hk0]; show some ((⟨r, o, none⟩ : Addr).add (0 * 7)) = _; rw [addr_add17]; rfl
    have HK1 : Hid (Kept NoB w w1) := Lib.hid ((Kept.refl NoB w).drew.trans hk1 (fun _ _ h => h))
    rw [Nat.sub_zero]
    obtain ⟨w2, hcl, hk2, ⟨cs2, hr2, hcs2⟩, hce2⟩ := held_clear w1 (But S b) r o k k cs ps hk0 (by have := HN.out; omega) (HK1.out.heap (fun h => h) HRR.out.1) HRR.out.2.1 (HRR.out.2.2.kept HK1.out (fun h => h))
    have HK2 := Lib.hid hk2
    have HR2 := Lib.hid (And.intro hr2 (And.intro hcs2 hce2))
    have hb2 := hk2.heap hrb (HK1.out.heap (fun h => h) HW.out)
    have HBW2 := Lib.hid hb2
    clear c1 c2 c3 hk1 hk2 ha1 hr2 hcs2 hce2
    obtain ⟨c0, c1, c2, c3⟩ := cells4w hb2
    clear hb2
    go_wp2_with fail
    refine (HB2.out _ HBW2.out).mono ?_
    rintro e w3 ⟨a3, rfl, ha3, hn3, hk3⟩
    have HK3 := Lib.hid hk3
    have HA3 := Lib.hid (And.intro ha3 hn3)
    have HBW3 := Lib.hid (hk3.heap (fun h => h) HBW2.out)
    clear c0 c1 c2 c3 hk3 ha3 hn3
    obtain ⟨c0, c1, c2, c3⟩ := cells4w HBW3.out
    have z3 := blkU_frozen HBW3.out
    go_wp2
    go_end0
    have HKR : Kept (fun i => i = r) w w3 := (HK1.out.mono (fun _ _ h => absurd h (fun h => h))).trans (HK2.out.trans HK3.out (fun _ _ h => absurd h (fun h => h))) (fun _ _ h => h)
    have HKS : Kept (fun i => i = b) w3 ((w3.setCell ⟨b, 0, none⟩ (.slice a3 (n - k) (n - k))).setCell ⟨b, 1, none⟩ (.int .u64 dn)) := ((Kept.refl (fun i => i = b) w3).setCell (p := ⟨b, 0, none⟩) (.inl rfl) _).setCell (p := ⟨b, 1, none⟩) (.inl rfl) _
    have HKA : Kept S w ((w3.setCell ⟨b, 0, none⟩ (.slice a3 (n - k) (n - k))).setCell ⟨b, 1, none⟩ (.int .u64 dn)) := (HKR.mono (fun i _ h => by have h : i = r := h; rw [h]; exact HSR.out.1)).trans HKS (fun i _ h => by have h : i = b := h; rw [h]; exact HH.out.inb)
    refine ⟨rfl, ⟨.slice a3 (n - k) (n - k), ps.drop k, ?_⟩, HKA⟩
    rw [hE.out]
    have hdl : (ps.drop k).length = n - k := by rw [List.length_drop, HN.out]
    refine ⟨wblk_set HBW3.out _ _, HH.out.inb, .inr ⟨a3, by rw [hdl], by rw [hdl]; have := HN.out; omega, fun h0 => ?_, fun hp => ?_⟩, ?_, ?_, fun i hi => Nat.lt_of_lt_of_le (HH.out.bound i hi) HKA.size⟩
    · have := HA3.out.2 h0; cases this
    · rw [hdl] at hp
      have hlt : k < n := by omega
      have e3 : a3 = some ⟨r, o + k * 7, none⟩ := by rw [HA3.out.1 hlt]; simp [addr_add17]
      have hk23 := HK3.out
      refine ⟨r, o + k * 7, cs2, e3, HSR.out, HKS.heap (fun h => HSR.out.2 h) (hk23.heap (fun h => h) HR2.out.1), ?_, (HR2.out.2.2.kept hk23 (fun h => h)).kept HKS (fun h => HSR.out.2 h)⟩
      rw [hdl, HR2.out.2.1]
      have := HRR.out.2.1
      have := HN.out
      omega
    · rw [List.map_drop, HH.out.same]
    · intro p hp
      have h1 := HH.out.data p (List.mem_of_mem_drop hp)
      have h2 := h1.kept17 HKR (fun i cs fr hi hS h => by
        have h : i = r := h
        subst h
        rw [HRR.out.1] at hi
        injection hi with hi
        injection hi with _ ht
        exact absurd ht (by decide))
      exact h2.kept17 HKS (fun i cs fr hi hS h => hS.2 h)
theorem forget_any (w : World) (S : Nat → Prop) (b : Nat) (x : Wn) (H : WinAt w S b x) (ok : WnOk x) : Calls Tryz.prog 171 #[.pointer (some ⟨b, 0, none⟩)] w (ForE w S b x) := by
  rcases Nat.lt_or_ge 32 x.en with h | h
  · by_cases hx : x.en - 32 < x.done
    · exact forget_far w S b x H ok h hx
    · exact forget_near w S b x H ok h hx
  · exact forget_low w S b x H ok h
end Go.Proofs.YtabmipjpgofgpaaGreatDoor
namespace Go.Proofs.YtabmipjpgofgpaaGreatDoor
open Go.RowKit
set_option linter.unusedVariables false
set_option linter.unusedSimpArgs false

abbrev pw (b : Nat) : Value := .pointer (some ⟨b, 0, none⟩)
set_option maxRecDepth 100000 in
theorem WNew_any (w : World) (a : Nat) (ha : a ≤ 9223372036854775807) : Calls Tryz.prog 115 #[.int .u64 a] w fun e w' => e = .returned (pw w.heap.size) ∧ WinAt w' (fun k => k = w.heap.size) w.heap.size (newW a) ∧ Kept NoB w w' := by
  have hb := heap_alloc_new w (.cells #[.slice none 0 0, .int .u64 a, .int .u64 a, .int .u64 a] 207 (0, 0))
  have HB := Lib.hid hb
  clear hb
  go_enter Tryz.func115, Tryz.ntmps115
  go_wp2
  go_ret
  exact ⟨rfl, ⟨_, [], HB.out, rfl, .inl ⟨UOw.nil _ _ _, by decide, fun k h => by cases h⟩, rfl, (fun p h => by cases h), fun k h => by rw [h]; exact heap_lt HB.out⟩, (Kept.refl _ _).alloc _⟩
set_option maxRecDepth 100000 in
theorem WLow_any (w : World) (S : Nat → Prop) (b : Nat) (x : Wn) (H : WinAt w S b x) : Calls Tryz.prog 81 #[pw b] w fun e w' => e = .returned (.int .u64 x.low) ∧ w = w' := by
  obtain ⟨h, ps, H⟩ := H
  obtain ⟨c0, c1, c2, c3⟩ := cells4w H.blk
  clear H
  go_enter Tryz.func81, Tryz.ntmps81
  go_wp2
  go_ret
  exact ⟨rfl, rfl⟩
theorem WLow_nil (w : World) : Calls Tryz.prog 81 #[.pointer none] w fun e w' => e = .returned (.int .u64 0) ∧ w = w' := by
  go_enter Tryz.func81, Tryz.ntmps81
  go_wp2
  go_ret
  exact ⟨rfl, rfl⟩
set_option maxRecDepth 100000 in
theorem WEnd_any (w : World) (S : Nat → Prop) (b : Nat) (x : Wn) (H : WinAt w S b x) : Calls Tryz.prog 79 #[pw b] w fun e w' => e = .returned (.int .u64 x.en) ∧ w = w' := by
  obtain ⟨h, ps, H⟩ := H
  obtain ⟨c0, c1, c2, c3⟩ := cells4w H.blk
  clear H
  go_enter Tryz.func79, Tryz.ntmps79
  go_wp2
  go_ret
  exact ⟨rfl, rfl⟩
theorem WEnd_nil (w : World) : Calls Tryz.prog 79 #[.pointer none] w fun e w' => e = .returned (.int .u64 0) ∧ w = w' := by
  go_enter Tryz.func79, Tryz.ntmps79
  go_wp2
  go_ret
  exact ⟨rfl, rfl⟩
set_option maxRecDepth 100000 in
theorem WDone_any (w : World) (S : Nat → Prop) (b : Nat) (x : Wn) (H : WinAt w S b x) : Calls Tryz.prog 80 #[pw b] w fun e w' => e = .returned (.int .u64 x.done) ∧ w = w' := by
  obtain ⟨h, ps, H⟩ := H
  obtain ⟨c0, c1, c2, c3⟩ := cells4w H.blk
  clear H
  go_enter Tryz.func80, Tryz.ntmps80
  go_wp2
  go_ret
  exact ⟨rfl, rfl⟩
theorem WDone_nil (w : World) : Calls Tryz.prog 80 #[.pointer none] w fun e w' => e = .returned (.int .u64 0) ∧ w = w' := by
  go_enter Tryz.func80, Tryz.ntmps80
  go_wp2
  go_ret
  exact ⟨rfl, rfl⟩
set_option maxRecDepth 100000 in
theorem WDirty_any (w : World) (S : Nat → Prop) (b : Nat) (x : Wn) (H : WinAt w S b x) (ok : WnOk x) : Calls Tryz.prog 213 #[pw b] w fun e w' => e = .returned (.int .i64 (x.en - x.done : Nat)) ∧ Kept NoB w w' := by
  have H1 := Lib.hid (fun w' (hk : Kept NoB w w') => WEnd_any w' S b x (H.no hk))
  have H2 := Lib.hid (fun w' (hk : Kept NoB w w') => WDone_any w' S b x (H.no hk))
  have h1 := ok.de
  have h2 := ok.top
  have hs : (x.en : Int) - (x.done : Int) = ((x.en - x.done : Nat) : Int) := by omega
  have ht : ((x.en - x.done : Nat) : Int) ≤ 9223372036854775807 := by omega
  obtain ⟨d, hd⟩ : ∃ d : Nat, d = x.en - x.done := ⟨_, rfl⟩
  rw [← hd] at hs ht ⊢
  have hde : (x.done : Int) ≤ (x.en : Int) := by omega
  have hwr : IntKind.u64.wrap ((x.en : Int) - (x.done : Int)) = (d : Int) := by rw [hs]; exact IntWalk.u64_in _ (by omega)
  clear H ok h1 h2 hd
  go_enter Tryz.func213, Tryz.ntmps213
  go_wp2_with fail
  refine (H1.out _ (Kept.refl _ _)).mono ?_
  rintro e w1 ⟨rfl, rfl⟩
  go_wp2_with fail
  refine (H2.out _ (Kept.refl _ _)).mono ?_
  rintro e w1 ⟨rfl, rfl⟩
  go_wp2
  go_ret
  exact ⟨rfl, Kept.refl _ _⟩
theorem WDirty_nil (w : World) : Calls Tryz.prog 213 #[.pointer none] w fun e w' => e = .returned (.int .i64 0) ∧ Kept NoB w w' := by
  have H1 := Lib.hid (fun w' => WEnd_nil w')
  have H2 := Lib.hid (fun w' => WDone_nil w')
  go_enter Tryz.func213, Tryz.ntmps213
  go_wp2_with fail
  refine (H1.out _).mono ?_
  rintro e w1 ⟨rfl, rfl⟩
  go_wp2_with fail
  refine (H2.out _).mono ?_
  rintro e w1 ⟨rfl, rfl⟩
  go_wp2
  go_ret
  exact ⟨rfl, Kept.refl _ _⟩
set_option maxRecDepth 100000 in
theorem WRoom_any (w : World) (S : Nat → Prop) (b : Nat) (x : Wn) (H : WinAt w S b x) (ok : WnOk x) : Calls Tryz.prog 179 #[pw b] w fun e w' => e = .returned (.bool (decide (x.en - x.done < 16))) ∧ Kept NoB w w' := by
  have H1 := Lib.hid (WDirty_any w S b x H ok)
  have HD : Hid (decide (x.en - x.done < 16) = decide (((x.en - x.done : Nat) : Int) < 16)) := Lib.hid (decide_eq_decide.2 (by omega))
  rw [HD.out]
  obtain ⟨d, hd⟩ : ∃ d : Nat, d = x.en - x.done := ⟨_, rfl⟩
  rw [← hd] at H1 ⊢
  clear H ok hd HD
  go_enter Tryz.func179, Tryz.ntmps179
  go_wp2_with fail
  refine H1.out.mono ?_
  rintro e w1 ⟨rfl, hk⟩
  have HK := Lib.hid hk
  clear hk
  go_wp2
  go_ret
  exact ⟨(by first | rfl | simp), HK.out⟩
theorem WRoom_nil (w : World) : Calls Tryz.prog 179 #[.pointer none] w fun e w' => e = .returned (.bool false) ∧ Kept NoB w w' := by
  go_enter Tryz.func179, Tryz.ntmps179
  go_wp2
  go_ret
  exact ⟨rfl, Kept.refl _ _⟩
end Go.Proofs.YtabmipjpgofgpaaGreatDoor
