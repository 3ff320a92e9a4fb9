/-
  Rows of clients: plain lists (by wip/mkses.py). Rows of clients in memory (by wip/mkses.py). The chapter's rows: Get, Put (by wip/mkses.py). The chapter's rows: Fine, Judge, Set. Package sess: a table in memory; isClient, isRow, New, Get, Judge. Package sess: isRow, Set, All, Len. Package sess: All, Len.
-/
import Derived.Test.YtabmipjpgofgpaaGreatDoorBase
import Derived.WalkKit
import Derived.RegionTactic
import Derived.Lib.Hide
import Derived.Test.YtabmipjpgofgpaaGreatDoorProg
import Derived.WalkSpells
import Derived.WalkLawsBesides
import Derived.BigRegion
import Derived.Deep.QuietTactic
import Derived.BigQuiet
import Derived.Deep.RegionHeld3
import Derived.Deep.RegionLaw
import Derived.Deep.DeepMust
import Derived.Outline
import Derived.KernelRfl
import Derived.Deep.Cut
import Derived.StillTailTactics
namespace Go.Proofs.YtabmipjpgofgpaaGreatDoor
open Go.RowKit
set_option linter.unusedVariables false

/-- A client's row: the client, its Num, its Seq, its Code, its Ver. -/
structure Rw where
  s : Int
  b : Int
  k : Int
  ch : Int
  ep : Int
def rw0 : Rw := ⟨0, 0, 0, 0, 0⟩
def rvv (v : Rw) : Value := .agg #[.int .i64 v.s, .int .u64 v.b, .int .u64 v.k, .int .i64 v.ch, .int .u64 v.ep]
def rcs (v : Rw) : List Value := [.int .i64 v.s, .int .u64 v.b, .int .u64 v.k, .int .i64 v.ch, .int .u64 v.ep]
def rcel (L : List Rw) : List Value := L.flatMap rcs
theorem rcel_app (a b : List Rw) : rcel (a ++ b) = rcel a ++ rcel b := by simp [rcel]
theorem rcel_len (L : List Rw) : (rcel L).length = L.length * 5 := by
  induction L with
  | nil => rfl
  | cons v L ih =>
    have : rcel (v :: L) = rcs v ++ rcel L := rfl
    rw [this, List.length_append, ih, List.length_cons]
    simp only [rcs, List.length_cons, List.length_nil]
    omega
theorem rcel_at (L : List Rw) (j i : Nat) (hj : j < L.length) (hi : i < 5) : (rcel L)[j * 5 + i]? = (rcs L[j])[i]? := by
  induction L generalizing j with
  | nil => exact absurd hj (by simp)
  | cons v L ih =>
    have e : rcel (v :: L) = rcs v ++ rcel L := rfl
    have hl : (rcs v).length = 5 := rfl
    rw [e]
    cases j with
    | zero =>
      rw [Nat.zero_mul, Nat.zero_add, List.getElem?_append_left (by rw [hl]; exact hi)]
      rfl
    | succ j =>
      rw [List.getElem?_append_right (by rw [hl]; omega), hl, List.getElem_cons_succ, show (j + 1) * 5 + i - 5 = j * 5 + i by omega]
      exact ih j (by simpa using hj)
/-- Rows by rising clients. -/
def SrtR (L : List Rw) : Prop := L.Pairwise (fun x y => x.s < y.s)
def atR (L : List Rw) (s : Int) : Option Rw := L.find? (fun v => v.s == s)
def fromR (L : List Rw) (f : Int) : List Rw := L.filter (fun v => decide (f ≤ v.s))
def putR : List Rw → Rw → List Rw
  | [], v => [v]
  | x :: r, v => if x.s < v.s then x :: putR r v else if x.s = v.s then v :: r else v :: x :: r
theorem putR_mem {L : List Rw} {v x : Rw} (h : x ∈ putR L v) : x = v ∨ x ∈ L := by
  induction L with
  | nil => simp [putR] at h; exact .inl h
  | cons y r ih =>
    unfold putR at h
    split at h
    · rcases List.mem_cons.1 h with rfl | h
      · exact .inr (by simp)
      · rcases ih h with h | h
        · exact .inl h
        · exact .inr (by simp [h])
    · split at h
      · rcases List.mem_cons.1 h with rfl | h
        · exact .inl rfl
        · exact .inr (by simp [h])
      · rcases List.mem_cons.1 h with rfl | h
        · exact .inl rfl
        · exact .inr h
theorem putR_srt {L : List Rw} (v : Rw) (h : SrtR L) : SrtR (putR L v) := by
  induction L with
  | nil => exact List.pairwise_singleton _ _
  | cons y r ih =>
    obtain ⟨h1, h2⟩ := List.pairwise_cons.1 h
    unfold putR
    split
    · rename_i hlt
      refine List.pairwise_cons.2 ⟨fun z hz => ?_, ih h2⟩
      rcases putR_mem hz with rfl | hz
      · exact hlt
      · exact h1 z hz
    · split
      · rename_i he
        exact List.pairwise_cons.2 ⟨fun z hz => by have := h1 z hz; omega, h2⟩
      · exact List.pairwise_cons.2 ⟨fun z hz => by
          rcases List.mem_cons.1 hz with rfl | hz
          · omega
          · have := h1 z hz; omega, h⟩
theorem putR_len {L : List Rw} (v : Rw) : (putR L v).length ≤ L.length + 1 ∧ L.length ≤ (putR L v).length := by
  induction L with
  | nil => simp [putR]
  | cons y r ih =>
    unfold putR
    split
    · simp only [List.length_cons]; omega
    · split <;> simp
theorem atR_cons (x : Rw) (r : List Rw) (s : Int) : atR (x :: r) s = if x.s = s then some x else atR r s := by
  unfold atR
  rw [List.find?_cons]
  by_cases h : x.s = s
  · rw [if_pos h]; simp [h]
  · rw [if_neg h]
    have : (x.s == s) = false := by simpa using h
    rw [this]
theorem atR_slot {L : List Rw} {s : Int} {v : Rw} (h : atR L s = some v) : v.s = s ∧ v ∈ L := by
  have h1 := List.find?_some h
  exact ⟨by simpa using h1, List.mem_of_find?_eq_some h⟩
theorem atR_none {L : List Rw} {s : Int} (h : ∀ v ∈ L, v.s ≠ s) : atR L s = none := by
  unfold atR
  rw [List.find?_eq_none]
  intro v hv
  simpa using h v hv
theorem atR_mem {L : List Rw} {v : Rw} (hs : SrtR L) (h : v ∈ L) : atR L v.s = some v := by
  induction L with
  | nil => cases h
  | cons x r ih =>
    obtain ⟨h1, h2⟩ := List.pairwise_cons.1 hs
    rw [atR_cons]
    rcases List.mem_cons.1 h with rfl | h
    · rw [if_pos rfl]
    · have := h1 v h
      rw [if_neg (by omega)]
      exact ih h2 h
theorem atR_put_same {L : List Rw} (v : Rw) : atR (putR L v) v.s = some v := by
  induction L with
  | nil => simp [putR, atR]
  | cons x r ih =>
    unfold putR
    split
    · rw [atR_cons, if_neg (by omega)]; exact ih
    · split <;> rw [atR_cons, if_pos rfl]
theorem atR_put_other {L : List Rw} (v : Rw) {s : Int} (hs : s ≠ v.s) : atR (putR L v) s = atR L s := by
  induction L with
  | nil => simp only [putR]; rw [atR_cons, if_neg (by omega)]
  | cons x r ih =>
    unfold putR
    split
    · rw [atR_cons, atR_cons, ih]
    · split
      · rename_i h
        rw [atR_cons, atR_cons, if_neg (by omega), if_neg (by omega)]
      · rw [atR_cons, if_neg (by omega)]

/-- Votes of slots from f on, below k. -/
def selR (L : List Rw) (f k : Int) : List Rw := L.filter (fun v => decide (f ≤ v.s) && decide (v.s < k))
theorem selR_start (L : List Rw) (f k : Int) (h : ∀ v ∈ L, 0 ≤ v.s) (hk : k = max f 0) : selR L f k = [] := by
  unfold selR
  rw [List.filter_eq_nil_iff]
  intro v hv
  have := h v hv
  simp
  omega
theorem selR_end (L : List Rw) (f k : Int) (h : ∀ v ∈ L, v.s < 7) (hk : 7 ≤ k) : selR L f k = fromR L f := by
  unfold selR fromR
  apply List.filter_congr
  intro v hv
  have := h v hv
  rw [decide_eq_true (p := v.s < k) (by omega), Bool.and_true]
theorem selR_step (L : List Rw) (f k : Int) (h : SrtR L) (hk : f ≤ k) : selR L f (k + 1) = selR L f k ++ (atR L k).toList := by
  induction L with
  | nil => rfl
  | cons x r ih =>
    obtain ⟨h1, h2⟩ := List.pairwise_cons.1 h
    have e : ∀ m, selR (x :: r) f m = if f ≤ x.s ∧ x.s < m then x :: selR r f m else selR r f m := by
      intro m
      unfold selR
      rw [List.filter_cons]
      by_cases hc : f ≤ x.s ∧ x.s < m
      · rw [if_pos hc, if_pos (by simp [hc])]
      · rw [if_neg hc, if_neg (by simp; omega)]
    rw [e, e, atR_cons]
    by_cases hx : x.s = k
    · rw [if_pos (by omega), if_neg (by omega), if_pos hx]
      have n1 : ∀ m, m ≤ k + 1 → selR r f m = [] := by
        intro m hm
        unfold selR
        rw [List.filter_eq_nil_iff]
        intro v hv
        have := h1 v hv
        simp
        omega
      rw [n1 _ (Int.le_refl _), n1 _ (by omega)]
      rfl
    · rw [if_neg hx, ih h2]
      by_cases hc : f ≤ x.s ∧ x.s < k
      · rw [if_pos (by omega), if_pos hc]
        rfl
      · rw [if_neg (by omega), if_neg hc]
theorem selR_len (L : List Rw) (f k : Int) : (selR L f k).length ≤ L.length := List.length_filter_le _ _
theorem rows_few_aux (L : List Rw) (a : Int) (h : SrtR L) (h0 : ∀ v ∈ L, a ≤ v.s ∧ v.s < 7) (ha : a ≤ 7) : (L.length : Int) ≤ 7 - a := by
  induction L generalizing a with
  | nil => simp; omega
  | cons x r ih =>
    obtain ⟨h1, h2⟩ := List.pairwise_cons.1 h
    have hx := h0 x (by simp)
    have := ih (x.s + 1) h2 (fun v hv => ⟨by have := h1 v hv; omega, (h0 v (by simp [hv])).2⟩) (by omega)
    simp only [List.length_cons]
    omega
/-- The votes below a slot. -/
theorem putR_at {L : List Rw} {v : Rw} {k : Nat} (hk : k ≤ L.length) (h : ∀ j (hj : j < L.length), j < k → L[j].s < v.s) (he : ∀ hk : k < L.length, ¬ L[k].s < v.s) :
    putR L v = L.take k ++ v :: (L.drop (if ∃ hk : k < L.length, L[k].s = v.s then k + 1 else k)) := by
  induction k generalizing L with
  | zero =>
    cases L with
    | nil => simp [putR]
    | cons x r =>
      have h0 := he (by simp)
      simp only [List.getElem_cons_zero] at h0
      unfold putR
      rw [if_neg h0]
      by_cases e : x.s = v.s
      · rw [if_pos e, if_pos ⟨by simp, by simpa using e⟩]
        simp
      · rw [if_neg e, if_neg (by rintro ⟨_, h⟩; exact e (by simpa using h))]
        simp
  | succ k ih =>
    cases L with
    | nil => simp at hk
    | cons x r =>
      have h0 := h 0 (by simp) (by omega)
      simp only [List.getElem_cons_zero] at h0
      unfold putR
      rw [if_pos h0, ih (L := r) (by simpa using hk) (fun j hj hjk => by have := h (j + 1) (by simpa using hj) (by omega); simpa using this) (fun hk' => by have := he (by simpa using hk'); simpa using this)]
      simp only [List.take_succ_cons, List.cons_append, List.length_cons, List.getElem_cons_succ]
      by_cases e : ∃ hk : k < r.length, r[k].s = v.s
      · rw [if_pos e, if_pos (by obtain ⟨h1, h2⟩ := e; exact ⟨by omega, h2⟩), List.drop_succ_cons]
      · rw [if_neg e, if_neg (by rintro ⟨h1, h2⟩; exact e ⟨by omega, h2⟩), List.drop_succ_cons]
theorem atR_skip {L : List Rw} {s : Int} {k : Nat} (h : ∀ j (hj : j < L.length), j < k → L[j].s ≠ s) : atR L s = atR (L.drop k) s := by
  induction k generalizing L with
  | zero => rfl
  | succ k ih =>
    cases L with
    | nil => rfl
    | cons x r =>
      have h0 := h 0 (by simp) (by omega)
      rw [atR_cons, if_neg (by simpa using h0), List.drop_succ_cons]
      exact ih (fun j hj hk => by have := h (j + 1) (by simpa using hj) (by omega); simpa using this)
end Go.Proofs.YtabmipjpgofgpaaGreatDoor
namespace Go.Proofs.YtabmipjpgofgpaaGreatDoor
open Go.RowKit
set_option linter.unusedVariables false

theorem blkR_frozen {w : World} {g : Nat} {cs : Array Value} {t : TypeId} (h : w.heap[g]? = some (.cells cs t (0, 0))) (o : Nat) : w.frozen? ⟨g, o, none⟩ = false := by simp [World.frozen?, h]
theorem blkR_set {w : World} {g : Nat} {cs : Array Value} {t : TypeId} {fr : Nat × Nat} (h : w.heap[g]? = some (.cells cs t fr)) (i : Nat) (u : Value) :
    (w.setCell ⟨g, i, none⟩ u).heap[g]? = some (.cells (cs.setIfInBounds i u) t fr) := by simp [World.setCell, Array.getElem?_modify, h]
theorem blkR_set_other {w : World} {g k : Nat} {o : Obj} (h : w.heap[g]? = some o) (i : Nat) (u : Value) (hk : k ≠ g) :
    (w.setCell ⟨k, i, none⟩ u).heap[g]? = some o := by simp [World.setCell, Array.getElem?_modify, h, hk]
theorem blkR_alloc {w : World} {g : Nat} {o : Obj} (h : w.heap[g]? = some o) (x : Obj) : (w.alloc x).heap[g]? = some o := (heap_alloc_old w x (heap_lt h)).trans h
theorem cells5r {w : World} {b : Nat} {v : Rw} {t : TypeId} (h : w.heap[b]? = some (.cells #[.int .i64 v.s, .int .u64 v.b, .int .u64 v.k, .int .i64 v.ch, .int .u64 v.ep] t (0, 0))) :
    w.cell? ⟨b, 0, none⟩ = some (.int .i64 v.s) ∧ w.cell? ⟨b, 1, none⟩ = some (.int .u64 v.b) ∧ w.cell? ⟨b, 2, none⟩ = some (.int .u64 v.k) ∧ w.cell? ⟨b, 3, none⟩ = some (.int .i64 v.ch) ∧ w.cell? ⟨b, 4, none⟩ = some (.int .u64 v.ep) :=
  ⟨cell_of_row _ _ 0 _ _ _ h, cell_of_row _ _ 1 _ _ _ h, cell_of_row _ _ 2 _ _ _ h, cell_of_row _ _ 3 _ _ _ h, cell_of_row _ _ 4 _ _ _ h⟩
theorem addr_add16 (b o j : Nat) : (⟨b, o, none⟩ : Addr).add j = ⟨b, o + j, none⟩ := by unfold Addr.add; split <;> simp_all
/-- Six cells that are a vote. -/
def RwAt (w : World) (b o : Nat) (v : Rw) : Prop :=
  w.cell? ⟨b, o, none⟩ = some (.int .i64 v.s) ∧ w.cell? ⟨b, o + 1, none⟩ = some (.int .u64 v.b) ∧ w.cell? ⟨b, o + 2, none⟩ = some (.int .u64 v.k) ∧ w.cell? ⟨b, o + 3, none⟩ = some (.int .i64 v.ch) ∧ w.cell? ⟨b, o + 4, none⟩ = some (.int .u64 v.ep)
theorem RwAt.kept {S : Nat → Prop} {w w' : World} {b o : Nat} {v : Rw} (h : RwAt w b o v) (hk : Kept S w w') (hs : ¬ S b) : RwAt w' b o v :=
  ⟨hk.cell (p := ⟨b, o, none⟩) hs h.1, hk.cell (p := ⟨b, o + 1, none⟩) hs h.2.1, hk.cell (p := ⟨b, o + 2, none⟩) hs h.2.2.1, hk.cell (p := ⟨b, o + 3, none⟩) hs h.2.2.2.1, hk.cell (p := ⟨b, o + 4, none⟩) hs h.2.2.2.2⟩
/-- The value is a slice that reads as these votes, in a block of F. -/
def RwRd (w : World) (F : Nat → Prop) (v : Value) (L : List Rw) : Prop :=
  ∃ a c, v = .slice a L.length c ∧ L.length ≤ c ∧ c ≤ maxLen ∧ (a = none → c = 0) ∧ (0 < L.length → ∃ b o, a = some ⟨b, o, none⟩ ∧ F b ∧ b < w.heap.size ∧ ∀ j (hj : j < L.length), RwAt w b (o + j * 5) L[j])
theorem RwRd.nil (w : World) (F : Nat → Prop) : RwRd w F (.slice none 0 0) [] := ⟨none, 0, rfl, Nat.le_refl _, Nat.zero_le _, fun _ => rfl, fun h => absurd h (by simp)⟩
theorem RwRd.form {w : World} {F : Nat → Prop} {v : Value} {L : List Rw} (h : RwRd w F v L) : ∃ a c, v = .slice a L.length c := by
  obtain ⟨a, c, h, _⟩ := h
  exact ⟨a, c, h⟩
theorem RwRd.kept {S F : Nat → Prop} {w w' : World} {v : Value} {L : List Rw} (h : RwRd w F v L) (hk : Kept S w w') (hs : ∀ k, F k → ¬ S k) : RwRd w' F v L := by
  obtain ⟨a, c, h1, h2, h3, h4, h5⟩ := h
  exact ⟨a, c, h1, h2, h3, h4, fun hp => by
    obtain ⟨b, o, e, hF, hb, hc⟩ := h5 hp
    exact ⟨b, o, e, hF, Nat.lt_of_lt_of_le hb hk.size, fun j hj => (hc j hj).kept hk (hs b hF)⟩⟩
theorem RwRd.no {F : Nat → Prop} {w w' : World} {v : Value} {L : List Rw} (h : RwRd w F v L) (hk : Kept NoB w w') : RwRd w' F v L := h.kept hk (fun _ _ h => h)
theorem RwRd.mono {F G : Nat → Prop} {w : World} {v : Value} {L : List Rw} (h : RwRd w F v L) (hG : ∀ k, k < w.heap.size → F k → G k) : RwRd w G v L := by
  obtain ⟨a, c, h1, h2, h3, h4, h5⟩ := h
  exact ⟨a, c, h1, h2, h3, h4, fun hp => by
    obtain ⟨b, o, e, hF, hb, hc⟩ := h5 hp
    exact ⟨b, o, e, hG b hb hF, hb, hc⟩⟩
theorem RwRd.len {F : Nat → Prop} {w : World} {v : Value} {L : List Rw} (h : RwRd w F v L) : L.length ≤ 9223372036854775807 := by
  obtain ⟨a, c, h1, h2, h3, _⟩ := h
  unfold maxLen at h3
  omega
theorem RwRd.at_ {w : World} {F : Nat → Prop} {a : Option Addr} {c : Nat} {L : List Rw} (h : RwRd w F (.slice a L.length c) L) (j : Nat) (hj : j < L.length) : ∃ b o, a = some ⟨b, o, none⟩ ∧ F b ∧ b < w.heap.size ∧ RwAt w b (o + j * 5) L[j] := by
  obtain ⟨a', c', e, h2, h3, h4, h5⟩ := h
  injection e with e1 e2 e3
  subst e1 e3
  obtain ⟨b, o, e, hF, hb, hc⟩ := h5 (by omega)
  exact ⟨b, o, e, hF, hb, hc j hj⟩
/-- A slice from its i-th vote on. -/
theorem RwRd.drop {F : Nat → Prop} {w : World} {a : Option Addr} {c : Nat} {L : List Rw} (h : RwRd w F (.slice a L.length c) L) (i : Nat) (hi : i ≤ L.length) :
    RwRd w F (.slice (if c = i then a else a.map (·.add (i * 5))) (L.length - i) (c - i)) (L.drop i) := by
  obtain ⟨a', c', e, h2, h3, h4, h5⟩ := h
  injection e with e1 e2 e3
  subst e1 e3
  have hl : (L.drop i).length = L.length - i := List.length_drop
  refine ⟨_, c - i, by rw [hl], by rw [hl]; omega, by omega, fun hn => ?_, fun hp => ?_⟩
  · split at hn
    · have := h4 hn; omega
    · cases a with
      | none => have := h4 rfl; omega
      | some ad => cases hn
  · rw [hl] at hp
    obtain ⟨b, o, rfl, hF, hb, hc⟩ := h5 (by omega)
    rw [if_neg (by omega)]
    refine ⟨b, o + i * 5, by simp [addr_add16], hF, hb, fun j hj => ?_⟩
    rw [hl] at hj
    have := hc (i + j) (by omega)
    rw [List.getElem_drop, show o + i * 5 + j * 5 = o + (i + j) * 5 by omega]
    exact this
theorem Tryz.info43 : (Tryz.prog.info? 43).map (fun i => (i.zero, i.size, i.bytes)) = some (some (rvv rw0), 5, 40) := by kernel_rfl
/-- A row of votes of the call's own, from block B on. -/
def QOwn (B : Nat) (w : World) (v : Value) (L : List Rw) : Prop := w.ownsRow B 43 5 v L.length (rcel L)
theorem QOwn.nil (B : Nat) (w : World) : QOwn B w (.slice none 0 0) [] := World.ownsRow_nil _ _ _ _
theorem QOwn.form {B : Nat} {w : World} {v : Value} {L : List Rw} (h : QOwn B w v L) : ∃ a c, v = .slice a L.length c := by
  rcases h.2 with ⟨rfl, h0⟩ | ⟨r, cap, cur, rfl, _⟩
  · exact ⟨none, 0, by rw [h0]⟩
  · exact ⟨_, _, rfl⟩
theorem QOwn.kept {S : Nat → Prop} {B : Nat} {w w' : World} {v : Value} {L : List Rw} (h : QOwn B w v L) (hk : Kept S w w') (hs : ∀ k, v.ownBlock = some k → ¬ S k) : QOwn B w' v L := by
  refine ⟨h.1, ?_⟩
  rcases h.2 with hn | ⟨r, cap, cur, rfl, hb, hr, rest⟩
  · exact .inl hn
  · exact .inr ⟨r, cap, cur, rfl, hb, hk.heap (hs r rfl) hr, rest⟩
theorem QOwn.no {B : Nat} {w w' : World} {v : Value} {L : List Rw} (h : QOwn B w v L) (hk : Kept NoB w w') : QOwn B w' v L := h.kept hk (fun _ _ h => h)
theorem QOwn.base {B : Nat} {w : World} {v : Value} {L : List Rw} (h : QOwn B w v L) (k : Nat) (hk : v.ownBlock = some k) : B ≤ k ∧ k < w.heap.size := by
  rcases h.2 with ⟨rfl, _⟩ | ⟨r, cap, cur, rfl, hb, hr, _⟩
  · cases hk
  · injection hk with hk
    subst hk
    exact ⟨hb, heap_lt hr⟩
theorem QOwn.mono {B C : Nat} {w : World} {v : Value} {L : List Rw} (h : QOwn B w v L) (hB : C ≤ B) : QOwn C w v L := by
  refine ⟨h.1, ?_⟩
  rcases h.2 with hn | ⟨r, cap, cur, rfl, hb, rest⟩
  · exact .inl hn
  · exact .inr ⟨r, cap, cur, rfl, Nat.le_trans hB hb, rest⟩
/-- A row's block is of votes. -/
theorem QOwn.typ {B : Nat} {w : World} {v : Value} {L : List Rw} (h : QOwn B w v L) (k : Nat) (hk : v.ownBlock = some k) {cs : Array Value} {t : TypeId} {fr : Nat × Nat} (hc : w.heap[k]? = some (.cells cs t fr)) : t = 43 := by
  rcases h.2 with ⟨rfl, _⟩ | ⟨r, cap, cur, rfl, hb, hr, _⟩
  · cases hk
  · injection hk with hk
    subst hk
    rw [hr] at hc
    injection hc with hc
    injection hc with _ hc
    exact hc.symm
theorem QOwn.one {B : Nat} {w : World} {v : Value} {L : List Rw} (h : QOwn B w v L) {k : Nat} {cs : Array Value} {t : TypeId} {fr : Nat × Nat} (hc : w.heap[k]? = some (.cells cs t fr)) (ht : t ≠ 43) : ∀ j, v.ownBlock = some j → j ≠ k := by
  intro j hj e
  subst e
  exact ht (h.typ j hj hc)
/-- append of one vote that lies in a block to a row of the call's own. -/
theorem run_append_qr (w : World) (base : Nat) (ty : TypeId) (v : Value) (L : List Rw) (hown : QOwn base w v L) (b : Nat) (x : Rw) (hb : w.heap[b]? = some (.cells #[.int .i64 x.s, .int .u64 x.b, .int .u64 x.k, .int .i64 x.ch, .int .u64 x.ep] 43 (0, 0))) (hl : L.length ≤ 100000) (hbase : base ≤ w.heap.size) :
    ∃ a' c' w', (Builtin.append_ #[31, 31] ty #[v, .slice (some ⟨b, 0, none⟩) 1 1]).run Tryz.prog w = .ok (.slice a' (L.length + 1) c') w' ∧ QOwn base w' (.slice a' (L.length + 1) c') (L ++ [x]) ∧ w.grownBy w' v.ownBlock ∧ ((Value.slice a' (L.length + 1) c').ownBlock = v.ownBlock ∨ (Value.slice a' (L.length + 1) c').ownBlock = some w.heap.size) := by
  obtain ⟨i0, hi, hz0, hz1, hz2⟩ := info_parts Tryz.info43
  obtain ⟨v', w', hrun, h2, h3, _, h5⟩ := run_append_own_at (P := Tryz.prog) w base 31 ty 43 i0 _ 5 40 Tryz.underlying31 hi hz0 hz1 hz2 rfl (by decide) v L.length _ hown ⟨b, 0, none⟩ 1 1 (rcel [x]) (by simp [rcel, rcs]) (World.news_of_block hb) (by
    intro y hy
    simp only [rcel, rcs, List.flatMap_cons, List.flatMap_nil, List.append_nil, List.mem_cons, List.not_mem_nil, or_false] at hy
    rcases hy with rfl | rfl | rfl | rfl | rfl <;> rfl) (by unfold maxLen; omega) (by omega) hbase
  have h2' : QOwn base w' v' (L ++ [x]) := by
    unfold QOwn
    rw [rcel_app, List.length_append]
    exact h2
  obtain ⟨a', c', e⟩ := h2'.form
  rw [List.length_append] at e
  have e : v' = .slice a' (L.length + 1) c' := e
  subst e
  exact ⟨a', c', w', hrun, h2', h3, h5⟩
theorem wpList_append_qr (w : World) {ops : Array Oper} {rest : List Oper} {o : Oper} {a : Act} {Q : Exit → Act → World → Prop} (hgd : o.guard = none) (s x : Operand)
    (ho : o.op = .call { callee := .builtin .append, args := #[s, x], argTypes := #[31, 31] })
    (base : Nat) (v : Value) (L : List Rw) (hs : a.eval s = v) (hown : QOwn base w v L) (b : Nat) (y : Rw) (hx : a.eval x = .slice (some ⟨b, 0, none⟩) 1 1) (hb : w.heap[b]? = some (.cells #[.int .i64 y.s, .int .u64 y.b, .int .u64 y.k, .int .i64 y.ch, .int .u64 y.ep] 43 (0, 0))) (hl : L.length ≤ 100000) (hbase : base ≤ w.heap.size)
    (h : ∀ a' c' w', QOwn base w' (.slice a' (L.length + 1) c') (L ++ [y]) → w.grownBy w' v.ownBlock → ((Value.slice a' (L.length + 1) c').ownBlock = v.ownBlock ∨ (Value.slice a' (L.length + 1) c').ownBlock = some w.heap.size) → wpList Tryz.prog ops Q rest (a.put o.dst (.slice a' (L.length + 1) c')) w') : wpList Tryz.prog ops Q (o :: rest) a w :=
  wpList_plain hgd fun K hK => by
    obtain ⟨a', c', w', hrun, h2, h3, h4⟩ := run_append_qr w base o.type v L hown b y hb hl hbase
    unfold Oper.wp execOp
    simp only [ho, resolve, invoke, builtin, Sem.run_bind, Sem.run_pure, Result.andThen_ok, List.map_toArray, List.map_cons, List.map_nil, hs, hx, hrun]
    exact hK _ _ (h a' c' w' h2 h3 h4)

/-- A row's cells. -/
theorem QOwn.cells {B : Nat} {w : World} {v : Value} {L : List Rw} (h : QOwn B w v L) (j : Nat) (hj : j < L.length) :
    ∃ r c, v = .slice (some ⟨r, 0, none⟩) L.length c ∧ r < w.heap.size ∧ w.cell? ⟨r, j * 5, none⟩ = some (.int .i64 L[j].s) ∧ w.cell? ⟨r, j * 5 + 1, none⟩ = some (.int .u64 L[j].b) ∧ w.cell? ⟨r, j * 5 + 2, none⟩ = some (.int .u64 L[j].k) ∧
      w.cell? ⟨r, j * 5 + 3, none⟩ = some (.int .i64 L[j].ch) ∧ w.cell? ⟨r, j * 5 + 4, none⟩ = some (.int .u64 L[j].ep) := by
  obtain ⟨r, cap, rfl, hB, hlt⟩ := World.ownsRow.form h (by omega)
  have hx : ∀ i, i < 5 → ∀ u, (rcs L[j])[i]? = some u → w.cell? ⟨r, j * 5 + i, none⟩ = some u := fun i hi u hu => by
    have := World.ownsRow.cells h (g := r) rfl (j * 5 + i) u (by rw [rcel_at L j i hj hi]; exact hu)
    have hadd : (⟨r, 0, none⟩ : Addr).add (j * 5 + i) = ⟨r, j * 5 + i, none⟩ := by unfold Addr.add; split <;> simp_all
    rw [← hadd]
    exact this
  exact ⟨r, cap, rfl, hlt, hx 0 (by omega) _ rfl, hx 1 (by omega) _ rfl, hx 2 (by omega) _ rfl, hx 3 (by omega) _ rfl, hx 4 (by omega) _ rfl⟩
/-- A row of the call's own reads so. -/
theorem QOwn.rd {B : Nat} {w : World} {v : Value} {L : List Rw} {F : Nat → Prop} (h : QOwn B w v L) (hF : ∀ k, v.ownBlock = some k → F k) : RwRd w F v L := by
  rcases h.2 with ⟨rfl, h0⟩ | ⟨r, cap, cur, rfl, hb, hr, hc, hm, _⟩
  · obtain rfl : L = [] := List.eq_nil_of_length_eq_zero h0
    exact RwRd.nil w F
  · refine ⟨_, cap, rfl, hc, hm, (fun h => by cases h), fun _ => ⟨r, 0, rfl, hF r rfl, heap_lt hr, fun j hj => ?_⟩⟩
    obtain ⟨r', c', e, _, e0, e1, e2, e3, e4⟩ := h.cells j hj
    injection e with e
    injection e with e
    injection e with e
    subst e
    simp only [Nat.zero_add]
    exact ⟨e0, e1, e2, e3, e4⟩
/-- append of votes that a slice has to a row of the call's own. -/
theorem run_append_qrs (w : World) (base : Nat) (ty : TypeId) (v : Value) (L : List Rw) (hown : QOwn base w v L) (x : Value) (M : List Rw) (F : Nat → Prop) (hx : RwRd w F x M) (hl : L.length + M.length ≤ 100000) (hbase : base ≤ w.heap.size) :
    ∃ a' c' w', (Builtin.append_ #[31, 31] ty #[v, x]).run Tryz.prog w = .ok (.slice a' (L.length + M.length) c') w' ∧ QOwn base w' (.slice a' (L.length + M.length) c') (L ++ M) ∧ w.grownBy w' v.ownBlock ∧
      ((Value.slice a' (L.length + M.length) c').ownBlock = v.ownBlock ∨ (Value.slice a' (L.length + M.length) c').ownBlock = some w.heap.size) := by
  obtain ⟨i0, hi, hz0, hz1, hz2⟩ := info_parts Tryz.info43
  obtain ⟨xa, xc, rfl, h2, h3, h4, h5⟩ := hx
  rcases Nat.eq_zero_or_pos M.length with h0 | h0
  · obtain rfl : M = [] := List.eq_nil_of_length_eq_zero h0
    obtain ⟨a, c, rfl⟩ := hown.form
    cases xa with
    | none =>
      obtain rfl := h4 rfl
      exact ⟨a, c, w, run_append_owned_none w base _ ty _ i0 5 Tryz.underlying31 hi _ _ _ hown, by simpa using hown, ⟨rfl, rfl, rfl, Nat.le_refl _, fun _ _ _ => rfl⟩, .inl rfl⟩
    | some ad =>
      obtain ⟨v', w', hrun, g2, g3, _, g5⟩ := run_append_own_at (P := Tryz.prog) w base 31 ty 43 i0 _ 5 40 Tryz.underlying31 hi hz0 hz1 hz2 rfl (by decide) _ L.length _ hown ad 0 xc [] (by simp) (fun j u hu => by simp at hu) (fun y hy => by cases hy) (by unfold maxLen; omega) (by omega) hbase
      have g2' : QOwn base w' v' L := by
        have := g2
        simp only [List.append_nil, Nat.add_zero] at this
        exact this
      obtain ⟨a', c', e⟩ := g2'.form
      subst e
      exact ⟨a', c', w', hrun, by simpa using g2', g3, g5⟩
  · obtain ⟨b, o, rfl, hF, hb, hc⟩ := h5 h0
    have hcell : ∀ j u, (rcel M)[j]? = some u → w.cell? ((⟨b, o, none⟩ : Addr).add j) = some u := by
      intro j u hu
      have hj : j < (rcel M).length := by
        rcases Nat.lt_or_ge j (rcel M).length with h | h
        · exact h
        · rw [List.getElem?_eq_none h] at hu; cases hu
      rw [rcel_len] at hj
      have hjm : j / 5 < M.length := by omega
      have hd : j = j / 5 * 5 + j % 5 := by omega
      rw [hd, rcel_at M (j / 5) (j % 5) hjm (Nat.mod_lt _ (show 0 < 5 by decide))] at hu
      obtain ⟨e0, e1, e2, e3, e4⟩ := hc (j / 5) hjm
      rw [addr_add16, show o + j = o + j / 5 * 5 + j % 5 by omega]
      have hm : j % 5 < 5 := Nat.mod_lt _ (show 0 < 5 by decide)
      generalize j % 5 = i at hu hm ⊢
      match i, hm with
      | 0, _ => simp [rcs] at hu; subst hu; exact e0
      | 1, _ => simp [rcs] at hu; subst hu; exact e1
      | 2, _ => simp [rcs] at hu; subst hu; exact e2
      | 3, _ => simp [rcs] at hu; subst hu; exact e3
      | 4, _ => simp [rcs] at hu; subst hu; exact e4
    obtain ⟨v', w', hrun, g2, g3, _, g5⟩ := run_append_own_at (P := Tryz.prog) w base 31 ty 43 i0 _ 5 40 Tryz.underlying31 hi hz0 hz1 hz2 rfl (by decide) v L.length _ hown ⟨b, o, none⟩ M.length xc (rcel M) (rcel_len M) hcell (by
      intro y hy
      unfold rcel at hy
      obtain ⟨z, _, hz⟩ := List.mem_flatMap.1 hy
      simp only [rcs, List.mem_cons, List.not_mem_nil, or_false] at hz
      rcases hz with rfl | rfl | rfl | rfl | rfl <;> rfl) (by unfold maxLen; omega) (by omega) hbase
    have g2' : QOwn base w' v' (L ++ M) := by
      unfold QOwn
      rw [rcel_app, List.length_append]
      exact g2
    obtain ⟨a', c', e⟩ := g2'.form
    rw [List.length_append] at e
    subst e
    exact ⟨a', c', w', hrun, g2', g3, g5⟩
theorem wpList_append_qrs (w : World) {ops : Array Oper} {rest : List Oper} {o : Oper} {a : Act} {Q : Exit → Act → World → Prop} (hgd : o.guard = none) (s x : Operand)
    (ho : o.op = .call { callee := .builtin .append, args := #[s, x], argTypes := #[31, 31] })
    (base : Nat) (v : Value) (L : List Rw) (hs : a.eval s = v) (hown : QOwn base w v L) (y : Value) (M : List Rw) (F : Nat → Prop) (hx : a.eval x = y) (hy : RwRd w F y M) (hl : L.length + M.length ≤ 100000) (hbase : base ≤ w.heap.size) (N : Nat) (hN : L.length + M.length = N)
    (h : ∀ a' c' w', QOwn base w' (.slice a' N c') (L ++ M) → w.grownBy w' v.ownBlock → ((Value.slice a' N c').ownBlock = v.ownBlock ∨ (Value.slice a' N c').ownBlock = some w.heap.size) → wpList Tryz.prog ops Q rest (a.put o.dst (.slice a' N c')) w') : wpList Tryz.prog ops Q (o :: rest) a w :=
  wpList_plain hgd fun K hK => by
    subst hN
    obtain ⟨a', c', w', hrun, h2, h3, h4⟩ := run_append_qrs w base o.type v L hown y M F hy hl hbase
    unfold Oper.wp execOp
    simp only [ho, resolve, invoke, builtin, Sem.run_bind, Sem.run_pure, Result.andThen_ok, List.map_toArray, List.map_cons, List.map_nil, hs, hx, hrun]
    exact hK _ _ (h a' c' w' h2 h3 h4)
theorem Tryz.info40 : (Tryz.prog.info? 40).map (fun i => (i.zero, i.size, i.bytes)) = some (some (rvv rw0), 5, 40) := by kernel_rfl
/-- A row of votes of the call's own, from block B on. -/
def POwn (B : Nat) (w : World) (v : Value) (L : List Rw) : Prop := w.ownsRow B 40 5 v L.length (rcel L)
theorem POwn.nil (B : Nat) (w : World) : POwn B w (.slice none 0 0) [] := World.ownsRow_nil _ _ _ _
theorem POwn.form {B : Nat} {w : World} {v : Value} {L : List Rw} (h : POwn B w v L) : ∃ a c, v = .slice a L.length c := by
  rcases h.2 with ⟨rfl, h0⟩ | ⟨r, cap, cur, rfl, _⟩
  · exact ⟨none, 0, by rw [h0]⟩
  · exact ⟨_, _, rfl⟩
theorem POwn.kept {S : Nat → Prop} {B : Nat} {w w' : World} {v : Value} {L : List Rw} (h : POwn B w v L) (hk : Kept S w w') (hs : ∀ k, v.ownBlock = some k → ¬ S k) : POwn B w' v L := by
  refine ⟨h.1, ?_⟩
  rcases h.2 with hn | ⟨r, cap, cur, rfl, hb, hr, rest⟩
  · exact .inl hn
  · exact .inr ⟨r, cap, cur, rfl, hb, hk.heap (hs r rfl) hr, rest⟩
theorem POwn.no {B : Nat} {w w' : World} {v : Value} {L : List Rw} (h : POwn B w v L) (hk : Kept NoB w w') : POwn B w' v L := h.kept hk (fun _ _ h => h)
theorem POwn.base {B : Nat} {w : World} {v : Value} {L : List Rw} (h : POwn B w v L) (k : Nat) (hk : v.ownBlock = some k) : B ≤ k ∧ k < w.heap.size := by
  rcases h.2 with ⟨rfl, _⟩ | ⟨r, cap, cur, rfl, hb, hr, _⟩
  · cases hk
  · injection hk with hk
    subst hk
    exact ⟨hb, heap_lt hr⟩
theorem POwn.mono {B C : Nat} {w : World} {v : Value} {L : List Rw} (h : POwn B w v L) (hB : C ≤ B) : POwn C w v L := by
  refine ⟨h.1, ?_⟩
  rcases h.2 with hn | ⟨r, cap, cur, rfl, hb, rest⟩
  · exact .inl hn
  · exact .inr ⟨r, cap, cur, rfl, Nat.le_trans hB hb, rest⟩
/-- A row's block is of votes. -/
theorem POwn.typ {B : Nat} {w : World} {v : Value} {L : List Rw} (h : POwn B w v L) (k : Nat) (hk : v.ownBlock = some k) {cs : Array Value} {t : TypeId} {fr : Nat × Nat} (hc : w.heap[k]? = some (.cells cs t fr)) : t = 40 := by
  rcases h.2 with ⟨rfl, _⟩ | ⟨r, cap, cur, rfl, hb, hr, _⟩
  · cases hk
  · injection hk with hk
    subst hk
    rw [hr] at hc
    injection hc with hc
    injection hc with _ hc
    exact hc.symm
theorem POwn.one {B : Nat} {w : World} {v : Value} {L : List Rw} (h : POwn B w v L) {k : Nat} {cs : Array Value} {t : TypeId} {fr : Nat × Nat} (hc : w.heap[k]? = some (.cells cs t fr)) (ht : t ≠ 40) : ∀ j, v.ownBlock = some j → j ≠ k := by
  intro j hj e
  subst e
  exact ht (h.typ j hj hc)
/-- append of one vote that lies in a block to a row of the call's own. -/
theorem run_append_pr (w : World) (base : Nat) (ty : TypeId) (v : Value) (L : List Rw) (hown : POwn base w v L) (b : Nat) (x : Rw) (hb : w.heap[b]? = some (.cells #[.int .i64 x.s, .int .u64 x.b, .int .u64 x.k, .int .i64 x.ch, .int .u64 x.ep] 40 (0, 0))) (hl : L.length ≤ 100000) (hbase : base ≤ w.heap.size) :
    ∃ a' c' w', (Builtin.append_ #[213, 213] ty #[v, .slice (some ⟨b, 0, none⟩) 1 1]).run Tryz.prog w = .ok (.slice a' (L.length + 1) c') w' ∧ POwn base w' (.slice a' (L.length + 1) c') (L ++ [x]) ∧ w.grownBy w' v.ownBlock ∧ ((Value.slice a' (L.length + 1) c').ownBlock = v.ownBlock ∨ (Value.slice a' (L.length + 1) c').ownBlock = some w.heap.size) := by
  obtain ⟨i0, hi, hz0, hz1, hz2⟩ := info_parts Tryz.info40
  obtain ⟨v', w', hrun, h2, h3, _, h5⟩ := run_append_own_at (P := Tryz.prog) w base 213 ty 40 i0 _ 5 40 Tryz.underlying213 hi hz0 hz1 hz2 rfl (by decide) v L.length _ hown ⟨b, 0, none⟩ 1 1 (rcel [x]) (by simp [rcel, rcs]) (World.news_of_block hb) (by
    intro y hy
    simp only [rcel, rcs, List.flatMap_cons, List.flatMap_nil, List.append_nil, List.mem_cons, List.not_mem_nil, or_false] at hy
    rcases hy with rfl | rfl | rfl | rfl | rfl <;> rfl) (by unfold maxLen; omega) (by omega) hbase
  have h2' : POwn base w' v' (L ++ [x]) := by
    unfold POwn
    rw [rcel_app, List.length_append]
    exact h2
  obtain ⟨a', c', e⟩ := h2'.form
  rw [List.length_append] at e
  have e : v' = .slice a' (L.length + 1) c' := e
  subst e
  exact ⟨a', c', w', hrun, h2', h3, h5⟩
theorem wpList_append_pr (w : World) {ops : Array Oper} {rest : List Oper} {o : Oper} {a : Act} {Q : Exit → Act → World → Prop} (hgd : o.guard = none) (s x : Operand)
    (ho : o.op = .call { callee := .builtin .append, args := #[s, x], argTypes := #[213, 213] })
    (base : Nat) (v : Value) (L : List Rw) (hs : a.eval s = v) (hown : POwn base w v L) (b : Nat) (y : Rw) (hx : a.eval x = .slice (some ⟨b, 0, none⟩) 1 1) (hb : w.heap[b]? = some (.cells #[.int .i64 y.s, .int .u64 y.b, .int .u64 y.k, .int .i64 y.ch, .int .u64 y.ep] 40 (0, 0))) (hl : L.length ≤ 100000) (hbase : base ≤ w.heap.size)
    (h : ∀ a' c' w', POwn base w' (.slice a' (L.length + 1) c') (L ++ [y]) → w.grownBy w' v.ownBlock → ((Value.slice a' (L.length + 1) c').ownBlock = v.ownBlock ∨ (Value.slice a' (L.length + 1) c').ownBlock = some w.heap.size) → wpList Tryz.prog ops Q rest (a.put o.dst (.slice a' (L.length + 1) c')) w') : wpList Tryz.prog ops Q (o :: rest) a w :=
  wpList_plain hgd fun K hK => by
    obtain ⟨a', c', w', hrun, h2, h3, h4⟩ := run_append_pr w base o.type v L hown b y hb hl hbase
    unfold Oper.wp execOp
    simp only [ho, resolve, invoke, builtin, Sem.run_bind, Sem.run_pure, Result.andThen_ok, List.map_toArray, List.map_cons, List.map_nil, hs, hx, hrun]
    exact hK _ _ (h a' c' w' h2 h3 h4)

/-- A row's cells. -/
theorem POwn.cells {B : Nat} {w : World} {v : Value} {L : List Rw} (h : POwn B w v L) (j : Nat) (hj : j < L.length) :
    ∃ r c, v = .slice (some ⟨r, 0, none⟩) L.length c ∧ r < w.heap.size ∧ w.cell? ⟨r, j * 5, none⟩ = some (.int .i64 L[j].s) ∧ w.cell? ⟨r, j * 5 + 1, none⟩ = some (.int .u64 L[j].b) ∧ w.cell? ⟨r, j * 5 + 2, none⟩ = some (.int .u64 L[j].k) ∧
      w.cell? ⟨r, j * 5 + 3, none⟩ = some (.int .i64 L[j].ch) ∧ w.cell? ⟨r, j * 5 + 4, none⟩ = some (.int .u64 L[j].ep) := by
  obtain ⟨r, cap, rfl, hB, hlt⟩ := World.ownsRow.form h (by omega)
  have hx : ∀ i, i < 5 → ∀ u, (rcs L[j])[i]? = some u → w.cell? ⟨r, j * 5 + i, none⟩ = some u := fun i hi u hu => by
    have := World.ownsRow.cells h (g := r) rfl (j * 5 + i) u (by rw [rcel_at L j i hj hi]; exact hu)
    have hadd : (⟨r, 0, none⟩ : Addr).add (j * 5 + i) = ⟨r, j * 5 + i, none⟩ := by unfold Addr.add; split <;> simp_all
    rw [← hadd]
    exact this
  exact ⟨r, cap, rfl, hlt, hx 0 (by omega) _ rfl, hx 1 (by omega) _ rfl, hx 2 (by omega) _ rfl, hx 3 (by omega) _ rfl, hx 4 (by omega) _ rfl⟩
/-- A row of the call's own reads so. -/
theorem POwn.rd {B : Nat} {w : World} {v : Value} {L : List Rw} {F : Nat → Prop} (h : POwn B w v L) (hF : ∀ k, v.ownBlock = some k → F k) : RwRd w F v L := by
  rcases h.2 with ⟨rfl, h0⟩ | ⟨r, cap, cur, rfl, hb, hr, hc, hm, _⟩
  · obtain rfl : L = [] := List.eq_nil_of_length_eq_zero h0
    exact RwRd.nil w F
  · refine ⟨_, cap, rfl, hc, hm, (fun h => by cases h), fun _ => ⟨r, 0, rfl, hF r rfl, heap_lt hr, fun j hj => ?_⟩⟩
    obtain ⟨r', c', e, _, e0, e1, e2, e3, e4⟩ := h.cells j hj
    injection e with e
    injection e with e
    injection e with e
    subst e
    simp only [Nat.zero_add]
    exact ⟨e0, e1, e2, e3, e4⟩
/-- append of votes that a slice has to a row of the call's own. -/
theorem run_append_prs (w : World) (base : Nat) (ty : TypeId) (v : Value) (L : List Rw) (hown : POwn base w v L) (x : Value) (M : List Rw) (F : Nat → Prop) (hx : RwRd w F x M) (hl : L.length + M.length ≤ 100000) (hbase : base ≤ w.heap.size) :
    ∃ a' c' w', (Builtin.append_ #[213, 213] ty #[v, x]).run Tryz.prog w = .ok (.slice a' (L.length + M.length) c') w' ∧ POwn base w' (.slice a' (L.length + M.length) c') (L ++ M) ∧ w.grownBy w' v.ownBlock ∧
      ((Value.slice a' (L.length + M.length) c').ownBlock = v.ownBlock ∨ (Value.slice a' (L.length + M.length) c').ownBlock = some w.heap.size) := by
  obtain ⟨i0, hi, hz0, hz1, hz2⟩ := info_parts Tryz.info40
  obtain ⟨xa, xc, rfl, h2, h3, h4, h5⟩ := hx
  rcases Nat.eq_zero_or_pos M.length with h0 | h0
  · obtain rfl : M = [] := List.eq_nil_of_length_eq_zero h0
    obtain ⟨a, c, rfl⟩ := hown.form
    cases xa with
    | none =>
      obtain rfl := h4 rfl
      exact ⟨a, c, w, run_append_owned_none w base _ ty _ i0 5 Tryz.underlying213 hi _ _ _ hown, by simpa using hown, ⟨rfl, rfl, rfl, Nat.le_refl _, fun _ _ _ => rfl⟩, .inl rfl⟩
    | some ad =>
      obtain ⟨v', w', hrun, g2, g3, _, g5⟩ := run_append_own_at (P := Tryz.prog) w base 213 ty 40 i0 _ 5 40 Tryz.underlying213 hi hz0 hz1 hz2 rfl (by decide) _ L.length _ hown ad 0 xc [] (by simp) (fun j u hu => by simp at hu) (fun y hy => by cases hy) (by unfold maxLen; omega) (by omega) hbase
      have g2' : POwn base w' v' L := by
        have := g2
        simp only [List.append_nil, Nat.add_zero] at this
        exact this
      obtain ⟨a', c', e⟩ := g2'.form
      subst e
      exact ⟨a', c', w', hrun, by simpa using g2', g3, g5⟩
  · obtain ⟨b, o, rfl, hF, hb, hc⟩ := h5 h0
    have hcell : ∀ j u, (rcel M)[j]? = some u → w.cell? ((⟨b, o, none⟩ : Addr).add j) = some u := by
      intro j u hu
      have hj : j < (rcel M).length := by
        rcases Nat.lt_or_ge j (rcel M).length with h | h
        · exact h
        · rw [List.getElem?_eq_none h] at hu; cases hu
      rw [rcel_len] at hj
      have hjm : j / 5 < M.length := by omega
      have hd : j = j / 5 * 5 + j % 5 := by omega
      rw [hd, rcel_at M (j / 5) (j % 5) hjm (Nat.mod_lt _ (show 0 < 5 by decide))] at hu
      obtain ⟨e0, e1, e2, e3, e4⟩ := hc (j / 5) hjm
      rw [addr_add16, show o + j = o + j / 5 * 5 + j % 5 by omega]
      have hm : j % 5 < 5 := Nat.mod_lt _ (show 0 < 5 by decide)
      generalize j % 5 = i at hu hm ⊢
      match i, hm with
      | 0, _ => simp [rcs] at hu; subst hu; exact e0
      | 1, _ => simp [rcs] at hu; subst hu; exact e1
      | 2, _ => simp [rcs] at hu; subst hu; exact e2
      | 3, _ => simp [rcs] at hu; subst hu; exact e3
      | 4, _ => simp [rcs] at hu; subst hu; exact e4
    obtain ⟨v', w', hrun, g2, g3, _, g5⟩ := run_append_own_at (P := Tryz.prog) w base 213 ty 40 i0 _ 5 40 Tryz.underlying213 hi hz0 hz1 hz2 rfl (by decide) v L.length _ hown ⟨b, o, none⟩ M.length xc (rcel M) (rcel_len M) hcell (by
      intro y hy
      unfold rcel at hy
      obtain ⟨z, _, hz⟩ := List.mem_flatMap.1 hy
      simp only [rcs, List.mem_cons, List.not_mem_nil, or_false] at hz
      rcases hz with rfl | rfl | rfl | rfl | rfl <;> rfl) (by unfold maxLen; omega) (by omega) hbase
    have g2' : POwn base w' v' (L ++ M) := by
      unfold POwn
      rw [rcel_app, List.length_append]
      exact g2
    obtain ⟨a', c', e⟩ := g2'.form
    rw [List.length_append] at e
    subst e
    exact ⟨a', c', w', hrun, g2', g3, g5⟩
theorem wpList_append_prs (w : World) {ops : Array Oper} {rest : List Oper} {o : Oper} {a : Act} {Q : Exit → Act → World → Prop} (hgd : o.guard = none) (s x : Operand)
    (ho : o.op = .call { callee := .builtin .append, args := #[s, x], argTypes := #[213, 213] })
    (base : Nat) (v : Value) (L : List Rw) (hs : a.eval s = v) (hown : POwn base w v L) (y : Value) (M : List Rw) (F : Nat → Prop) (hx : a.eval x = y) (hy : RwRd w F y M) (hl : L.length + M.length ≤ 100000) (hbase : base ≤ w.heap.size) (N : Nat) (hN : L.length + M.length = N)
    (h : ∀ a' c' w', POwn base w' (.slice a' N c') (L ++ M) → w.grownBy w' v.ownBlock → ((Value.slice a' N c').ownBlock = v.ownBlock ∨ (Value.slice a' N c').ownBlock = some w.heap.size) → wpList Tryz.prog ops Q rest (a.put o.dst (.slice a' N c')) w') : wpList Tryz.prog ops Q (o :: rest) a w :=
  wpList_plain hgd fun K hK => by
    subst hN
    obtain ⟨a', c', w', hrun, h2, h3, h4⟩ := run_append_prs w base o.type v L hown y M F hy hl hbase
    unfold Oper.wp execOp
    simp only [ho, resolve, invoke, builtin, Sem.run_bind, Sem.run_pure, Result.andThen_ok, List.map_toArray, List.map_cons, List.map_nil, hs, hx, hrun]
    exact hK _ _ (h a' c' w' h2 h3 h4)
end Go.Proofs.YtabmipjpgofgpaaGreatDoor
namespace Go.Proofs.YtabmipjpgofgpaaGreatDoor
open Go.RowKit
set_option linter.unusedVariables false

def RgRel16 (w : World) (s : Int) (L : List Rw) (iv : Value) (wr : World) : Prop := ∃ k : Nat, k ≤ L.length ∧ iv = .int .i64 k ∧ (∀ j (hj : j < L.length), j < k → L[j].s ≠ s) ∧ wr = w
set_option maxRecDepth 100000 in
theorem RGet16_any (w : World) (v : Value) (s : Int) (L : List Rw) (F : Nat → Prop) (h : RwRd w F v L) : Calls Tryz.prog 107 #[v, .int .i64 s] w fun e w' =>
    e = .returned (.tuple #[rvv ((atR L s).getD rw0), .bool (atR L s).isSome]) ∧ Kept NoB w w' := by
  have HK0 := Lib.hid ((Kept.refl NoB w).alloc (.cells #[.int .i64 0, .int .u64 0, .int .u64 0, .int .i64 0, .int .u64 0] 43))
  have HR := Lib.hid (heap_alloc_new w (.cells #[.int .i64 0, .int .u64 0, .int .u64 0, .int .i64 0, .int .u64 0] 43))
  have h1 := h.no HK0.out
  have hl := h.len
  have hnn : (L.length : Int) ≤ 9223372036854775807 := by omega
  obtain ⟨a, c, rfl⟩ := h.form
  have HV := Lib.hid h1
  clear h h1 hl
  go_enter Tryz.func107, Tryz.ntmps107
  go_wp2
  go_loopw [6] (RgRel16 (w.alloc (.cells #[.int .i64 0, .int .u64 0, .int .u64 0, .int .i64 0, .int .u64 0] 43)) s L) (fun i _ => L.length - (RowKit.intOf i).toNat)
  case atStart => exact ⟨0, Nat.zero_le _, rfl, fun j _ h => absurd h (by omega), rfl⟩
  case round =>
    obtain ⟨k, hk, rfl, hno, rfl⟩ := hrel
    have hk0 : (0 : Int) ≤ (k : Int) := by omega
    by_cases hlt : k < L.length
    · have hk1 : (k : Int) < (L.length : Int) := by omega
      obtain ⟨b, o, rfl, _, hb, e0, e1, e2, e3, e4⟩ := HV.out.at_ k hlt
      obtain ⟨y, hy⟩ : ∃ y, y = L[k] := ⟨_, rfl⟩
      have HY := Lib.hid hy
      rw [← hy] at e0 e1 e2 e3 e4
      clear hy
      obtain ⟨y0, y1, y2, y3, y4⟩ := y
      try simp only at e0 e1 e2 e3 e4
      by_cases hs : y0 = s
      · subst hs
        have HX : Hid (atR L y0 = some ⟨y0, y1, y2, y3, y4⟩) := Lib.hid (by
          rw [atR_skip (k := k) hno, List.drop_eq_getElem_cons hlt, atR_cons, ← HY.out, if_pos rfl])
        obtain ⟨r0, r1, r2, r3, r4⟩ := cells5r (v := rw0) HR.out
        have z0 := blkR_frozen HR.out 0
        have z1 := blkR_frozen HR.out 1
        have z2 := blkR_frozen HR.out 2
        have z3 := blkR_frozen HR.out 3
        have z4 := blkR_frozen HR.out 4
        go_wp2
        have h1 := heap_alloc_new w (.cells #[.int .i64 y0, .int .u64 y1, .int .u64 y2, .int .i64 y3, .int .u64 y4] 43)
        clear r0 r1 r2 r3 r4 z0 z1 z2 z3 z4
        obtain ⟨r0, r1, r2, r3, r4⟩ := cells5r (v := ⟨y0, y1, y2, y3, y4⟩) h1
        have hk2 : Kept NoB w (w.alloc (.cells #[.int .i64 y0, .int .u64 y1, .int .u64 y2, .int .i64 y3, .int .u64 y4] 43)) := (Kept.refl _ _).alloc _
        clear h1
        rw [HX.out]
        generalize hW : World.alloc _ _ = W at r0 r1 r2 r3 r4 hk2 ⊢
        exact bodyPost_ret (v := .tuple #[.agg #[.int .i64 y0, .int .u64 y1, .int .u64 y2, .int .i64 y3, .int .u64 y4], .bool true]) (by simp [results, Tryz.results107, go_sem, r0, r1, r2, r3, r4]) rfl ⟨rfl, hk2⟩
      · have hsb : (y0 == s) = false := by simpa using hs
        go_wp2
        exact ⟨⟨k + 1, by omega, by go_num, fun j hj hjk => by
          rcases Nat.lt_or_ge j k with h | h
          · exact hno j hj h
          · obtain rfl : j = k := by omega
            rw [← HY.out]
            exact hs, rfl⟩, by simp [RowKit.intOf]; omega⟩
    · have hkn : k = L.length := by omega
      have HX : Hid (atR L s = none) := Lib.hid (by
        rw [atR_skip (k := k) hno, List.drop_eq_nil_of_le (by omega)]
        rfl)
      subst hkn
      obtain ⟨r0, r1, r2, r3, r4⟩ := cells5r (v := rw0) HR.out
      have z0 := blkR_frozen HR.out 0
      go_wp2
      have h1 := heap_alloc_new w (.cells #[.int .i64 0, .int .u64 0, .int .u64 0, .int .i64 0, .int .u64 0] 43)
      clear r0 r1 r2 r3 r4 z0
      obtain ⟨r0, r1, r2, r3, r4⟩ := cells5r (v := rw0) h1
      have hk2 : Kept NoB w (w.alloc (.cells #[.int .i64 0, .int .u64 0, .int .u64 0, .int .i64 0, .int .u64 0] 43)) := (Kept.refl _ _).alloc _
      clear h1
      rw [HX.out]
      generalize hW : World.alloc _ _ = W at r0 r1 r2 r3 r4 hk2 ⊢
      exact bodyPost_ret (v := .tuple #[.agg #[.int .i64 0, .int .u64 0, .int .u64 0, .int .i64 0, .int .u64 0], .bool false]) (by simp [results, Tryz.results107, go_sem, r0, r1, r2, r3, r4]; simp [rw0]) rfl ⟨rfl, hk2⟩
def RpRel16 (w : World) (s : Int) (L : List Rw) (ov iv : Value) (wr : World) : Prop := ∃ k : Nat, k ≤ L.length ∧ iv = .int .i64 k ∧ (∀ j (hj : j < L.length), j < k → L[j].s < s) ∧ QOwn w.heap.size wr ov (L.take k) ∧ Kept NoB w wr
set_option maxRecDepth 100000 in
set_option maxHeartbeats 1000000 in
theorem RPut16_any (w : World) (v : Value) (L : List Rw) (x0 x1 x2 x3 x4 : Int) (F : Nat → Prop) (h : RwRd w F v L) (hl : L.length ≤ 10000) : Calls Tryz.prog 59 #[v, .agg #[.int .i64 x0, .int .u64 x1, .int .u64 x2, .int .i64 x3, .int .u64 x4]] w fun e w' =>
    ∃ u, e = .returned u ∧ QOwn w.heap.size w' u (putR L ⟨x0, x1, x2, x3, x4⟩) ∧ Kept NoB w w' := by
  obtain ⟨a, c, rfl⟩ := h.form
  have HK0 := Lib.hid ((Kept.refl NoB w).alloc (.cells #[.int .i64 x0, .int .u64 x1, .int .u64 x2, .int .i64 x3, .int .u64 x4] 43))
  have HR := Lib.hid (heap_alloc_new w (.cells #[.int .i64 x0, .int .u64 x1, .int .u64 x2, .int .i64 x3, .int .u64 x4] 43))
  have HV := Lib.hid h
  have hnn : (L.length : Int) ≤ 10000 := by omega
  clear h
  go_enter Tryz.func59, Tryz.ntmps59
  go_wp2
  obtain ⟨w0, hw0⟩ : ∃ w0, w0 = w.alloc (.cells #[.int .i64 x0, .int .u64 x1, .int .u64 x2, .int .i64 x3, .int .u64 x4] 43) := ⟨_, rfl⟩
  rw [← hw0] at HK0 HR ⊢
  have hz0 : w0.heap.size = w.heap.size + 1 := by rw [hw0]; simp
  have HB : Hid (w.heap.size < w0.heap.size) := Lib.hid (by omega)
  have HV0 := Lib.hid (HV.out.no HK0.out)
  clear hw0 hz0 HV
  go_loopw [5, 6] (RpRel16 w0 x0 L) (fun _ i _ => L.length - (RowKit.intOf i).toNat)
  case atStart => exact ⟨0, Nat.zero_le _, rfl, fun j _ h => absurd h (by omega), QOwn.nil _ _, Kept.refl _ _⟩
  case round =>
    obtain ⟨k, hk, rfl, hlow, hown, hK⟩ := hrel
    have hk0 : (0 : Int) ≤ (k : Int) := by omega
    have HK := Lib.hid hK
    have HLOW := Lib.hid hlow
    have hrow := hK.heap (fun h => h) HR.out
    obtain ⟨b0, _, _, _, _⟩ := cells5r (v := ⟨x0, x1, x2, x3, x4⟩) hrow
    have htl : (L.take k).length = k := by rw [List.length_take]; omega
    have HTL := Lib.hid htl
    obtain ⟨oa, oc, rfl⟩ := hown.form
    have HO : Hid (QOwn w0.heap.size wr (.slice oa k oc) (L.take k)) := Lib.hid (by rw [htl] at hown; exact hown)
    rw [htl]
    clear hown hlow htl
    by_cases hlt : k < L.length
    · have hk1 : (k : Int) < (L.length : Int) := by omega
      obtain ⟨b, o, rfl, _, hb, e0, e1, e2, e3, e4⟩ := (HV0.out.no hK).at_ k hlt
      obtain ⟨y, hy⟩ : ∃ y, y = L[k] := ⟨_, rfl⟩
      have HY := Lib.hid hy
      have hst : L.take (k + 1) = L.take k ++ [y] := by rw [hy, List.take_succ_eq_append_getElem hlt]
      have HST := Lib.hid hst
      rw [← hy] at e0 e1 e2 e3 e4
      clear hy hst hK
      obtain ⟨y0, y1, y2, y3, y4⟩ := y
      try simp only at e0 e1 e2 e3 e4
      by_cases hs : y0 < x0
      · have hl1 : decide (y0 < x0) = true := decide_eq_true hs
        go_wp2_with fail
        go_quiet (fail)
        have HKQ : Hid (Kept NoB wr (wr.drewN nq)) := Lib.hid ((Kept.refl NoB wr).drewN nq)
        obtain ⟨w1, hw1⟩ : ∃ w1, w1 = wr.drewN nq := ⟨_, rfl⟩
        rw [← hw1] at HKQ ⊢
        clear hw1
        have HO3 := Lib.hid ((HO.out.no HKQ.out).no ((Kept.refl NoB w1).alloc (.cells #[.int .i64 y0, .int .u64 y1, .int .u64 y2, .int .i64 y3, .int .u64 y4] 43)))
        have HZ := Lib.hid (heap_alloc_new w1 (.cells #[.int .i64 y0, .int .u64 y1, .int .u64 y2, .int .i64 y3, .int .u64 y4] 43))
        have HK3 := Lib.hid ((HK.out.trans HKQ.out (fun _ _ h => h)).alloc (.cells #[.int .i64 y0, .int .u64 y1, .int .u64 y2, .int .i64 y3, .int .u64 y4] 43))
        clear e0 e1 e2 e3 e4
        obtain ⟨b', o', hbo, _, hb', e0, e1, e2, e3, e4⟩ := (HV0.out.no (HK.out.trans HKQ.out (fun _ _ h => h))).at_ k hlt
        injection hbo with hbo
        injection hbo with hbo1 hbo2
        subst hbo1 hbo2
        rw [← HY.out] at e0 e1 e2 e3 e4
        try simp only at e0 e1 e2 e3 e4
        go_wp2_with (at_builtin; refine wpList_append_qr _ rfl _ _ rfl w0.heap.size (.slice oa k oc) (L.take k) rfl HO3.out w1.heap.size ⟨y0, y1, y2, y3, y4⟩ rfl HZ.out (by have := HTL.out; omega) (by exact HK3.out.size) ?_; rw [HTL.out]; intro a' c' w' hown' hgrow' hat')
        exact ⟨⟨k + 1, by omega, by go_num, fun j hj hjk => by
          rcases Nat.lt_or_ge j k with h | h
          · exact HLOW.out j hj h
          · obtain rfl : j = k := by omega
            rw [← HY.out]
            exact hs, by rw [HST.out]; exact hown', HK3.out.grown hgrow' (fun i hi => .inr (HO3.out.base i hi).1)⟩, by simp [RowKit.intOf]; omega⟩
      · have hl1 : decide (y0 < x0) = false := decide_eq_false hs
        have HW1 : Hid True := Lib.hid trivial
        go_wp2_with fail
        go_quiet (fail)
        have HKQ : Hid (Kept NoB wr (wr.drewN nq)) := Lib.hid ((Kept.refl NoB wr).drewN nq)
        obtain ⟨w1, hw1⟩ : ∃ w1, w1 = wr.drewN nq := ⟨_, rfl⟩
        rw [← hw1] at HKQ ⊢
        clear hw1
        have HO3 := Lib.hid ((HO.out.no HKQ.out).no ((Kept.refl NoB w1).alloc (.cells #[.int .i64 x0, .int .u64 x1, .int .u64 x2, .int .i64 x3, .int .u64 x4] 43)))
        have HZ := Lib.hid (heap_alloc_new w1 (.cells #[.int .i64 x0, .int .u64 x1, .int .u64 x2, .int .i64 x3, .int .u64 x4] 43))
        have HK3 := Lib.hid ((HK.out.trans HKQ.out (fun _ _ h => h)).alloc (.cells #[.int .i64 x0, .int .u64 x1, .int .u64 x2, .int .i64 x3, .int .u64 x4] 43))
        clear e0 e1 e2 e3 e4 b0
        obtain ⟨b0, b1, b2, b3, b4⟩ := cells5r (v := ⟨x0, x1, x2, x3, x4⟩) ((HK.out.trans HKQ.out (fun _ _ h => h)).heap (fun h => h) HR.out)
        go_wp2_with (at_builtin; refine wpList_append_qr _ rfl _ _ rfl w0.heap.size (.slice oa k oc) (L.take k) rfl HO3.out w1.heap.size ⟨x0, x1, x2, x3, x4⟩ rfl HZ.out (by have := HTL.out; omega) (by exact HK3.out.size) ?_; rw [HTL.out]; intro a' c' w4 hown' hgrow' hat'; have HO4 := Lib.hid hown'; have HK4 := Lib.hid (HK3.out.grown hgrow' (fun i hi => .inr (HO3.out.base i hi).1)); clear hown' hgrow' hat')
        have HV3 := Lib.hid (HV0.out.no HK4.out)
        clear b0 b1 b2 b3 b4
        obtain ⟨b0, _, _, _, _⟩ := cells5r (v := ⟨x0, x1, x2, x3, x4⟩) (HK4.out.heap (fun h => h) HR.out)
        obtain ⟨b', o', hbo, _, hb', e0, e1, e2, e3, e4⟩ := HV3.out.at_ k hlt
        injection hbo with hbo
        injection hbo with hbo1 hbo2
        subst hbo1 hbo2
        rw [← HY.out] at e0 e1 e2 e3 e4
        try simp only at e0 e1 e2 e3 e4
        by_cases heq : y0 = x0
        · subst heq
          have HP : Hid (putR L ⟨y0, x1, x2, x3, x4⟩ = L.take k ++ [⟨y0, x1, x2, x3, x4⟩] ++ L.drop (k + 1)) := Lib.hid (by
            rw [putR_at (k := k) hk HLOW.out (fun hk' h => by rw [← HY.out] at h; have h : y0 < y0 := h; omega), if_pos ⟨hlt, by rw [← HY.out]⟩, List.append_assoc]
            rfl)
          have hcl : (L.length : Int) ≤ (c : Int) := by
            obtain ⟨_, _, e, h2, _⟩ := HV3.out
            injection e with _ _ e
            omega
          have hcl2 : L.length ≤ c := by omega
          go_quiet (fail)
          have HKR : Hid (Kept NoB w4 (w4.drewN nq)) := Lib.hid ((Kept.refl NoB w4).drewN nq)
          obtain ⟨w5, hw5⟩ : ∃ w5, w5 = w4.drewN nq := ⟨_, rfl⟩
          rw [← hw5] at HKR ⊢
          clear hw5
          have HO5 := Lib.hid (HO4.out.no HKR.out)
          have HD := Lib.hid ((HV3.out.no HKR.out).drop (k + 1) (by omega))
          have HK5 := Lib.hid (HK4.out.trans HKR.out (fun _ _ h => h))
          have HL4 : Hid ((L.take k ++ [(⟨y0, x1, x2, x3, x4⟩ : Rw)]).length = k + 1) := Lib.hid (by rw [List.length_append, HTL.out]; rfl)
          have HM4 : Hid ((L.drop (k + 1)).length = L.length - (k + 1)) := Lib.hid (List.length_drop)
          by_cases hci : c = k + 1
          · have hlk : L.length = k + 1 := by omega
            have hdn : L.drop (k + 1) = [] := List.drop_eq_nil_of_le (by omega)
            have HP2 : Hid (putR L ⟨y0, x1, x2, x3, x4⟩ = L.take k ++ [⟨y0, x1, x2, x3, x4⟩] ++ []) := Lib.hid (by rw [HP.out, hdn])
            have HD2 : Hid (RwRd w5 F (.slice (some ⟨b, o, none⟩) 0 0) []) := Lib.hid ⟨_, 0, rfl, Nat.le_refl _, Nat.zero_le _, (fun h => by cases h), fun h => absurd h (by simp)⟩
            clear hdn
            subst hci
            go_wp2_with (at_builtin; first
              | (refine wpList_append_qrs _ rfl _ _ rfl w0.heap.size (.slice a' (k + 1) c') (L.take k ++ [⟨y0, x1, x2, x3, x4⟩]) rfl HO5.out (.slice (some ⟨b, o, none⟩) 0 0) [] F rfl HD2.out (by have := HL4.out; simp only [List.length_nil]; omega) (by exact HK5.out.size) (k + 1) (by rw [HL4.out]; rfl) ?_; intro a6 c6 w6 hown6 hgrow6 hat6))
            go_ret
            exact ⟨_, rfl, by rw [HP2.out]; exact hown6.mono (show w.heap.size ≤ w0.heap.size from Nat.le_of_lt HB.out), (HK0.out.trans HK5.out (fun _ _ h => h)).grown hgrow6 (fun i hi => .inr (by have := (HO5.out.base i hi).1; have := HB.out; omega))⟩
          · have HD2 : Hid (RwRd w5 F (.slice (some ⟨b, o + (k + 1) * 5, none⟩) (L.length - (k + 1)) (c - (k + 1))) (L.drop (k + 1))) := Lib.hid (by
              have := HD.out
              rw [if_neg hci, Option.map_some, addr_add16] at this
              exact this)
            go_wp2_with (at_builtin; refine wpList_append_qrs _ rfl _ _ rfl w0.heap.size (.slice a' (k + 1) c') (L.take k ++ [⟨y0, x1, x2, x3, x4⟩]) rfl HO5.out (.slice (some ⟨b, o + (k + 1) * 5, none⟩) (L.length - (k + 1)) (c - (k + 1))) (L.drop (k + 1)) F rfl HD2.out (by have := HL4.out; have := HM4.out; omega) (by exact HK5.out.size) (k + 1 + (L.length - (k + 1))) (by rw [HL4.out, HM4.out]) ?_; intro a6 c6 w6 hown6 hgrow6 hat6)
            go_ret
            exact ⟨_, rfl, by rw [HP.out]; exact hown6.mono (show w.heap.size ≤ w0.heap.size from Nat.le_of_lt HB.out), (HK0.out.trans HK5.out (fun _ _ h => h)).grown hgrow6 (fun i hi => .inr (by have := (HO5.out.base i hi).1; have := HB.out; omega))⟩
        · have heb : (y0 == x0) = false := by simpa using heq
          have HP : Hid (putR L ⟨x0, x1, x2, x3, x4⟩ = L.take k ++ [⟨x0, x1, x2, x3, x4⟩] ++ L.drop k) := Lib.hid (by
            rw [putR_at (k := k) hk HLOW.out (fun hk' h => by rw [← HY.out] at h; have h : y0 < x0 := h; omega), if_neg (by rintro ⟨h1, h2⟩; rw [← HY.out] at h2; exact heq h2), List.append_assoc]
            rfl)
          have hcl : (L.length : Int) ≤ (c : Int) := by
            obtain ⟨_, _, e, h2, _⟩ := HV3.out
            injection e with _ _ e
            omega
          have hcl2 : L.length ≤ c := by omega
          go_quiet (fail)
          have HKR : Hid (Kept NoB w4 (w4.drewN nq)) := Lib.hid ((Kept.refl NoB w4).drewN nq)
          obtain ⟨w5, hw5⟩ : ∃ w5, w5 = w4.drewN nq := ⟨_, rfl⟩
          rw [← hw5] at HKR ⊢
          clear hw5
          have HO5 := Lib.hid (HO4.out.no HKR.out)
          have HD := Lib.hid ((HV3.out.no HKR.out).drop (k) (by omega))
          have HK5 := Lib.hid (HK4.out.trans HKR.out (fun _ _ h => h))
          have HL4 : Hid ((L.take k ++ [(⟨x0, x1, x2, x3, x4⟩ : Rw)]).length = k + 1) := Lib.hid (by rw [List.length_append, HTL.out]; rfl)
          have HM4 : Hid ((L.drop (k)).length = L.length - (k)) := Lib.hid (List.length_drop)
          by_cases hci : c = k
          · exact absurd hci (by omega)
          · have HD2 : Hid (RwRd w5 F (.slice (some ⟨b, o + (k) * 5, none⟩) (L.length - (k)) (c - (k))) (L.drop (k))) := Lib.hid (by
              have := HD.out
              rw [if_neg hci, Option.map_some, addr_add16] at this
              exact this)
            go_wp2_with (at_builtin; refine wpList_append_qrs _ rfl _ _ rfl w0.heap.size (.slice a' (k + 1) c') (L.take k ++ [⟨x0, x1, x2, x3, x4⟩]) rfl HO5.out (.slice (some ⟨b, o + (k) * 5, none⟩) (L.length - (k)) (c - (k))) (L.drop (k)) F rfl HD2.out (by have := HL4.out; have := HM4.out; omega) (by exact HK5.out.size) (k + 1 + (L.length - (k))) (by rw [HL4.out, HM4.out]) ?_; intro a6 c6 w6 hown6 hgrow6 hat6)
            go_ret
            exact ⟨_, rfl, by rw [HP.out]; exact hown6.mono (show w.heap.size ≤ w0.heap.size from Nat.le_of_lt HB.out), (HK0.out.trans HK5.out (fun _ _ h => h)).grown hgrow6 (fun i hi => .inr (by have := (HO5.out.base i hi).1; have := HB.out; omega))⟩
    · have hkn : k = L.length := by omega
      subst hkn
      have HT : Hid (L.take L.length = L) := Lib.hid (List.take_length)
      have HP : Hid (putR L ⟨x0, x1, x2, x3, x4⟩ = L ++ [⟨x0, x1, x2, x3, x4⟩] ++ []) := Lib.hid (by
        rw [putR_at (k := L.length) hk HLOW.out (fun hk' => absurd hk' (by omega)), if_neg (by rintro ⟨h1, _⟩; omega), List.drop_eq_nil_of_le (Nat.le_refl _), List.take_length, List.append_nil])
      have hlf : decide ((L.length : Int) < (L.length : Int)) = false := decide_eq_false (by omega)
      clear hK
      go_wp2_with fail
      go_quiet (fail)
      have HKQ : Hid (Kept NoB wr (wr.drewN nq)) := Lib.hid ((Kept.refl NoB wr).drewN nq)
      obtain ⟨w1, hw1⟩ : ∃ w1, w1 = wr.drewN nq := ⟨_, rfl⟩
      rw [← hw1] at HKQ ⊢
      clear hw1
      have HO3 : Hid (QOwn w0.heap.size (w1.alloc (.cells #[.int .i64 x0, .int .u64 x1, .int .u64 x2, .int .i64 x3, .int .u64 x4] 43)) (.slice oa L.length oc) L) := Lib.hid (by
        have := (HO.out.no HKQ.out).no ((Kept.refl NoB w1).alloc (.cells #[.int .i64 x0, .int .u64 x1, .int .u64 x2, .int .i64 x3, .int .u64 x4] 43))
        rw [HT.out] at this
        exact this)
      have HZ := Lib.hid (heap_alloc_new w1 (.cells #[.int .i64 x0, .int .u64 x1, .int .u64 x2, .int .i64 x3, .int .u64 x4] 43))
      have HK3 := Lib.hid ((HK.out.trans HKQ.out (fun _ _ h => h)).alloc (.cells #[.int .i64 x0, .int .u64 x1, .int .u64 x2, .int .i64 x3, .int .u64 x4] 43))
      clear b0
      obtain ⟨b0, b1, b2, b3, b4⟩ := cells5r (v := ⟨x0, x1, x2, x3, x4⟩) ((HK.out.trans HKQ.out (fun _ _ h => h)).heap (fun h => h) HR.out)
      go_wp2_with (at_builtin; refine wpList_append_qr _ rfl _ _ rfl w0.heap.size (.slice oa L.length oc) L rfl HO3.out w1.heap.size ⟨x0, x1, x2, x3, x4⟩ rfl HZ.out (by omega) (by exact HK3.out.size) ?_; intro a' c' w4 hown' hgrow' hat'; have HO4 := Lib.hid hown'; have HK4 := Lib.hid (HK3.out.grown hgrow' (fun i hi => .inr (HO3.out.base i hi).1)); clear hown' hgrow' hat')
      have HV3 := Lib.hid (HV0.out.no HK4.out)
      clear b0 b1 b2 b3 b4
      obtain ⟨b0, _, _, _, _⟩ := cells5r (v := ⟨x0, x1, x2, x3, x4⟩) (HK4.out.heap (fun h => h) HR.out)
      go_quiet (fail)
      have HKR : Hid (Kept NoB w4 (w4.drewN nq)) := Lib.hid ((Kept.refl NoB w4).drewN nq)
      obtain ⟨w5, hw5⟩ : ∃ w5, w5 = w4.drewN nq := ⟨_, rfl⟩
      rw [← hw5] at HKR ⊢
      clear hw5
      have HO5 := Lib.hid (HO4.out.no HKR.out)
      have HK5 := Lib.hid (HK4.out.trans HKR.out (fun _ _ h => h))
      have hcl : (L.length : Int) ≤ (c : Int) := by
        obtain ⟨_, _, e, h2, _⟩ := HV3.out
        injection e with _ _ e
        omega
      have HL4 : Hid ((L ++ [(⟨x0, x1, x2, x3, x4⟩ : Rw)]).length = L.length + 1) := Lib.hid (by rw [List.length_append]; rfl)
      have hcl2 : L.length ≤ c := by omega
      have HC : Hid (c ≤ maxLen ∧ (a = none → c = 0)) := Lib.hid (by
        obtain ⟨_, _, e, _, h3, h4, _⟩ := HV3.out
        injection e with e1 _ e3
        subst e1 e3
        exact ⟨h3, h4⟩)
      have hfin : ∀ (a7 : Option Addr) (c7 : Nat), c7 ≤ maxLen → (a7 = none → c7 = 0) → Hid (RwRd w5 F (.slice a7 0 c7) []) := fun a7 c7 g1 g2 => Lib.hid ⟨_, c7, rfl, Nat.zero_le _, g1, g2, fun h => absurd h (by simp)⟩
      have HFIN := Lib.hid hfin
      clear hfin
      by_cases hci : c = L.length
      · subst hci
        have HD2 := HFIN.out a 0 (Nat.zero_le _) (fun _ => rfl)
        go_wp2_with (at_builtin; refine wpList_append_qrs _ rfl _ _ rfl w0.heap.size (.slice a' (L.length + 1) c') (L ++ [⟨x0, x1, x2, x3, x4⟩]) rfl HO5.out (.slice a 0 0) [] F rfl HD2.out (by have := HL4.out; simp only [List.length_nil]; omega) (by exact HK5.out.size) (L.length + 1) (by rw [HL4.out]; rfl) ?_; intro a6 c6 w6 hown6 hgrow6 hat6)
        go_ret
        exact ⟨_, rfl, by rw [HP.out]; exact hown6.mono (show w.heap.size ≤ w0.heap.size from Nat.le_of_lt HB.out), (HK0.out.trans HK5.out (fun _ _ h => h)).grown hgrow6 (fun i hi => .inr (by have := (HO5.out.base i hi).1; have := HB.out; omega))⟩
      · cases a with
        | none => exact absurd (HC.out.2 rfl) (by omega)
        | some ad =>
          have HD2 := HFIN.out (some (ad.add (L.length * 5))) (c - L.length) (Nat.le_trans (Nat.sub_le _ _) HC.out.1) (fun h => by cases h)
          go_wp2_with (at_builtin; refine wpList_append_qrs _ rfl _ _ rfl w0.heap.size (.slice a' (L.length + 1) c') (L ++ [⟨x0, x1, x2, x3, x4⟩]) rfl HO5.out (.slice (some (ad.add (L.length * 5))) 0 (c - L.length)) [] F rfl HD2.out (by have := HL4.out; simp only [List.length_nil]; omega) (by exact HK5.out.size) (L.length + 1) (by rw [HL4.out]; rfl) ?_; intro a6 c6 w6 hown6 hgrow6 hat6)
          go_ret
          exact ⟨_, rfl, by rw [HP.out]; exact hown6.mono (show w.heap.size ≤ w0.heap.size from Nat.le_of_lt HB.out), (HK0.out.trans HK5.out (fun _ _ h => h)).grown hgrow6 (fun i hi => .inr (by have := (HO5.out.base i hi).1; have := HB.out; omega))⟩
end Go.Proofs.YtabmipjpgofgpaaGreatDoor
namespace Go.Proofs.YtabmipjpgofgpaaGreatDoor
open Go.RowKit
set_option linter.unusedVariables false

/-- A row that may be. -/
def FineR (r : Rw) : Prop := 1 ≤ r.s ∧ r.s ≤ 6 ∧ 0 < r.b ∧ 0 < r.k ∧ 0 ≤ r.ch ∧ r.ch ≤ 255
instance (r : Rw) : Decidable (FineR r) := by unfold FineR; infer_instance
/-- The numbers of a row fit. -/
def FitR (r : Rw) : Prop := 0 ≤ r.b ∧ r.b ≤ 18446744073709551615 ∧ 0 ≤ r.k ∧ r.k ≤ 18446744073709551615 ∧ 0 ≤ r.ep ∧ r.ep ≤ 18446744073709551615
theorem ret_bool16 {a b : Bool} (h : a = b) : Ending.returned (.bool a) = .returned (.bool b) := by rw [h]
theorem ret_int16 {a b : Int} (h : a = b) : Ending.returned (.int .i64 a) = .returned (.int .i64 b) := by rw [h]
/-- The last Num of a client, 0 where it has none. -/
def numR (L : List Rw) (s : Int) : Int := ((atR L s).getD rw0).b
def judR (L : List Rw) (s n : Int) : Int := if s < 1 ∨ 6 < s ∨ n = 0 then 2 else if numR L s < n then 0 else if numR L s = n then 1 else 2
def setX (L : List Rw) (r : Rw) : Int := if ¬ FineR r then 1 else if judR L r.s r.b ≠ 0 then 12 else 0
def setL (L : List Rw) (r : Rw) : List Rw := if setX L r = 0 then putR L r else L
set_option maxRecDepth 100000 in
theorem RJudge_any (w : World) (v : Value) (s n : Int) (L : List Rw) (F : Nat → Prop) (h : RwRd w F v L) (hn : 0 ≤ n) : Calls Tryz.prog 52 #[v, .int .i64 s, .int .u64 n] w fun e w' =>
    e = .returned (.int .i64 (judR L s n)) ∧ Kept NoB w w' := by
  have HG := Lib.hid (RGet16_any w v s L F h)
  obtain ⟨bb, hbb⟩ : ∃ b, b = (atR L s).isSome := ⟨_, rfl⟩
  obtain ⟨⟨y0, y1, y2, y3, y4⟩, hv⟩ : ∃ v, v = (atR L s).getD rw0 := ⟨_, rfl⟩
  rw [← hbb, ← hv, show rvv ⟨y0, y1, y2, y3, y4⟩ = .agg #[.int .i64 y0, .int .u64 y1, .int .u64 y2, .int .i64 y3, .int .u64 y4] from rfl] at HG
  have HN : Hid (numR L s = y1 ∧ (bb = false → y1 = 0)) := Lib.hid ⟨by unfold numR; rw [← hv], fun hb => by
    rw [hb] at hbb
    cases ha : atR L s with
    | none => rw [ha] at hv; simp [rw0] at hv; exact hv.2.1
    | some x => rw [ha] at hbb; cases hbb⟩
  obtain ⟨a, c, rfl⟩ := h.form
  clear h hbb hv
  by_cases hbad : s < 1 ∨ 6 < s ∨ n = 0
  · have HJ : Hid (judR L s n = 2) := Lib.hid (by unfold judR; rw [if_pos hbad])
    rw [HJ.out]
    have hn0 : (n == 0) = decide (n = 0) := rfl
    by_cases h1 : s < 1
    · clear hbad hn0
      go_enter Tryz.func52, Tryz.ntmps52
      go_wp2
      go_ret
      exact ⟨rfl, Kept.refl _ _⟩
    · by_cases h2 : 6 < s
      · have h1' : 1 ≤ s := by omega
        clear hbad hn0 h1
        go_enter Tryz.func52, Tryz.ntmps52
        go_wp2
        go_ret
        exact ⟨rfl, Kept.refl _ _⟩
      · obtain rfl : n = 0 := by omega
        have h1' : 1 ≤ s := by omega
        have h2' : s ≤ 6 := by omega
        clear hbad hn0 h1 h2
        go_enter Tryz.func52, Tryz.ntmps52
        go_wp2
        go_ret
        exact ⟨rfl, Kept.refl _ _⟩
  · have h1 : 1 ≤ s := by omega
    have h2 : s ≤ 6 := by omega
    have h3 : (n == 0) = false := by rw [beq_eq_false_iff_ne]; omega
    have HJ : Hid (judR L s n = if y1 < n then 0 else if y1 = n then 1 else 2) := Lib.hid (by unfold judR; rw [if_neg hbad, HN.out.1])
    have HP : Hid (0 < n) := Lib.hid (by omega)
    obtain ⟨j, hj⟩ : ∃ j, j = judR L s n := ⟨_, rfl⟩
    rw [← hj] at HJ ⊢
    clear hbad hj
    go_enter Tryz.func52, Tryz.ntmps52
    go_wp2_with fail
    refine HG.out.mono ?_
    rintro e w1 ⟨rfl, hk⟩
    have HK := Lib.hid hk
    clear hk
    cases bb
    · have h0 := HN.out.2 rfl
      have HZ : Hid (y1 < n) := Lib.hid (by have := HP.out; omega)
      clear h0
      go_wp2
      go_ret
      exact ⟨ret_int16 (by rw [HJ.out, if_pos HZ.out]), HK.out.alloc _⟩
    · by_cases hlt : y1 < n
      · have HL := Lib.hid hlt
        go_wp2
        go_ret
        exact ⟨ret_int16 (by rw [HJ.out, if_pos (by have := HL.out; omega)]), HK.out.alloc _⟩
      · by_cases heq : y1 = n
        · have hb1 : (y1 == n) = true := by simpa using heq
          have hge : decide (y1 < n) = false := decide_eq_false hlt
          have HQ := Lib.hid heq
          have HL := Lib.hid hlt
          clear heq hlt
          go_wp2
          go_ret
          exact ⟨ret_int16 (by rw [HJ.out, if_neg (by have := HL.out; omega), if_pos (by have := HQ.out; omega)]), HK.out.alloc _⟩
        · have hb1 : (y1 == n) = false := by simpa using heq
          have hge : decide (y1 < n) = false := decide_eq_false hlt
          have HQ := Lib.hid heq
          have HL := Lib.hid hlt
          clear heq hlt
          go_wp2
          go_ret
          exact ⟨ret_int16 (by rw [HJ.out, if_neg (by have := HL.out; omega), if_neg (by have := HQ.out; omega)]), HK.out.alloc _⟩
end Go.Proofs.YtabmipjpgofgpaaGreatDoor
namespace Go.Proofs.YtabmipjpgofgpaaGreatDoor
open Go.RowKit
set_option linter.unusedVariables false

def cliB (s : Int) : Bool := decide (1 ≤ s ∧ s ≤ 6)
theorem cliB_yes {s : Int} (h : 1 ≤ s) (h' : s ≤ 6) : cliB s = true := decide_eq_true ⟨h, h'⟩
theorem cliB_no {s : Int} (h : s < 1 ∨ 6 < s) : cliB s = false := decide_eq_false (by omega)
theorem isClient_any (s : Int) (w : World) : Calls Tryz.prog 157 #[.int .i64 s] w fun e w' => e = .returned (.bool (cliB s)) ∧ w = w' := by
  obtain ⟨b, hb⟩ : ∃ b, b = cliB s := ⟨_, rfl⟩
  have HB := Lib.hid hb
  rw [← hb]
  clear hb
  go_enter Tryz.func157, Tryz.ntmps157
  go_wp2
  all_goals
    go_ret
    refine ⟨ret_bool16 ?_, rfl⟩
    rw [HB.out]
    symm
    first
      | (exact cliB_no (by omega))
      | (unfold cliB; rw [Bool.eq_iff_iff, decide_eq_true_iff, decide_eq_true_iff]; omega)
theorem rowOf_ex (L : List Rw) (s : Int) : ∃ y, y = (atR L s).getD rw0 := ⟨_, rfl⟩
/-- A row's cells from o on. -/
def RwA (cs : Array Value) (o : Nat) (v : Rw) : Prop := cs[o]? = some (.int .i64 v.s) ∧ cs[o + 1]? = some (.int .u64 v.b) ∧ cs[o + 2]? = some (.int .u64 v.k) ∧ cs[o + 3]? = some (.int .i64 v.ch) ∧ cs[o + 4]? = some (.int .u64 v.ep)
/-- Block g is a table of these rows. -/
structure TabAt (w : World) (g : Nat) (L : List Rw) : Prop where
  row : ∃ cs : Array Value, w.heap[g]? = some (.cells cs 171 (0, 0)) ∧ cs.size = 30 ∧ ∀ i : Nat, i < 6 → RwA cs (i * 5) ((atR L ((i : Int) + 1)).getD rw0)
  srt : SrtR L
  ok : ∀ r ∈ L, FineR r ∧ FitR r
theorem TabAt.kept {S : Nat → Prop} {w w' : World} {g : Nat} {L : List Rw} (h : TabAt w g L) (hk : Kept S w w') (hg : ¬ S g) : TabAt w' g L := by
  obtain ⟨cs, h1, h2⟩ := h.row
  exact ⟨⟨cs, hk.heap hg h1, h2⟩, h.srt, h.ok⟩
theorem TabAt.no {w w' : World} {g : Nat} {L : List Rw} (h : TabAt w g L) (hk : Kept NoB w w') : TabAt w' g L := h.kept hk (fun h => h)
theorem TabAt.at_ {w : World} {g : Nat} {L : List Rw} (h : TabAt w g L) (i : Nat) (hi : i < 6) : RwAt w g (i * 5) ((atR L ((i : Int) + 1)).getD rw0) := by
  obtain ⟨cs, h1, h2, h3⟩ := h.row
  obtain ⟨e0, e1, e2, e3, e4⟩ := h3 i hi
  exact ⟨(cell_of_row _ _ _ _ _ _ h1).trans e0, (cell_of_row _ _ _ _ _ _ h1).trans e1, (cell_of_row _ _ _ _ _ _ h1).trans e2, (cell_of_row _ _ _ _ _ _ h1).trans e3, (cell_of_row _ _ _ _ _ _ h1).trans e4⟩
theorem TabAt.f {w : World} {g : Nat} {L : List Rw} (h : TabAt w g L) (o : Nat) : w.frozen? ⟨g, o, none⟩ = false := by
  obtain ⟨cs, h1, _⟩ := h.row
  exact blkR_frozen h1 o
theorem TabAt.lt {w : World} {g : Nat} {L : List Rw} (h : TabAt w g L) : g < w.heap.size := by
  obtain ⟨cs, h1, _⟩ := h.row
  exact heap_lt h1
theorem SNew_any (w : World) : Calls Tryz.prog 46 #[] w fun e w' => e = .returned (.pointer (some ⟨w.heap.size, 0, none⟩)) ∧ TabAt w' w.heap.size [] ∧ Kept NoB w w' := by
  go_enter Tryz.func46, Tryz.ntmps46
  go_wp2
  go_ret
  refine ⟨rfl, ⟨⟨_, heap_alloc_new w _, rfl, fun i hi => ?_⟩, List.Pairwise.nil, (fun v hv => by cases hv)⟩, (Kept.refl NoB w).alloc _⟩
  match i, hi with
  | 0, _ | 1, _ | 2, _ | 3, _ | 4, _ | 5, _ => exact ⟨rfl, rfl, rfl, rfl, rfl⟩
theorem SJudge_nil (w : World) (s n : Int) : Calls Tryz.prog 101 #[.pointer none, .int .i64 s, .int .u64 n] w fun e w' => e = .returned (.int .i64 2) ∧ w = w' := by
  go_enter Tryz.func101, Tryz.ntmps101
  go_wp2
  go_ret
  exact ⟨rfl, rfl⟩
set_option maxRecDepth 100000 in
theorem SJudge_any (w : World) (g : Nat) (s n : Int) (L : List Rw) (h : TabAt w g L) (hn : 0 ≤ n) : Calls Tryz.prog 101 #[.pointer (some ⟨g, 0, none⟩), .int .i64 s, .int .u64 n] w fun e w' =>
    e = .returned (.int .i64 (judR L s n)) ∧ w = w' := by
  have HI := Lib.hid (isClient_any s w)
  obtain ⟨j, hj⟩ : ∃ j, j = judR L s n := ⟨_, rfl⟩
  have HJ := Lib.hid hj
  rw [← hj]
  clear hj
  by_cases hbad : s < 1 ∨ 6 < s ∨ n = 0
  · have HX : Hid (j = 2) := Lib.hid (by rw [HJ.out]; unfold judR; rw [if_pos hbad])
    by_cases hb : s < 1 ∨ 6 < s
    · have hc := cliB_no hb
      rw [hc] at HI
      clear hbad hb hc h
      go_enter Tryz.func101, Tryz.ntmps101
      go_wp2_with fail
      refine HI.out.mono ?_
      rintro e w1 ⟨rfl, rfl⟩
      go_wp2
      go_ret
      exact ⟨ret_int16 HX.out.symm, rfl⟩
    · obtain rfl : n = 0 := by omega
      have hc : cliB s = true := cliB_yes (by omega) (by omega)
      rw [hc] at HI
      clear hbad hb hc h
      go_enter Tryz.func101, Tryz.ntmps101
      go_wp2_with fail
      refine HI.out.mono ?_
      rintro e w1 ⟨rfl, rfl⟩
      go_wp2
      go_ret
      exact ⟨ret_int16 HX.out.symm, rfl⟩
  · have hc : cliB s = true := cliB_yes (by omega) (by omega)
    rw [hc] at HI
    clear hc
    obtain ⟨i, hi⟩ : ∃ i : Nat, s = (i : Int) + 1 := ⟨(s - 1).toNat, by omega⟩
    subst hi
    have hi6 : i < 6 := by omega
    have h1 : (0 : Int) ≤ (i : Int) := by omega
    have h2 : (i : Int) + 1 ≤ 6 := by omega
    have h3 : (n == 0) = false := by rw [beq_eq_false_iff_ne]; omega
    obtain ⟨c0, c1, c2, c3, c4⟩ := h.at_ i hi6
    obtain ⟨y, hy⟩ : ∃ y, y = ((atR L ((i : Int) + 1)).getD rw0).b := ⟨_, rfl⟩
    rw [← hy] at c1
    have HX : Hid (j = if y < n then 0 else if y = n then 1 else 2) := Lib.hid (by rw [HJ.out]; unfold judR numR; rw [if_neg hbad, ← hy])
    clear h hbad hy HJ c0 c2 c3 c4
    go_enter Tryz.func101, Tryz.ntmps101
    go_wp2_with fail
    refine HI.out.mono ?_
    rintro e w1 ⟨rfl, rfl⟩
    by_cases hlt : y < n
    · have HL := Lib.hid hlt
      go_wp2
      go_ret
      exact ⟨ret_int16 (by rw [HX.out, if_pos (by have := HL.out; omega)]), rfl⟩
    · by_cases heq : n = y
      · have hb1 : (n == y) = true := by simpa using heq
        have hge : decide (y < n) = false := decide_eq_false hlt
        have HQ := Lib.hid heq
        clear heq hlt
        go_wp2
        go_ret
        exact ⟨ret_int16 (by rw [HX.out, if_neg (by have := HQ.out; omega), if_pos (by have := HQ.out; omega)]), rfl⟩
      · have hb1 : (n == y) = false := by simpa using heq
        have hge : decide (y < n) = false := decide_eq_false hlt
        have HQ : Hid (¬ y < n ∧ ¬ y = n) := Lib.hid ⟨hlt, fun h => heq h.symm⟩
        clear heq hlt
        go_wp2
        go_ret
        exact ⟨ret_int16 (by rw [HX.out, if_neg (by have := HQ.out; omega), if_neg (by have := HQ.out; omega)]), rfl⟩
/-- A row in a block's five cells, stored one by one. -/
def five16 (w : World) (b o : Nat) (v : Rw) : World := ((((w.setCell ⟨b, o, none⟩ (.int .i64 v.s)).setCell ⟨b, o + 1, none⟩ (.int .u64 v.b)).setCell ⟨b, o + 2, none⟩ (.int .u64 v.k)).setCell ⟨b, o + 3, none⟩ (.int .i64 v.ch)).setCell ⟨b, o + 4, none⟩ (.int .u64 v.ep)
theorem five16_at {w : World} {b : Nat} {y0 y1 y2 y3 y4 : Value} {t : TypeId} (h : w.heap[b]? = some (.cells #[y0, y1, y2, y3, y4] t (0, 0))) (v : Rw) : (five16 w b 0 v).heap[b]? = some (.cells #[.int .i64 v.s, .int .u64 v.b, .int .u64 v.k, .int .i64 v.ch, .int .u64 v.ep] t (0, 0)) :=
  blkR_set (blkR_set (blkR_set (blkR_set (blkR_set h 0 _) 1 _) 2 _) 3 _) 4 _
theorem Kept.five16 {S : Nat → Prop} {a w : World} (h : Kept S a w) {b : Nat} (hb : S b ∨ a.heap.size ≤ b) (o : Nat) (v : Rw) : Kept S a (Go.Proofs.YtabmipjpgofgpaaGreatDoor.five16 w b o v) :=
  ((((h.setCell (p := ⟨b, o, none⟩) hb _).setCell (p := ⟨b, o + 1, none⟩) hb _).setCell (p := ⟨b, o + 2, none⟩) hb _).setCell (p := ⟨b, o + 3, none⟩) hb _).setCell (p := ⟨b, o + 4, none⟩) hb _
/-- What Get tells. -/
def hasB (L : List Rw) (s : Int) : Bool := (atR L s).isSome
theorem atR_bad {L : List Rw} (h : ∀ r ∈ L, FineR r ∧ FitR r) {s : Int} (hs : s < 1 ∨ 6 < s) : atR L s = none := by
  refine atR_none (fun v hv => ?_)
  have := (h v hv).1
  unfold FineR at this
  omega
theorem SGet_nil (w : World) (s : Int) : Calls Tryz.prog 172 #[.pointer none, .int .i64 s] w fun e w' => e = .returned (.tuple #[rvv rw0, .bool false]) ∧ Kept NoB w w' := by
  obtain ⟨r0, r1, r2, r3, r4⟩ := cells5r (v := rw0) (heap_alloc_new w (.cells #[.int .i64 0, .int .u64 0, .int .u64 0, .int .i64 0, .int .u64 0] 40))
  have z0 := blkR_frozen (heap_alloc_new w (.cells #[.int .i64 0, .int .u64 0, .int .u64 0, .int .i64 0, .int .u64 0] 40))
  have HK := Lib.hid ((Kept.refl NoB w).alloc (.cells #[.int .i64 0, .int .u64 0, .int .u64 0, .int .i64 0, .int .u64 0] 40))
  go_enter Tryz.func172, Tryz.ntmps172
  go_wp2
  exact bodyPost_ret (v := .tuple #[.agg #[.int .i64 0, .int .u64 0, .int .u64 0, .int .i64 0, .int .u64 0], .bool false]) (by simp [results, Tryz.results172, go_sem, r0, r1, r2, r3, r4]; simp [rw0]) rfl ⟨rfl, HK.out⟩
set_option maxRecDepth 100000 in
theorem SGet_any (w : World) (g : Nat) (s : Int) (L : List Rw) (h : TabAt w g L) : Calls Tryz.prog 172 #[.pointer (some ⟨g, 0, none⟩), .int .i64 s] w fun e w' =>
    e = .returned (.tuple #[rvv ((atR L s).getD rw0), .bool (hasB L s)]) ∧ Kept NoB w w' := by
  have HR := Lib.hid (heap_alloc_new w (.cells #[.int .i64 0, .int .u64 0, .int .u64 0, .int .i64 0, .int .u64 0] 40))
  have HK := Lib.hid ((Kept.refl NoB w).alloc (.cells #[.int .i64 0, .int .u64 0, .int .u64 0, .int .i64 0, .int .u64 0] 40))
  have HI := Lib.hid (isClient_any s (w.alloc (.cells #[.int .i64 0, .int .u64 0, .int .u64 0, .int .i64 0, .int .u64 0] 40)))
  by_cases hb : s < 1 ∨ 6 < s
  · have hc := cliB_no hb
    rw [hc] at HI
    have hnone := atR_bad h.ok hb
    rw [show hasB L s = false by unfold hasB; rw [hnone]; rfl, hnone]
    obtain ⟨r0, r1, r2, r3, r4⟩ := cells5r (v := rw0) HR.out
    have z0 := blkR_frozen HR.out
    clear hb hc h hnone
    go_enter Tryz.func172, Tryz.ntmps172
    go_wp2_with fail
    refine HI.out.mono ?_
    rintro e w1 ⟨rfl, rfl⟩
    go_wp2
    exact bodyPost_ret (v := .tuple #[.agg #[.int .i64 0, .int .u64 0, .int .u64 0, .int .i64 0, .int .u64 0], .bool false]) (by simp [results, Tryz.results172, go_sem, r0, r1, r2, r3, r4]; simp [rw0]) rfl ⟨rfl, HK.out⟩
  · have hc : cliB s = true := cliB_yes (by omega) (by omega)
    rw [hc] at HI
    clear hc
    obtain ⟨i, hi⟩ : ∃ i : Nat, s = (i : Int) + 1 := ⟨(s - 1).toNat, by omega⟩
    subst hi
    have hi6 : i < 6 := by omega
    have h1 : (0 : Int) ≤ (i : Int) := by omega
    have h2 : (i : Int) < 6 := by omega
    have HC := Lib.hid ((h.no HK.out).at_ i hi6)
    have hgl := h.lt
    have hq : ¬ g = w.heap.size := by omega
    have hbn : hasB L ((i : Int) + 1) = (((atR L ((i : Int) + 1)).getD rw0).b != 0) := by
      unfold hasB
      cases ha : atR L ((i : Int) + 1) with
      | none => rfl
      | some x =>
        have hx := (h.ok x (atR_slot ha).2).1
        unfold FineR at hx
        simp
        omega
    rw [hbn]
    obtain ⟨⟨y0, y1, y2, y3, y4⟩, hy⟩ : ∃ y, y = (atR L ((i : Int) + 1)).getD rw0 := ⟨_, rfl⟩
    rw [← hy] at HC ⊢
    obtain ⟨bb, hbb⟩ : ∃ b : Bool, b = (y1 != 0) := ⟨_, rfl⟩
    have HBB := Lib.hid hbb
    clear h hb hbn hy hbb hgl
    go_enter Tryz.func172, Tryz.ntmps172
    go_wp2_with fail
    refine HI.out.mono ?_
    rintro e w1 ⟨rfl, rfl⟩
    obtain ⟨W, hW⟩ : ∃ W, W = w.alloc (.cells #[.int .i64 0, .int .u64 0, .int .u64 0, .int .i64 0, .int .u64 0] 40) := ⟨_, rfl⟩
    have HSZ : Hid (W.heap.size = w.heap.size + 1) := Lib.hid (by rw [hW]; simp)
    rw [← hW] at HR HK HC ⊢
    clear hW HI
    obtain ⟨c0, c1, c2, c3, c4⟩ := HC.out
    obtain ⟨r0, r1, r2, r3, r4⟩ := cells5r (v := rw0) HR.out
    have z0 := blkR_frozen HR.out
    go_wp2_with fail
    have HK2 := Lib.hid (HK.out.alloc (.cells #[.int .i64 y0, .int .u64 y1, .int .u64 y2, .int .i64 y3, .int .u64 y4] 40))
    have HR2 := Lib.hid (blkR_alloc HR.out (.cells #[.int .i64 y0, .int .u64 y1, .int .u64 y2, .int .i64 y3, .int .u64 y4] 40))
    have HY2 := Lib.hid (heap_alloc_new W (.cells #[.int .i64 y0, .int .u64 y1, .int .u64 y2, .int .i64 y3, .int .u64 y4] 40))
    have hne : ¬ W.heap.size = w.heap.size := by have := HSZ.out; omega
    have hne2 : ¬ w.heap.size = W.heap.size := by have := HSZ.out; omega
    generalize hW2 : W.alloc (.cells #[.int .i64 y0, .int .u64 y1, .int .u64 y2, .int .i64 y3, .int .u64 y4] 40) = W2 at HK2 HR2 HY2 ⊢
    clear hW2 c0 c1 c2 c3 c4 r0 r1 r2 r3 r4 z0 HC
    obtain ⟨c0, c1, c2, c3, c4⟩ := cells5r (v := ⟨y0, y1, y2, y3, y4⟩) HY2.out
    obtain ⟨r0, r1, r2, r3, r4⟩ := cells5r (v := rw0) HR2.out
    have z0 := blkR_frozen HR2.out
    go_region
    all_goals
      go_wp2
      have hF := five16_at HR2.out ⟨y0, y1, y2, y3, y4⟩
      have hK := (HK2.out.five16 (b := w.heap.size) (.inr (Nat.le_refl _)) 0 ⟨y0, y1, y2, y3, y4⟩).drew
      clear r0 r1 r2 r3 r4 c0 c1 c2 c3 c4 z0
      obtain ⟨r0, r1, r2, r3, r4⟩ := cells5r (v := ⟨y0, y1, y2, y3, y4⟩) hF
      clear hF
      unfold five16 at r0 r1 r2 r3 r4 hK
      simp only [Nat.zero_add] at r0 r1 r2 r3 r4 hK
      rw [← HBB.out]
      generalize hW : World.setCell _ _ _ = W3 at r0 r1 r2 r3 r4 hK ⊢
      exact bodyPost_ret (v := .tuple #[.agg #[.int .i64 y0, .int .u64 y1, .int .u64 y2, .int .i64 y3, .int .u64 y4], .bool bb]) (by simp [results, Tryz.results172, go_sem, cell_drew r0, cell_drew r1, cell_drew r2, cell_drew r3, cell_drew r4]) rfl ⟨rfl, hK⟩
end Go.Proofs.YtabmipjpgofgpaaGreatDoor
namespace Go.Proofs.YtabmipjpgofgpaaGreatDoor
open Go.RowKit
set_option linter.unusedVariables false

def fineB (r : Rw) : Bool := decide (FineR r)
set_option maxRecDepth 100000 in
theorem isRow_any (s b k ch ep : Int) (w : World) : Calls Tryz.prog 105 #[.agg #[.int .i64 s, .int .u64 b, .int .u64 k, .int .i64 ch, .int .u64 ep]] w fun e w' => e = .returned (.bool (fineB ⟨s, b, k, ch, ep⟩)) ∧ Kept NoB w w' := by
  have HK := Lib.hid ((Kept.refl NoB w).alloc (.cells #[.int .i64 s, .int .u64 b, .int .u64 k, .int .i64 ch, .int .u64 ep] 40))
  have HI := Lib.hid (isClient_any s (w.alloc (.cells #[.int .i64 s, .int .u64 b, .int .u64 k, .int .i64 ch, .int .u64 ep] 40)))
  obtain ⟨bb, hbb⟩ : ∃ x, x = fineB ⟨s, b, k, ch, ep⟩ := ⟨_, rfl⟩
  have HB := Lib.hid hbb
  rw [← hbb]
  clear hbb
  by_cases hb : s < 1 ∨ 6 < s
  · have hc := cliB_no hb
    rw [hc] at HI
    have HX : Hid (bb = false) := Lib.hid (by rw [HB.out]; exact decide_eq_false (by unfold FineR; simp only; omega))
    clear hb hc
    go_enter Tryz.func105, Tryz.ntmps105
    go_wp2_with fail
    refine HI.out.mono ?_
    rintro e w1 ⟨rfl, rfl⟩
    go_wp2
    go_ret
    exact ⟨ret_bool16 HX.out.symm, HK.out⟩
  · have hc : cliB s = true := cliB_yes (by omega) (by omega)
    rw [hc] at HI
    have HS : Hid (1 ≤ s ∧ s ≤ 6) := Lib.hid (by omega)
    clear hb hc
    go_enter Tryz.func105, Tryz.ntmps105
    go_wp2_with fail
    refine HI.out.mono ?_
    rintro e w1 ⟨rfl, rfl⟩
    go_wp2
    all_goals
      go_ret
      refine ⟨ret_bool16 ?_, HK.out⟩
      rw [HB.out]
      have := HS.out
      symm
      unfold fineB
      first
        | (rw [decide_eq_false_iff_not]; intro hf; unfold FineR at hf; simp only at hf; omega)
        | (rw [Bool.eq_iff_iff, decide_eq_true_iff, decide_eq_true_iff]; unfold FineR; simp only; omega)
theorem TabAt.set {w : World} {g : Nat} {L : List Rw} (h : TabAt w g L) (v : Rw) (hf : FineR v) (hfit : FitR v) (i : Nat) (hi : v.s = (i : Int) + 1) : TabAt (five16 w g (i * 5) v) g (putR L v) := by
  obtain ⟨cs, h1, h2, h3⟩ := h.row
  have hi6 : i < 6 := by unfold FineR at hf; omega
  refine ⟨⟨_, blkR_set (blkR_set (blkR_set (blkR_set (blkR_set h1 (i * 5) _) (i * 5 + 1) _) (i * 5 + 2) _) (i * 5 + 3) _) (i * 5 + 4) _, by simpa using h2, fun j hj => ?_⟩, putR_srt v h.srt, fun r hr => ?_⟩
  · by_cases e : j = i
    · subst e
      rw [← hi, atR_put_same]
      simp only [Option.getD_some, RwA, Array.getElem?_setIfInBounds, Array.size_setIfInBounds, h2]
      refine ⟨?_, ?_, ?_, ?_, ?_⟩
      · rw [if_neg (by omega), if_neg (by omega), if_neg (by omega), if_neg (by omega), if_pos trivial, if_pos (by omega)]
      · rw [if_neg (by omega), if_neg (by omega), if_neg (by omega), if_pos trivial, if_pos (by omega)]
      · rw [if_neg (by omega), if_neg (by omega), if_pos trivial, if_pos (by omega)]
      · rw [if_neg (by omega), if_pos trivial, if_pos (by omega)]
      · rw [if_pos trivial, if_pos (by omega)]
    · rw [atR_put_other v (by omega)]
      obtain ⟨e0, e1, e2, e3, e4⟩ := h3 j hj
      have k : ∀ a, a < 5 → ∀ b, b < 5 → ¬ i * 5 + b = j * 5 + a := by intro a ha b hb; omega
      simp only [RwA, Array.getElem?_setIfInBounds]
      refine ⟨?_, ?_, ?_, ?_, ?_⟩
      · rw [if_neg (by omega), if_neg (by omega), if_neg (by omega), if_neg (by omega), if_neg (by omega)]; exact e0
      · rw [if_neg (by omega), if_neg (by omega), if_neg (by omega), if_neg (by omega), if_neg (by omega)]; exact e1
      · rw [if_neg (by omega), if_neg (by omega), if_neg (by omega), if_neg (by omega), if_neg (by omega)]; exact e2
      · rw [if_neg (by omega), if_neg (by omega), if_neg (by omega), if_neg (by omega), if_neg (by omega)]; exact e3
      · rw [if_neg (by omega), if_neg (by omega), if_neg (by omega), if_neg (by omega), if_neg (by omega)]; exact e4
  · rcases putR_mem hr with rfl | hr
    · exact ⟨hf, hfit⟩
    · exact h.ok r hr
theorem SSet_nil (w : World) (x0 x1 x2 x3 x4 : Int) : Calls Tryz.prog 50 #[.pointer none, .agg #[.int .i64 x0, .int .u64 x1, .int .u64 x2, .int .i64 x3, .int .u64 x4]] w fun e w' => e = .returned (.int .i64 2) ∧ Kept NoB w w' := by
  go_enter Tryz.func50, Tryz.ntmps50
  go_wp2
  go_ret
  exact ⟨rfl, (Kept.refl _ _).alloc _⟩
set_option maxRecDepth 100000 in
theorem SSet_any (w : World) (g : Nat) (x0 x1 x2 x3 x4 : Int) (L : List Rw) (h : TabAt w g L) (hfit : FitR ⟨x0, x1, x2, x3, x4⟩) : Calls Tryz.prog 50 #[.pointer (some ⟨g, 0, none⟩), .agg #[.int .i64 x0, .int .u64 x1, .int .u64 x2, .int .i64 x3, .int .u64 x4]] w fun e w' =>
    e = .returned (.int .i64 (setX L ⟨x0, x1, x2, x3, x4⟩)) ∧ TabAt w' g (setL L ⟨x0, x1, x2, x3, x4⟩) ∧ Kept (fun k => k = g) w w' := by
  have HK0 := Lib.hid ((Kept.refl NoB w).alloc (.cells #[.int .i64 x0, .int .u64 x1, .int .u64 x2, .int .i64 x3, .int .u64 x4] 40))
  have HR0 := Lib.hid (heap_alloc_new w (.cells #[.int .i64 x0, .int .u64 x1, .int .u64 x2, .int .i64 x3, .int .u64 x4] 40))
  have HT0 := Lib.hid (h.no HK0.out)
  have hgl := h.lt
  have HFIT := Lib.hid hfit
  have hn : 0 ≤ x1 := hfit.1
  clear h hfit
  obtain ⟨w0, hw0⟩ : ∃ w0, w0 = w.alloc (.cells #[.int .i64 x0, .int .u64 x1, .int .u64 x2, .int .i64 x3, .int .u64 x4] 40) := ⟨_, rfl⟩
  rw [← hw0] at HK0 HR0 HT0
  have HW := Lib.hid hw0
  clear hw0
  obtain ⟨bb, hbb⟩ : ∃ b, b = fineB ⟨x0, x1, x2, x3, x4⟩ := ⟨_, rfl⟩
  have HB := Lib.hid hbb
  have HF := Lib.hid (isRow_any x0 x1 x2 x3 x4 w0)
  rw [← hbb] at HF
  clear hbb
  go_enter Tryz.func50, Tryz.ntmps50
  go_upto_region 1 with fail
  rw [← HW.out]
  obtain ⟨c0, c1, c2, c3, c4⟩ := cells5r (v := ⟨x0, x1, x2, x3, x4⟩) HR0.out
  go_wp2_with fail
  refine HF.out.mono ?_
  rintro e w1 ⟨rfl, hk⟩
  have HK1 := Lib.hid (HK0.out.trans hk (fun _ _ h => h))
  have HR1 := Lib.hid (hk.heap (fun h => h) HR0.out)
  have HT1 := Lib.hid (HT0.out.no hk)
  clear hk c0 c1 c2 c3 c4
  cases bb
  · have HX : Hid (setX L ⟨x0, x1, x2, x3, x4⟩ = 1) := Lib.hid (by unfold setX; rw [if_pos (by have := HB.out; simpa [fineB] using this)])
    go_wp2
    go_ret
    rw [HX.out, show setL L ⟨x0, x1, x2, x3, x4⟩ = L by unfold setL; rw [HX.out, if_neg (by decide)]]
    exact ⟨rfl, HT1.out, HK1.out.mono (fun _ _ h => h.elim)⟩
  · have HFI : Hid (FineR ⟨x0, x1, x2, x3, x4⟩) := Lib.hid (of_decide_eq_true HB.out.symm)
    obtain ⟨j, hj⟩ : ∃ j, j = judR L x0 x1 := ⟨_, rfl⟩
    have HJ := Lib.hid hj
    have HJU := Lib.hid (SJudge_any w1 g x0 x1 L HT1.out hn)
    rw [← hj] at HJU
    clear hj
    obtain ⟨c0, c1, c2, c3, c4⟩ := cells5r (v := ⟨x0, x1, x2, x3, x4⟩) HR1.out
    go_wp2_with fail
    refine HJU.out.mono ?_
    rintro e w2 ⟨rfl, rfl⟩
    by_cases h0 : j = 0
    · have HX : Hid (setX L ⟨x0, x1, x2, x3, x4⟩ = 0) := Lib.hid (by unfold setX; rw [if_neg (by simpa using HFI.out), if_neg (by rw [← HJ.out]; simpa using h0)])
      have hb0 : (j != 0) = false := by simpa using h0
      obtain ⟨i, hi⟩ : ∃ i : Nat, x0 = (i : Int) + 1 := ⟨(x0 - 1).toNat, by have := HFI.out; unfold FineR at this; simp only at this; omega⟩
      have hi6 : i < 6 := by have := HFI.out; unfold FineR at this; simp only at this; omega
      have h1 : (0 : Int) ≤ (i : Int) := by omega
      have h2 : (i : Int) < 6 := by omega
      have hq : ¬ g = w.heap.size := by omega
      have hq2 : ¬ w.heap.size = g := by omega
      subst hi
      obtain ⟨d0, d1, d2, d3, d4⟩ := HT1.out.at_ i hi6
      obtain ⟨⟨y0, y1, y2, y3, y4⟩, hy⟩ : ∃ y, y = (atR L ((i : Int) + 1)).getD rw0 := ⟨_, rfl⟩
      rw [← hy] at d0 d1 d2 d3 d4
      have z0 := HT1.out.f
      clear h0 hy
      go_wp2_with fail
      go_region
      all_goals
        go_wp2
        go_ret
        have hT := HT1.out.set _ HFI.out HFIT.out i rfl
        have hK := (HK1.out.mono (T := fun k => k = g) (fun _ _ h => h.elim)).five16 (.inl rfl) (i * 5) ⟨(i : Int) + 1, x1, x2, x3, x4⟩
        rw [HX.out, show setL L ⟨(i : Int) + 1, x1, x2, x3, x4⟩ = putR L ⟨(i : Int) + 1, x1, x2, x3, x4⟩ by unfold setL; rw [HX.out, if_pos rfl]]
        exact ⟨rfl, hT.no ((Kept.refl NoB _).drew), hK.drew⟩
    · have HX : Hid (setX L ⟨x0, x1, x2, x3, x4⟩ = 12) := Lib.hid (by unfold setX; rw [if_neg (by simpa using HFI.out), if_pos (by rw [← HJ.out]; exact h0)])
      have hb0 : (j != 0) = true := by simpa using h0
      clear h0
      go_wp2
      go_ret
      rw [HX.out, show setL L ⟨x0, x1, x2, x3, x4⟩ = L by unfold setL; rw [HX.out, if_neg (by decide)]]
      exact ⟨rfl, HT1.out, HK1.out.mono (fun _ _ h => h.elim)⟩
end Go.Proofs.YtabmipjpgofgpaaGreatDoor
namespace Go.Proofs.YtabmipjpgofgpaaGreatDoor
open Go.RowKit
set_option linter.unusedVariables false

theorem selR_all {L : List Rw} (h : ∀ r ∈ L, FineR r ∧ FitR r) : selR L 1 7 = L := by
  unfold selR
  rw [List.filter_eq_self]
  intro v hv
  have := (h v hv).1
  unfold FineR at this
  simp
  omega
theorem selR_one {L : List Rw} (h : ∀ r ∈ L, FineR r ∧ FitR r) : selR L 1 1 = [] := by
  unfold selR
  rw [List.filter_eq_nil_iff]
  intro v hv
  simp
theorem TabAt.few {w : World} {g : Nat} {L : List Rw} (h : TabAt w g L) : L.length ≤ 6 := by
  have := rows_few_aux L 1 h.srt (fun v hv => by have := (h.ok v hv).1; unfold FineR at this; omega) (by omega)
  omega
/-- What is collected behind the clients below k. -/
def SaRel (w : World) (L : List Rw) (ov iv : Value) (wr : World) : Prop :=
  ∃ k : Nat, iv = .int .i64 k ∧ 1 ≤ k ∧ k ≤ 7 ∧ POwn w.heap.size wr ov (selR L 1 k) ∧ Kept NoB w wr
set_option maxRecDepth 100000 in
theorem SAll_any (w : World) (g : Nat) (L : List Rw) (h : TabAt w g L) : Calls Tryz.prog 139 #[.pointer (some ⟨g, 0, none⟩)] w fun e w' => ∃ v, e = .returned v ∧ POwn w.heap.size w' v L ∧ Kept NoB w w' := by
  have HA := Lib.hid h
  have HFEW := Lib.hid h.few
  have HS := Lib.hid h.srt
  have HOK := Lib.hid h.ok
  clear h
  go_enter Tryz.func139, Tryz.ntmps139
  go_wp2
  go_loopw [3, 4] (SaRel w L) (fun _ i _ => 7 - (RowKit.intOf i).toNat)
  case atStart => exact ⟨1, rfl, by omega, by omega, by rw [show ((1 : Nat) : Int) = 1 from rfl, selR_one HOK.out]; exact POwn.nil _ _, Kept.refl _ _⟩
  case round =>
    obtain ⟨k, rfl, hk0, hk1, hown, hK⟩ := hrel
    by_cases hlt : k < 7
    · obtain ⟨a, c, rfl⟩ := hown.form
      have HK := Lib.hid hK
      have HO := Lib.hid hown
      have hk00 : (1 : Int) ≤ (k : Int) := by omega
      have hk7 : (k : Int) ≤ 6 := by omega
      have HV := Lib.hid (SGet_any wr g k L (HA.out.no hK))
      have hst := selR_step L 1 k HS.out (by omega)
      have hle := selR_len L 1 k
      obtain ⟨b, hbb⟩ : ∃ b, b = hasB L k := ⟨_, rfl⟩
      obtain ⟨⟨y0, y1, y2, y3, y4⟩, hv⟩ : ∃ v, v = (atR L k).getD rw0 := ⟨_, rfl⟩
      rw [← hbb, ← hv, show rvv ⟨y0, y1, y2, y3, y4⟩ = .agg #[.int .i64 y0, .int .u64 y1, .int .u64 y2, .int .i64 y3, .int .u64 y4] from rfl] at HV
      have HST : Hid (selR L 1 ((k + 1 : Nat) : Int) = selR L 1 k ++ if b then [⟨y0, y1, y2, y3, y4⟩] else []) := Lib.hid (by
        rw [show ((k + 1 : Nat) : Int) = (k : Int) + 1 by omega, hst, hbb, hv]
        unfold hasB
        cases atR L k <;> rfl)
      have HLE : Hid ((selR L 1 k).length ≤ 6) := Lib.hid (by have := HFEW.out; omega)
      clear hown hK hst hle hbb hv
      go_wp2_with fail
      refine HV.out.mono ?_
      rintro e w2 ⟨rfl, hk2⟩
      have HK2 := Lib.hid (HK.out.trans hk2 (fun _ _ h => h))
      have HO2 := Lib.hid (HO.out.no hk2)
      clear hk2
      cases b
      · go_wp2
        exact ⟨⟨k + 1, by go_num, by omega, by omega, by rw [HST.out, if_neg (by simp), List.append_nil]; exact HO2.out.no ((Kept.refl NoB w2).alloc _), HK2.out.alloc _⟩, by simp [RowKit.intOf]; omega⟩
      · have HO3 := Lib.hid ((HO2.out.no ((Kept.refl NoB w2).alloc (.cells #[.int .i64 y0, .int .u64 y1, .int .u64 y2, .int .i64 y3, .int .u64 y4] 40))).no ((Kept.refl NoB _).alloc (.cells #[.int .i64 y0, .int .u64 y1, .int .u64 y2, .int .i64 y3, .int .u64 y4] 40)))
        have hz := heap_alloc_new (w2.alloc (.cells #[.int .i64 y0, .int .u64 y1, .int .u64 y2, .int .i64 y3, .int .u64 y4] 40)) (.cells #[.int .i64 y0, .int .u64 y1, .int .u64 y2, .int .i64 y3, .int .u64 y4] 40)
        rw [show (w2.alloc (.cells #[.int .i64 y0, .int .u64 y1, .int .u64 y2, .int .i64 y3, .int .u64 y4] 40)).heap.size = w2.heap.size + 1 by simp] at hz
        have HZ := Lib.hid hz
        have HK3 := Lib.hid ((HK2.out.alloc (.cells #[.int .i64 y0, .int .u64 y1, .int .u64 y2, .int .i64 y3, .int .u64 y4] 40)).alloc (.cells #[.int .i64 y0, .int .u64 y1, .int .u64 y2, .int .i64 y3, .int .u64 y4] 40))
        clear hz
        go_wp2_with (at_builtin; refine wpList_append_pr _ rfl _ _ rfl w.heap.size (.slice a (selR L 1 k).length c) (selR L 1 k) rfl HO3.out (w2.heap.size + 1) ⟨y0, y1, y2, y3, y4⟩ rfl HZ.out (by have := HLE.out; omega) (by exact HK3.out.size) ?_; intro a' c' w' hown' hgrow' hat')
        exact ⟨⟨k + 1, by go_num, by omega, by omega, by rw [HST.out, if_pos trivial]; exact hown', HK3.out.grown hgrow' (fun i hi => .inr (HO3.out.base i hi).1)⟩, by simp [RowKit.intOf]; omega⟩
    · obtain rfl : k = 7 := by omega
      obtain ⟨a, c, rfl⟩ := hown.form
      rw [show ((7 : Nat) : Int) = 7 from rfl, selR_all HOK.out] at hown ⊢
      have HO := Lib.hid hown
      have HK := Lib.hid hK
      clear hown hK
      go_wp2
      go_ret
      exact ⟨_, rfl, HO.out, HK.out⟩
def SnRel (w : World) (ov iv : Value) (wr : World) : Prop := ∃ k : Nat, iv = .int .i64 k ∧ k ≤ 7 ∧ ov = .slice none 0 0 ∧ Kept NoB w wr
theorem SAll_nil (w : World) : Calls Tryz.prog 139 #[.pointer none] w fun e w' => e = .returned (.slice none 0 0) ∧ Kept NoB w w' := by
  go_enter Tryz.func139, Tryz.ntmps139
  go_wp2
  go_loopw [3, 4] (SnRel w) (fun _ i _ => 7 - (RowKit.intOf i).toNat)
  case atStart => exact ⟨1, rfl, by omega, rfl, Kept.refl _ _⟩
  case round =>
    obtain ⟨k, rfl, hk1, rfl, hK⟩ := hrel
    by_cases hlt : k < 7
    · have HK := Lib.hid hK
      have hk7 : (k : Int) ≤ 6 := by omega
      clear hK
      go_wp2_with fail
      refine (SGet_nil wr k).mono ?_
      rintro e w2 ⟨rfl, hk2⟩
      rw [show rvv rw0 = .agg #[.int .i64 0, .int .u64 0, .int .u64 0, .int .i64 0, .int .u64 0] from rfl]
      have HK2 := Lib.hid (HK.out.trans hk2 (fun _ _ h => h))
      clear hk2
      go_wp2
      exact ⟨⟨k + 1, by go_num, by omega, rfl, HK2.out.alloc _⟩, by simp [RowKit.intOf]; omega⟩
    · obtain rfl : k = 7 := by omega
      have HK := Lib.hid hK
      clear hK
      go_wp2
      go_ret
      exact ⟨rfl, HK.out⟩
end Go.Proofs.YtabmipjpgofgpaaGreatDoor
