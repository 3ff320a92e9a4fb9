/-
  Updates in memory: one by value, in seven cells, a slice of them, a row of the call's own; append.
-/
import Derived.Test.YtnnmkmipeoajjaaGreatDoorProg
import Derived.Test.YtnnmkmipeoajjaaGreatDoorUpdA
import Derived.Test.YtnnmkmipeoajjaaGreatDoorRef
import Derived.WalkSpells
import Derived.WalkLawsBesides
import Derived.BigRegion
import Derived.Deep.QuietTactic
import Derived.BigQuiet
import Derived.Deep.RegionHeld3
import Derived.Deep.RegionLaw
import Derived.Deep.DeepMust
import Derived.Outline
import Derived.KernelRfl
import Derived.Deep.Cut
import Derived.StillTailTactics
namespace Go.Proofs.YtnnmkmipeoajjaaGreatDoor
open Go.RowKit
set_option linter.unusedVariables false

theorem addr_add17 (b o j : Nat) : (⟨b, o, none⟩ : Addr).add j = ⟨b, o + j, none⟩ := by unfold Addr.add; split <;> simp_all
theorem blkU_frozen {w : World} {g : Nat} {cs : Array Value} {t : TypeId} (h : w.heap[g]? = some (.cells cs t (0, 0))) (o : Nat) : w.frozen? ⟨g, o, none⟩ = false := by simp [World.frozen?, h]
theorem blkU_set {w : World} {g : Nat} {cs : Array Value} {t : TypeId} {fr : Nat × Nat} (h : w.heap[g]? = some (.cells cs t fr)) (i : Nat) (u : Value) :
    (w.setCell ⟨g, i, none⟩ u).heap[g]? = some (.cells (cs.setIfInBounds i u) t fr) := by simp [World.setCell, Array.getElem?_modify, h]
theorem blkU_set_other {w : World} {g k : Nat} {o : Obj} (h : w.heap[g]? = some o) (i : Nat) (u : Value) (hk : k ≠ g) :
    (w.setCell ⟨k, i, none⟩ u).heap[g]? = some o := by simp [World.setCell, Array.getElem?_modify, h, hk]
theorem blkU_alloc {w : World} {g : Nat} {o : Obj} (h : w.heap[g]? = some o) (x : Obj) : (w.alloc x).heap[g]? = some o := (heap_alloc_old w x (heap_lt h)).trans h
theorem cells7 {w : World} {b : Nat} {x0 x1 x2 x3 x4 x5 x6 : Value} {t : TypeId} (h : w.heap[b]? = some (.cells #[x0, x1, x2, x3, x4, x5, x6] t (0, 0))) :
    w.cell? ⟨b, 0, none⟩ = some x0 ∧ w.cell? ⟨b, 1, none⟩ = some x1 ∧ w.cell? ⟨b, 2, none⟩ = some x2 ∧ w.cell? ⟨b, 3, none⟩ = some x3 ∧ w.cell? ⟨b, 4, none⟩ = some x4 ∧ w.cell? ⟨b, 5, none⟩ = some x5 ∧ w.cell? ⟨b, 6, none⟩ = some x6 :=
  ⟨cell_of_row _ _ 0 _ _ _ h, cell_of_row _ _ 1 _ _ _ h, cell_of_row _ _ 2 _ _ _ h, cell_of_row _ _ 3 _ _ _ h, cell_of_row _ _ 4 _ _ _ h, cell_of_row _ _ 5 _ _ _ h, cell_of_row _ _ 6 _ _ _ h⟩
/-- An update's cells. -/
def ucs (x : Up) (u : Value) : List Value := [.int .u64 x.q, .int .i64 x.c, .int .u64 x.n, .int .i64 x.k, .int .u32 x.key, .int .u64 x.r, u]
/-- An update as a value. -/
def uag (x : Up) (u : Value) : Value := .agg #[.int .u64 x.q, .int .i64 x.c, .int .u64 x.n, .int .i64 x.k, .int .u32 x.key, .int .u64 x.r, u]
/-- An update in a block of its own. -/
def ublk (t : TypeId) (x : Up) (u : Value) : Obj := .cells #[.int .u64 x.q, .int .i64 x.c, .int .u64 x.n, .int .i64 x.k, .int .u32 x.key, .int .u64 x.r, u] t (0, 0)
/-- An update in a block's seven cells, stored one by one. -/
def seven17 (w : World) (b o : Nat) (x0 x1 x2 x3 x4 x5 x6 : Value) : World := ((((((w.setCell ⟨b, o, none⟩ x0).setCell ⟨b, o + 1, none⟩ x1).setCell ⟨b, o + 2, none⟩ x2).setCell ⟨b, o + 3, none⟩ x3).setCell ⟨b, o + 4, none⟩ x4).setCell ⟨b, o + 5, none⟩ x5).setCell ⟨b, o + 6, none⟩ x6
theorem seven17_at {w : World} {b : Nat} {a0 a1 a2 a3 a4 a5 a6 : Value} {t : TypeId} (h : w.heap[b]? = some (.cells #[a0, a1, a2, a3, a4, a5, a6] t (0, 0))) (x0 x1 x2 x3 x4 x5 x6 : Value) : (seven17 w b 0 x0 x1 x2 x3 x4 x5 x6).heap[b]? = some (.cells #[x0, x1, x2, x3, x4, x5, x6] t (0, 0)) := by
  unfold seven17
  have h0 : (w.setCell ⟨b, 0, none⟩ x0).heap[b]? = some (.cells #[x0, a1, a2, a3, a4, a5, a6] t (0, 0)) := blkU_set h 0 x0
  have h1 : ((w.setCell ⟨b, 0, none⟩ x0).setCell ⟨b, 0 + 1, none⟩ x1).heap[b]? = some (.cells #[x0, x1, a2, a3, a4, a5, a6] t (0, 0)) := blkU_set h0 1 x1
  have h2 : (((w.setCell ⟨b, 0, none⟩ x0).setCell ⟨b, 0 + 1, none⟩ x1).setCell ⟨b, 0 + 2, none⟩ x2).heap[b]? = some (.cells #[x0, x1, x2, a3, a4, a5, a6] t (0, 0)) := blkU_set h1 2 x2
  have h3 : ((((w.setCell ⟨b, 0, none⟩ x0).setCell ⟨b, 0 + 1, none⟩ x1).setCell ⟨b, 0 + 2, none⟩ x2).setCell ⟨b, 0 + 3, none⟩ x3).heap[b]? = some (.cells #[x0, x1, x2, x3, a4, a5, a6] t (0, 0)) := blkU_set h2 3 x3
  have h4 : (((((w.setCell ⟨b, 0, none⟩ x0).setCell ⟨b, 0 + 1, none⟩ x1).setCell ⟨b, 0 + 2, none⟩ x2).setCell ⟨b, 0 + 3, none⟩ x3).setCell ⟨b, 0 + 4, none⟩ x4).heap[b]? = some (.cells #[x0, x1, x2, x3, x4, a5, a6] t (0, 0)) := blkU_set h3 4 x4
  have h5 : ((((((w.setCell ⟨b, 0, none⟩ x0).setCell ⟨b, 0 + 1, none⟩ x1).setCell ⟨b, 0 + 2, none⟩ x2).setCell ⟨b, 0 + 3, none⟩ x3).setCell ⟨b, 0 + 4, none⟩ x4).setCell ⟨b, 0 + 5, none⟩ x5).heap[b]? = some (.cells #[x0, x1, x2, x3, x4, x5, a6] t (0, 0)) := blkU_set h4 5 x5
  have h6 : (((((((w.setCell ⟨b, 0, none⟩ x0).setCell ⟨b, 0 + 1, none⟩ x1).setCell ⟨b, 0 + 2, none⟩ x2).setCell ⟨b, 0 + 3, none⟩ x3).setCell ⟨b, 0 + 4, none⟩ x4).setCell ⟨b, 0 + 5, none⟩ x5).setCell ⟨b, 0 + 6, none⟩ x6).heap[b]? = some (.cells #[x0, x1, x2, x3, x4, x5, x6] t (0, 0)) := blkU_set h5 6 x6
  exact h6
theorem Kept.seven17 {S : Nat → Prop} {a w : World} (h : Kept S a w) {b : Nat} (hb : S b ∨ a.heap.size ≤ b) (o : Nat) (x0 x1 x2 x3 x4 x5 x6 : Value) : Kept S a (Go.Proofs.YtnnmkmipeoajjaaGreatDoor.seven17 w b o x0 x1 x2 x3 x4 x5 x6) :=
  ((((((h.setCell (p := ⟨b, o, none⟩) hb _).setCell (p := ⟨b, o + 1, none⟩) hb _).setCell (p := ⟨b, o + 2, none⟩) hb _).setCell (p := ⟨b, o + 3, none⟩) hb _).setCell (p := ⟨b, o + 4, none⟩) hb _).setCell (p := ⟨b, o + 5, none⟩) hb _).setCell (p := ⟨b, o + 6, none⟩) hb _
/-- An update by value, its data in blocks of F. -/
def UpV (w : World) (F : Nat → Prop) (v : Value) (x : Up) : Prop := ∃ u, v = .agg #[.int .u64 x.q, .int .i64 x.c, .int .u64 x.n, .int .i64 x.k, .int .u32 x.key, .int .u64 x.r, u] ∧ BSl w F u x.d
/-- One whose data are a row of the call's own. -/
def UpO (w : World) (F : Nat → Prop) (v : Value) (x : Up) : Prop := ∃ u, v = .agg #[.int .u64 x.q, .int .i64 x.c, .int .u64 x.n, .int .i64 x.k, .int .u32 x.key, .int .u64 x.r, u] ∧ Own w F u x.d
theorem UpV.kept {S F : Nat → Prop} {w w' : World} {v : Value} {x : Up} (h : UpV w F v x) (hk : Kept S w w') (hs : ∀ k, F k → ¬ S k) : UpV w' F v x := by
  obtain ⟨u, h1, h2⟩ := h
  exact ⟨u, h1, h2.kept hk hs⟩
theorem UpV.no {F : Nat → Prop} {w w' : World} {v : Value} {x : Up} (h : UpV w F v x) (hk : Kept NoB w w') : UpV w' F v x := h.kept hk (fun _ _ h => h)
theorem UpV.mono {F G : Nat → Prop} {w : World} {v : Value} {x : Up} (h : UpV w F v x) (hG : ∀ k, k < w.heap.size → F k → G k) : UpV w G v x := by
  obtain ⟨u, h1, h2⟩ := h
  exact ⟨u, h1, h2.mono hG⟩
theorem UpV.zero (w : World) (F : Nat → Prop) : UpV w F (.agg #[.int .u64 0, .int .i64 0, .int .u64 0, .int .i64 0, .int .u32 0, .int .u64 0, .slice none 0 0]) up0 := ⟨_, rfl, BSl.nil _ _⟩
theorem UpO.v {w : World} {F : Nat → Prop} {v : Value} {x : Up} (h : UpO w F v x) : UpV w F v x := by
  obtain ⟨u, h1, h2⟩ := h
  exact ⟨u, h1, h2.bsl⟩
theorem UpO.no {F : Nat → Prop} {w w' : World} {v : Value} {x : Up} (h : UpO w F v x) (hk : Kept NoB w w') : UpO w' F v x := by
  obtain ⟨u, h1, h2⟩ := h
  exact ⟨u, h1, h2.kept hk (fun _ _ h => h)⟩
theorem UpO.mono {F G : Nat → Prop} {w : World} {v : Value} {x : Up} (h : UpO w F v x) (hG : ∀ k, k < w.heap.size → F k → G k) : UpO w G v x := by
  obtain ⟨u, h1, h2⟩ := h
  exact ⟨u, h1, h2.mono hG⟩
theorem UpO.zero (w : World) (F : Nat → Prop) : UpO w F (.agg #[.int .u64 0, .int .i64 0, .int .u64 0, .int .i64 0, .int .u32 0, .int .u64 0, .slice none 0 0]) up0 := ⟨_, rfl, Own.nil _ _⟩
/-- Seven cells that are an update. -/
def UpAt (w : World) (F : Nat → Prop) (b o : Nat) (x : Up) : Prop :=
  ∃ u, w.cell? ⟨b, o, none⟩ = some (.int .u64 x.q) ∧ w.cell? ⟨b, o + 1, none⟩ = some (.int .i64 x.c) ∧ w.cell? ⟨b, o + 2, none⟩ = some (.int .u64 x.n) ∧ w.cell? ⟨b, o + 3, none⟩ = some (.int .i64 x.k) ∧ w.cell? ⟨b, o + 4, none⟩ = some (.int .u32 x.key) ∧ w.cell? ⟨b, o + 5, none⟩ = some (.int .u64 x.r) ∧ w.cell? ⟨b, o + 6, none⟩ = some u ∧ BSl w F u x.d
theorem UpAt.kept {S F : Nat → Prop} {w w' : World} {b o : Nat} {x : Up} (h : UpAt w F b o x) (hk : Kept S w w') (hb : ¬ S b) (hs : ∀ k, F k → ¬ S k) : UpAt w' F b o x := by
  obtain ⟨u, h1, h2, h3, h4, h5, h6, h7, h8⟩ := h
  exact ⟨u, hk.cell (p := ⟨b, o, none⟩) hb h1, hk.cell (p := ⟨b, o + 1, none⟩) hb h2, hk.cell (p := ⟨b, o + 2, none⟩) hb h3, hk.cell (p := ⟨b, o + 3, none⟩) hb h4, hk.cell (p := ⟨b, o + 4, none⟩) hb h5, hk.cell (p := ⟨b, o + 5, none⟩) hb h6, hk.cell (p := ⟨b, o + 6, none⟩) hb h7, h8.kept hk hs⟩
theorem UpAt.mono {F G : Nat → Prop} {w : World} {b o : Nat} {x : Up} (h : UpAt w F b o x) (hG : ∀ k, k < w.heap.size → F k → G k) : UpAt w G b o x := by
  obtain ⟨u, h1, h2, h3, h4, h5, h6, h7, h8⟩ := h
  exact ⟨u, h1, h2, h3, h4, h5, h6, h7, h8.mono hG⟩
/-- A slice that reads as these updates, in blocks of F. -/
def UsAt (w : World) (F : Nat → Prop) (v : Value) (l : List Up) : Prop :=
  ∃ a c, v = .slice a l.length c ∧ l.length ≤ c ∧ c ≤ maxLen ∧ (a = none → c = 0) ∧ (0 < l.length → ∃ b o, a = some ⟨b, o, none⟩ ∧ F b ∧ b < w.heap.size ∧ ∀ j, j < l.length → UpAt w F b (o + j * 7) (nthU l j))
theorem UsAt.nil (w : World) (F : Nat → Prop) : UsAt w F (.slice none 0 0) [] := ⟨none, 0, rfl, Nat.le_refl _, Nat.zero_le _, fun _ => rfl, fun h => absurd h (by simp)⟩
theorem UsAt.form {w : World} {F : Nat → Prop} {v : Value} {l : List Up} (h : UsAt w F v l) : ∃ a c, v = .slice a l.length c := by
  obtain ⟨a, c, h, _⟩ := h
  exact ⟨a, c, h⟩
theorem UsAt.kept {S F : Nat → Prop} {w w' : World} {v : Value} {l : List Up} (h : UsAt w F v l) (hk : Kept S w w') (hs : ∀ k, F k → ¬ S k) : UsAt w' F v l := by
  obtain ⟨a, c, h1, h2, h3, h4, h5⟩ := h
  exact ⟨a, c, h1, h2, h3, h4, fun hp => by
    obtain ⟨b, o, e, hF, hb, hc⟩ := h5 hp
    exact ⟨b, o, e, hF, Nat.lt_of_lt_of_le hb hk.size, fun j hj => (hc j hj).kept hk (hs b hF) hs⟩⟩
theorem UsAt.no {F : Nat → Prop} {w w' : World} {v : Value} {l : List Up} (h : UsAt w F v l) (hk : Kept NoB w w') : UsAt w' F v l := h.kept hk (fun _ _ h => h)
theorem UsAt.mono {F G : Nat → Prop} {w : World} {v : Value} {l : List Up} (h : UsAt w F v l) (hG : ∀ k, k < w.heap.size → F k → G k) : UsAt w G v l := by
  obtain ⟨a, c, h1, h2, h3, h4, h5⟩ := h
  exact ⟨a, c, h1, h2, h3, h4, fun hp => by
    obtain ⟨b, o, e, hF, hb, hc⟩ := h5 hp
    exact ⟨b, o, e, hG b hb hF, hb, fun j hj => (hc j hj).mono hG⟩⟩
theorem UsAt.at_ {w : World} {F : Nat → Prop} {a : Option Addr} {n c : Nat} {l : List Up} (h : UsAt w F (.slice a n c) l) {j : Nat} (hj : j < l.length) : ∃ b o, a = some ⟨b, o, none⟩ ∧ F b ∧ b < w.heap.size ∧ UpAt w F b (o + j * 7) (nthU l j) := by
  obtain ⟨a', c', e, h2, h3, h4, h5⟩ := h
  injection e with e1 e2 e3
  subst e1 e3
  obtain ⟨b, o, e, hF, hb, hc⟩ := h5 (by omega)
  exact ⟨b, o, e, hF, hb, hc j hj⟩
theorem UsAt.len {w : World} {F : Nat → Prop} {a : Option Addr} {n c : Nat} {l : List Up} (h : UsAt w F (.slice a n c) l) : n = l.length ∧ n ≤ c ∧ c ≤ maxLen ∧ (a = none → c = 0) := by
  obtain ⟨a', c', e, h2, h3, h4, h5⟩ := h
  injection e with e1 e2 e3
  subst e1 e2 e3
  exact ⟨rfl, h2, h3, h4⟩
/-- The cells of updates, each with its data's slice. -/
def ucl (ps : List (Up × Value)) : List Value := ps.flatMap fun p => ucs p.1 p.2
theorem ucs_len (x : Up) (u : Value) : (ucs x u).length = 7 := rfl
theorem ucl_app (a b : List (Up × Value)) : ucl (a ++ b) = ucl a ++ ucl b := by simp [ucl]
theorem ucl_len (a : List (Up × Value)) : (ucl a).length = a.length * 7 := by
  induction a with
  | nil => rfl
  | cons p a ih =>
    have : ucl (p :: a) = ucs p.1 p.2 ++ ucl a := rfl
    rw [this, List.length_append, ih, List.length_cons, ucs_len]
    omega
theorem ucl_at (a : List (Up × Value)) (j i : Nat) (hj : j < a.length) (hi : i < 7) : (ucl a)[j * 7 + i]? = (ucs (a[j]).1 (a[j]).2)[i]? := by
  induction a generalizing j with
  | nil => exact absurd hj (by simp)
  | cons p a ih =>
    have e : ucl (p :: a) = ucs p.1 p.2 ++ ucl a := rfl
    rw [e]
    cases j with
    | zero =>
      rw [Nat.zero_mul, Nat.zero_add, List.getElem?_append_left (by rw [ucs_len]; exact hi)]
      rfl
    | succ j =>
      rw [List.getElem?_append_right (by rw [ucs_len]; omega)]
      simp only [ucs_len, List.getElem_cons_succ]
      rw [show (j + 1) * 7 + i - 7 = j * 7 + i by omega]
      exact ih j (by simpa using hj)
/-- A row of updates of the call's own, from block B on; e: the element type. -/
def UOw (e : TypeId) (B : Nat) (w : World) (v : Value) (ps : List (Up × Value)) : Prop := w.ownsRow B e 7 v ps.length (ucl ps)
theorem UOw.nil (e : TypeId) (B : Nat) (w : World) : UOw e B w (.slice none 0 0) [] := World.ownsRow_nil _ _ _ _
theorem UOw.form {e : TypeId} {B : Nat} {w : World} {v : Value} {l : List (Up × Value)} (h : UOw e B w v l) : ∃ a c, v = .slice a l.length c := by
  rcases h.2 with ⟨rfl, h0⟩ | ⟨r, cap, cur, rfl, _⟩
  · exact ⟨none, 0, by rw [h0]⟩
  · exact ⟨_, _, rfl⟩
theorem UOw.kept {S : Nat → Prop} {e : TypeId} {B : Nat} {w w' : World} {v : Value} {l : List (Up × Value)} (h : UOw e B w v l) (hk : Kept S w w') (hs : ∀ k, v.ownBlock = some k → ¬ S k) : UOw e B w' v l := by
  refine ⟨h.1, ?_⟩
  rcases h.2 with hn | ⟨r, cap, cur, rfl, hb, hr, rest⟩
  · exact .inl hn
  · exact .inr ⟨r, cap, cur, rfl, hb, hk.heap (hs r rfl) hr, rest⟩
theorem UOw.no {e : TypeId} {B : Nat} {w w' : World} {v : Value} {l : List (Up × Value)} (h : UOw e B w v l) (hk : Kept NoB w w') : UOw e B w' v l := h.kept hk (fun _ _ h => h)
theorem UOw.base {e : TypeId} {B : Nat} {w : World} {v : Value} {l : List (Up × Value)} (h : UOw e B w v l) (k : Nat) (hk : v.ownBlock = some k) : B ≤ k ∧ k < w.heap.size := by
  rcases h.2 with ⟨rfl, _⟩ | ⟨r, cap, cur, rfl, hb, hr, _⟩
  · cases hk
  · injection hk with hk
    subst hk
    exact ⟨hb, heap_lt hr⟩
theorem UOw.mono {e : TypeId} {B C : Nat} {w : World} {v : Value} {l : List (Up × Value)} (h : UOw e B w v l) (hB : C ≤ B) : UOw e C w v l := by
  refine ⟨h.1, ?_⟩
  rcases h.2 with hn | ⟨r, cap, cur, rfl, hb, rest⟩
  · exact .inl hn
  · exact .inr ⟨r, cap, cur, rfl, Nat.le_trans hB hb, rest⟩
/-- Its data lie in blocks of F. -/
def DatU (w : World) (F : Nat → Prop) (ps : List (Up × Value)) : Prop := ∀ p ∈ ps, BSl w F p.2 p.1.d
theorem DatU.kept {S F : Nat → Prop} {w w' : World} {ps : List (Up × Value)} (h : DatU w F ps) (hk : Kept S w w') (hs : ∀ k, F k → ¬ S k) : DatU w' F ps := fun p hp => (h p hp).kept hk hs
theorem DatU.mono {F G : Nat → Prop} {w : World} {ps : List (Up × Value)} (h : DatU w F ps) (hG : ∀ k, k < w.heap.size → F k → G k) : DatU w G ps := fun p hp => (h p hp).mono hG
theorem UOw.us {e : TypeId} {B : Nat} {w : World} {v : Value} {ps : List (Up × Value)} {F : Nat → Prop} (h : UOw e B w v ps) (hF : ∀ k, v.ownBlock = some k → F k) (hn : DatU w F ps) : UsAt w F v (ps.map Prod.fst) := by
  have hl : (ps.map Prod.fst).length = ps.length := List.length_map _
  rcases h.2 with ⟨rfl, h0⟩ | ⟨r, cap, cur, rfl, hb, hr, hc, hm, _⟩
  · obtain rfl : ps = [] := List.eq_nil_of_length_eq_zero h0
    exact UsAt.nil w F
  · refine ⟨_, cap, by rw [hl], by rw [hl]; exact hc, hm, (fun h => by cases h), fun _ => ⟨r, 0, rfl, hF r rfl, heap_lt hr, fun j hj => ?_⟩⟩
    rw [hl] at hj
    have hx : ∀ i, i < 7 → ∀ u, (ucs (ps[j]).1 (ps[j]).2)[i]? = some u → w.cell? ⟨r, 0 + j * 7 + i, none⟩ = some u := fun i hi u hu => by
      have := h.cells (g := r) rfl (j * 7 + i) u (by rw [ucl_at ps j i hj hi]; exact hu)
      rw [addr_add17] at this
      rw [show 0 + j * 7 + i = 0 + (j * 7 + i) by omega]
      exact this
    have hnj : nthU (ps.map Prod.fst) j = (ps[j]).1 := by rw [nthU_at (by rw [hl]; exact hj)]; simp
    rw [hnj]
    exact ⟨(ps[j]).2, hx 0 (by omega) _ rfl, hx 1 (by omega) _ rfl, hx 2 (by omega) _ rfl, hx 3 (by omega) _ rfl, hx 4 (by omega) _ rfl, hx 5 (by omega) _ rfl, hx 6 (by omega) _ rfl, hn _ (List.getElem_mem hj)⟩
theorem ucs_one {w : World} {F : Nat → Prop} {x : Up} {y : Value} (h : BSl w F y x.d) : ∀ u ∈ ucs x y, u.oneCell' = true := by
  intro u hu
  simp only [ucs, List.mem_cons, List.not_mem_nil, or_false] at hu
  rcases hu with rfl | rfl | rfl | rfl | rfl | rfl | rfl
  iterate 6 rfl
  obtain ⟨_, _, he, _⟩ := h; rw [he]; rfl
section
variable {P : Program} (t e : TypeId) (i0 : TypeInfo) (ht : P.underlying t = some (.slice e)) (hi : P.info? e = some i0) (hz0 : i0.zero = some (.agg #[.int .u64 0, .int .i64 0, .int .u64 0, .int .i64 0, .int .u32 0, .int .u64 0, .slice none 0 0])) (hz1 : i0.size = 7) (hz2 : i0.bytes = 72)
include ht hi hz0 hz1 hz2
/-- append of one update that lies in a block to a row of the call's own. -/
theorem run_append_u1 (w : World) (base : Nat) (ty : TypeId) (v : Value) (ps : List (Up × Value)) (hown : UOw e base w v ps) (b : Nat) (c : Up) (u : Value) (t' : TypeId) (hb : w.heap[b]? = some (.cells #[.int .u64 c.q, .int .i64 c.c, .int .u64 c.n, .int .i64 c.k, .int .u32 c.key, .int .u64 c.r, u] t' (0, 0))) (hu : u.oneCell' = true) (hl : ps.length ≤ 100000) (hbase : base ≤ w.heap.size) :
    ∃ a' c' w', (Builtin.append_ #[t, t] ty #[v, .slice (some ⟨b, 0, none⟩) 1 1]).run P w = .ok (.slice a' (ps.length + 1) c') w' ∧ UOw e base w' (.slice a' (ps.length + 1) c') (ps ++ [(c, u)]) ∧ w.grownBy w' v.ownBlock ∧ ((Value.slice a' (ps.length + 1) c').ownBlock = v.ownBlock ∨ (Value.slice a' (ps.length + 1) c').ownBlock = some w.heap.size) := by
  obtain ⟨v', w', hrun, h2, h3, _, h5⟩ := run_append_own_at (P := P) w base t ty e i0 _ 7 72 ht hi hz0 hz1 hz2 rfl (by decide) v ps.length _ hown ⟨b, 0, none⟩ 1 1 (ucl [(c, u)]) (by simp [ucl, ucs]) (World.news_of_block hb) (by
    intro x hx
    simp only [ucl, ucs, List.flatMap_cons, List.flatMap_nil, List.append_nil, List.mem_cons, List.not_mem_nil, or_false] at hx
    rcases hx with rfl | rfl | rfl | rfl | rfl | rfl | rfl
    iterate 6 rfl
    exact hu) (by unfold maxLen; omega) (by omega) hbase
  have h2' : UOw e base w' v' (ps ++ [(c, u)]) := by
    unfold UOw
    rw [ucl_app, List.length_append]
    exact h2
  obtain ⟨a', c', ee⟩ := h2'.form
  rw [List.length_append] at ee
  have ee : v' = .slice a' (ps.length + 1) c' := ee
  subst ee
  exact ⟨a', c', w', hrun, h2', h3, h5⟩
theorem wpList_append_u1 (w : World) {ops : Array Oper} {rest : List Oper} {o : Oper} {a : Act} {Q : Exit → Act → World → Prop} (hgd : o.guard = none) (s x : Operand)
    (ho : o.op = .call { callee := .builtin .append, args := #[s, x], argTypes := #[t, t] })
    (base : Nat) (v : Value) (ps : List (Up × Value)) (hs : a.eval s = v) (hown : UOw e base w v ps) (b : Nat) (c : Up) (u : Value) (t' : TypeId) (hx : a.eval x = .slice (some ⟨b, 0, none⟩) 1 1) (hb : w.heap[b]? = some (.cells #[.int .u64 c.q, .int .i64 c.c, .int .u64 c.n, .int .i64 c.k, .int .u32 c.key, .int .u64 c.r, u] t' (0, 0))) (hu : u.oneCell' = true) (hl : ps.length ≤ 100000) (hbase : base ≤ w.heap.size) (N : Nat) (hN : ps.length + 1 = N)
    (h : ∀ a' c' w', UOw e base w' (.slice a' N c') (ps ++ [(c, u)]) → w.grownBy w' v.ownBlock → ((Value.slice a' N c').ownBlock = v.ownBlock ∨ (Value.slice a' N c').ownBlock = some w.heap.size) → wpList P ops Q rest (a.put o.dst (.slice a' N c')) w') : wpList P ops Q (o :: rest) a w :=
  wpList_plain hgd fun K hK => by
    subst hN
    obtain ⟨a', c', w', hrun, h2, h3, h4⟩ := run_append_u1 t e i0 ht hi hz0 hz1 hz2 w base o.type v ps hown b c u t' hb hu hl hbase
    unfold Oper.wp execOp
    simp only [ho, resolve, invoke, builtin, Sem.run_bind, Sem.run_pure, Result.andThen_ok, List.map_toArray, List.map_cons, List.map_nil, hs, hx, hrun]
    exact hK _ _ (h a' c' w' h2 h3 h4)
end
end Go.Proofs.YtnnmkmipeoajjaaGreatDoor
